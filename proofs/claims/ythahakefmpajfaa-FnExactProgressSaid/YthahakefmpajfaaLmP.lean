/- The walk of the exact law of Progress. -/
import Derived.Test.YthahakefmpajfaaLmO
import Derived.Test.YthahakefmpajfaaLmE
import Derived.Test.YthahakefmpajfaaLkP
import Derived.Test.YthahakefmpajfaaLkJ
import Derived.Test.YthahakefmpajfaaLkR
import Derived.Deep.RegionWith
import Derived.Deep.DeepCutAuto
import Derived.Test.YthahakefmpajfaaLjM
namespace Go.Proofs.Ythahakefmpajfaa
open Go.RowKit
set_option linter.unusedVariables false
set_option linter.unusedSimpArgs false

/-- .. and two lists of whole numbers. -/
def PgS (w : World) (c : Array Value) (ty : TypeId) (g o m : Nat) (mf : Nat → Mk) (tg tO n : Nat) (f : Nat → Sg) (b : Nat) (tx : TypeId) (cx : Array Value) (p q : Nat) (AW : Option Addr) (ll gW : Nat) (F : Nat → Int) (AG : Option Addr) (gG : Nat) (wr : World) : Prop :=
  ExT w c ty g o m mf tg tO n f b tx cx p q wr ∧ InB wr AW ll gW F ∧ InB wr AG ll gG F
theorem PgS.step {w w1 w2 : World} {c : Array Value} {ty : TypeId} {g o m : Nat} {mf : Nat → Mk} {tg tO n : Nat} {f : Nat → Sg} {b : Nat} {tx : TypeId} {cx : Array Value} {p q : Nat} {AW : Option Addr} {ll gW : Nat} {F : Nat → Int} {AG : Option Addr} {gG : Nat} (h : PgS w c ty g o m mf tg tO n f b tx cx p q AW ll gW F AG gG w1) (k : Below w1.heap.size w1 w2) : PgS w c ty g o m mf tg tO n f b tx cx p q AW ll gW F AG gG w2 := ⟨h.1.step k, h.2.1.below k (Nat.le_refl _), h.2.2.below k (Nat.le_refl _)⟩
theorem PgS.drew {w w1 : World} {c : Array Value} {ty : TypeId} {g o m : Nat} {mf : Nat → Mk} {tg tO n : Nat} {f : Nat → Sg} {b : Nat} {tx : TypeId} {cx : Array Value} {p q : Nat} {AW : Option Addr} {ll gW : Nat} {F : Nat → Int} {AG : Option Addr} {gG : Nat} (h : PgS w c ty g o m mf tg tO n f b tx cx p q AW ll gW F AG gG w1) : PgS w c ty g o m mf tg tO n f b tx cx p q AW ll gW F AG gG w1.drew := ⟨h.1.drew, h.2⟩
/-- A law's course and track, and two lists of whole numbers. -/
def PgU (w : World) (c : Array Value) (ty : TypeId) (g o m : Nat) (mf : Nat → Mk) (tg tO n : Nat) (f : Nat → Sg) (AW : Option Addr) (ll gW : Nat) (F : Nat → Int) (AG : Option Addr) (gG : Nat) (G : Nat → Int) (wr : World) : Prop :=
  CtS w c ty g o m mf tg tO n f wr ∧ InB wr AW ll gW F ∧ InB wr AG ll gG G
theorem PgU.step {w w1 w2 : World} {c : Array Value} {ty : TypeId} {g o m : Nat} {mf : Nat → Mk} {tg tO n : Nat} {f : Nat → Sg} {AW : Option Addr} {ll gW : Nat} {F : Nat → Int} {AG : Option Addr} {gG : Nat} {G : Nat → Int} (h : PgU w c ty g o m mf tg tO n f AW ll gW F AG gG G w1) (k : Below w1.heap.size w1 w2) : PgU w c ty g o m mf tg tO n f AW ll gW F AG gG G w2 := ⟨h.1.step k, h.2.1.below k (Nat.le_refl _), h.2.2.below k (Nat.le_refl _)⟩
theorem InB.kept {w w' : World} {A : Option Addr} {n g : Nat} {f : Nat → Int} {r : Option Nat} (h : InB w A n g f) (k : w.grownBy w' r) (hr : 0 < n → r ≠ some g) : InB w' A n g f := h.same fun hn => by
  obtain ⟨_, cs, t, h1, _⟩ := h hn
  exact k.block g (block_lt h1) (fun e => hr hn e.symm)
theorem PgU.far {w w1 w2 : World} {c : Array Value} {ty : TypeId} {g o m : Nat} {mf : Nat → Mk} {tg tO n : Nat} {f : Nat → Sg} {AW : Option Addr} {ll gW : Nat} {F : Nat → Int} {AG : Option Addr} {gG : Nat} {G : Nat → Int} {r : Option Nat} (h : PgU w c ty g o m mf tg tO n f AW ll gW F AG gG G w1) (gr : w1.grownBy w2 r) (hr : ∀ k, r = some k → w.heap.size < k) (hg : 0 < m → g < w.heap.size) (ht : 0 < n → tg < w.heap.size)
    (n1 : 0 < ll → r ≠ some gW) (n2 : 0 < ll → r ≠ some gG) : PgU w c ty g o m mf tg tO n f AW ll gW F AG gG G w2 := ⟨h.1.far gr hr hg ht, h.2.1.kept gr n1, h.2.2.kept gr n2⟩
theorem PgU.mark {w w1 w2 : World} {c : Array Value} {ty : TypeId} {g o m : Nat} {mf : Nat → Mk} {tg tO n : Nat} {f : Nat → Sg} {AW : Option Addr} {ll gW : Nat} {F : Nat → Int} {AG : Option Addr} {gG : Nat} {G G' : Nat → Int} {r : Option Nat} (h : PgU w c ty g o m mf tg tO n f AW ll gW F AG gG G w1) (gr : w1.grownBy w2 r) (hr : ∀ k, r = some k → w.heap.size < k) (hg : 0 < m → g < w.heap.size) (ht : 0 < n → tg < w.heap.size)
    (n1 : 0 < ll → r ≠ some gW) (hG : InB w2 AG ll gG G') : PgU w c ty g o m mf tg tO n f AW ll gW F AG gG G' w2 := ⟨h.1.far gr hr hg ht, h.2.1.kept gr n1, hG⟩
theorem blk_mk {w : World} {b n : Nat} {f : Nat → Mk} (h : MkOwn w b n f) : Blk w b (n * 3) := by
  obtain ⟨cs, h1, h2, _⟩ := h
  exact ⟨cs, _, h1, by omega⟩
theorem blk_sg {w : World} {b n : Nat} {f : Nat → Sg} (h : SigOwn w b n f) : Blk w b (n * 3) := by
  obtain ⟨cs, h1, h2, _⟩ := h
  exact ⟨cs, _, h1, by omega⟩
theorem Blk.kept {w w' : World} {b k : Nat} {r : Option Nat} (h : Blk w b k) (gr : w.grownBy w' r) (hr : r ≠ some b) : Blk w' b k := by
  obtain ⟨cs, t, h1, h2⟩ := h
  exact ⟨cs, t, (gr.block b (block_lt h1) (fun e => hr e.symm)).trans h1, h2⟩
theorem if_some {n g k : Nat} (h : (if 0 < n then some g else none) = some k) : k = g := by
  split at h
  · exact (Option.some.inj h).symm
  · cases h
set_option maxRecDepth 100000 in
set_option maxHeartbeats 8000000 in
theorem w_FnExactProgress (x : Crs × Option Addr × Nat) (y : Option Addr × Nat × Nat × (Nat → Sg)) (b : Int) (w : World) (hx : MrkIn w x.2.1 x.1.n x.1.mf) (hy : TrkIn w y.1 y.2.1 y.2.2.2) (_ : (Lit.int .i64 b).wf = true) :
    Calls Try.prog 9 #[.agg #[.int .i64 x.1.st.1.1, .int .i64 x.1.st.1.2, .int .i64 x.1.st.2.1, .int .i64 x.1.st.2.2, .slice x.2.1 x.1.n x.2.2, .int .i64 x.1.fi.1.1, .int .i64 x.1.fi.1.2, .int .i64 x.1.fi.2.1, .int .i64 x.1.fi.2.2], .slice y.1 y.2.1 y.2.2.1, .int .i64 b] w fun e w' => e = .returned (.bool true) ∧ Below w.heap.size w w' := by
  obtain ⟨c, A, cap⟩ := x
  dsimp only at *
  obtain ⟨hcn, g, o, hA, hw⟩ := hx
  obtain ⟨TA, n, tcap, f⟩ := y
  dsimp only at *
  obtain ⟨hn, tg, tO, hT, hv⟩ := hy
  have GL := Lib.hid (And.intro (fun h : 0 < c.n => hw.lt h) (fun h : 0 < n => hv.lt h))
  have HS := Lib.hid (fun (h : c.n ≤ 1048576) (h2 : n ≤ 1048576) b1 q w (m : MkOwn w b1 c.n c.mf) (t : SigOwn w q n f) => s_pg c (some ⟨b1, 0, none⟩) b1 0 c.n f (some ⟨q, 0, none⟩) q 0 n n b w h (fun _ => rfl) m.mks h2 (fun _ => rfl) t.sigs)
  have HI := Lib.hid (fun (h : c.n ≤ 1048576) (h2 : n ≤ 1048576) b1 q w (m : MkOwn w b1 c.n c.mf) (t : SigOwn w q n f) => i_pg c (some ⟨b1, 0, none⟩) b1 0 c.n f (some ⟨q, 0, none⟩) q 0 n n b w h (fun _ => rfl) m.mks h2 (fun _ => rfl) t.sigs (Nat.le_refl _))
  have HZ := Lib.hid (fun w => l_szC 1048576 c A cap w (by omega) (by omega) hcn)
  have HC := Lib.hid (fun (h : c.n ≤ 1048576) w k => l_course c A g o cap w h hA k)
  have HQ := Lib.hid (fun (h : c.n ≤ 1048576) b b' w k k' => l_eqC c b b' w h k k')
  have HZ2 := Lib.hid (fun (r : Int) (h0 : 0 ≤ r) (h9 : r ≤ 1048576) w => l_szS2 r TA n tcap w h0 h9 hn)
  have HT := Lib.hid (fun (h : n ≤ 1048576) w (k : SigsIn w tg tO n f) => l_toS f TA tg tO n tcap w h hT k)
  have HE := Lib.hid (fun (h : n ≤ 1048576) q q' w (k : SigOwn w q n f) (k' : SigOwn w q' n f) => l_eqS f (some ⟨q, 0, none⟩) (some ⟨q', 0, none⟩) q 0 q' 0 n n n w h (fun _ => rfl) (fun _ => rfl) k.sigs k'.sigs)
  have hll := (pg_steps c n f c.n 0 b).1
  rw [show pgFrom c n f c.n 0 b = pgW c n f b from rfl] at hll
  generalize pgW c n f b = L at *
  obtain ⟨F, hF⟩ : ∃ F : Nat → Int, (fun j => L.getD j 0) = F := ⟨_, rfl⟩
  have HF := Lib.hid hF
  have hst := Lib.hid (CtS.new (c := #[.int .i64 c.st.1.1, .int .i64 c.st.1.2, .int .i64 c.st.2.1, .int .i64 c.st.2.2, .slice A c.n cap, .int .i64 c.fi.1.1, .int .i64 c.fi.1.2, .int .i64 c.fi.2.1, .int .i64 c.fi.2.2]) (ty := 50) hw hv)
  have HLL := Lib.hid hll
  clear hw hv hA hT hF hll
  go_enter Try.func9, Try.ntmps9
  obtain ⟨e0, e1, e2, e3, e4, e5, e6, e7, e8⟩ := cells9 hst.out.1.1.1
  go_wp2_with fail
  refine (HZ.out _).mono ?_
  rintro e w1 ⟨⟨s, hs, rfl⟩, bl⟩
  have hs2 := Lib.hid (hst.out.step bl)
  clear hst bl
  have hst := hs2
  clear hs2
  clear e0 e1 e2 e3 e4 e5 e6 e7 e8 HZ
  rcases hs with rfl | ⟨s0, hs1⟩
  · go_wp2
    go_ret
    exact ⟨rfl, hst.out.below⟩
  have s2 : ¬ s < 0 := by omega
  have s3 : s ≤ 1048576 := by omega
  have hcm := Lib.hid (show c.n ≤ 1048576 by omega)
  clear hs1
  go_wp2_with fail
  refine (HZ2.out s s0 s3 _).mono ?_
  rintro e w2 ⟨⟨u, hu, rfl⟩, rfl⟩
  rcases hu with rfl | ⟨u0, hu1⟩
  · go_wp2
    go_ret
    exact ⟨rfl, hst.out.below⟩
  have u2 : ¬ u < 0 := by omega
  have htm := Lib.hid (show n ≤ 1048576 by omega)
  clear hu1 HZ2
  obtain ⟨e0, e1, e2, e3, e4, e5, e6, e7, e8⟩ := cells9 hst.out.1.1.1
  go_wp2_with fail
  refine (HC.out hcm.out _ hst.out.1.2).mono ?_
  rintro e w3 ⟨b1, hb1, rfl, om, bl⟩
  have hs2 := Lib.hid (hst.out.step bl)
  clear hst bl
  have hst := hs2
  clear hs2
  clear e0 e1 e2 e3 e4 e5 e6 e7 e8 hb1
  go_wp2_with fail
  refine (HT.out htm.out _ hst.out.2).mono ?_
  rintro e w4 ⟨rfl, ot, bl⟩
  have om2 := om.below bl
  clear om
  have hs2 := Lib.hid (hst.out.step bl)
  clear hst bl
  have hst := hs2
  clear hs2
  go_wp2_with fail
  refine (HS.out hcm.out htm.out _ _ _ om2 ot).mono ?_
  rintro e w5 ⟨v, rfl, hown, bl⟩
  have hs2 := Lib.hid (hst.out.step bl)
  clear hst bl
  have hst := hs2
  clear hs2
  obtain ⟨AW, cW, gW, rfl, iW, lW⟩ := InB.of_owns hown
  rw [HF.out] at iW
  have IW := Lib.hid iW
  have NW := Lib.hid (fun h => (lW h).2.2)
  have N0 := Lib.hid (show w.heap.size < w5.heap.size from heap_lt hst.out.1.1.1)
  clear om2 ot HS hown iW lW
  obtain ⟨e0, e1, e2, e3, e4, e5, e6, e7, e8⟩ := cells9 hst.out.1.1.1
  go_wp2_with fail
  refine (HC.out hcm.out _ hst.out.1.2).mono ?_
  rintro e w6 ⟨b2, hb2, rfl, om, bl⟩
  have IW2 := Lib.hid (IW.out.below bl (Nat.le_refl _))
  have NB := Lib.hid (show w5.heap.size ≤ b2 ∧ b2 < w6.heap.size from ⟨hb2, by obtain ⟨cs, h1, _⟩ := om; exact heap_lt h1⟩)
  have hs2 := Lib.hid (hst.out.step bl)
  clear hst bl
  have hst := hs2
  clear hs2
  clear e0 e1 e2 e3 e4 e5 e6 e7 e8 hb2 IW
  have hst2 := Lib.hid (ExS.new hst.out om 36 #[.int .i64 c.st.1.1, .int .i64 c.st.1.2, .int .i64 c.st.2.1, .int .i64 c.st.2.2, .slice (some ⟨b2, 0, none⟩) c.n c.n, .int .i64 c.fi.1.1, .int .i64 c.fi.1.2, .int .i64 c.fi.2.1, .int .i64 c.fi.2.2])
  have IW := Lib.hid (IW2.out.below ((Below.refl _ w6).alloc (Nat.le_refl _) (.cells #[.int .i64 c.st.1.1, .int .i64 c.st.1.2, .int .i64 c.st.2.1, .int .i64 c.st.2.2, .slice (some ⟨b2, 0, none⟩) c.n c.n, .int .i64 c.fi.1.1, .int .i64 c.fi.1.2, .int .i64 c.fi.2.1, .int .i64 c.fi.2.2] 36)) (Nat.le_refl _))
  have NP := Lib.hid (show (w6.alloc (.cells #[.int .i64 c.st.1.1, .int .i64 c.st.1.2, .int .i64 c.st.2.1, .int .i64 c.st.2.2, .slice (some ⟨b2, 0, none⟩) c.n c.n, .int .i64 c.fi.1.1, .int .i64 c.fi.1.2, .int .i64 c.fi.2.1, .int .i64 c.fi.2.2] 36)).heap.size = w6.heap.size + 1 by simp)
  clear hst om IW2
  go_wp2_with fail
  generalize hW : w6.alloc _ = W at *
  generalize w6.heap.size = p at *
  clear hW
  refine (HT.out htm.out _ hst2.out.1.2).mono ?_
  rintro e w7 ⟨rfl, ot, bl⟩
  have IW2 := Lib.hid (IW.out.below bl (Nat.le_refl _))
  have hst := Lib.hid (ExT.new (hst2.out.step bl) ot)
  have NQ := Lib.hid (show W.heap.size < w7.heap.size by obtain ⟨cs, h1, _⟩ := ot; exact heap_lt h1)
  clear bl ot hst2 IW
  generalize W.heap.size = q at *
  obtain ⟨p0, p1, p2, p3, p4, p5, p6, p7, p8⟩ := cells9 hst.out.1.2.2
  go_wp2_with fail
  refine (HI.out hcm.out htm.out _ _ _ hst.out.1.2.1 hst.out.2).mono ?_
  rintro e w8 ⟨v, rfl, hown, bl⟩
  obtain ⟨AG, cG, gG, rfl, iG, lG⟩ := InB.of_owns hown
  rw [HF.out] at iG
  have ND := Lib.hid (fun h : 0 < L.length => (show gW ≠ b2 ∧ gW ≠ q ∧ gG ≠ b2 ∧ gG ≠ q ∧ gW ≠ gG from by
    have a1 := NW.out h
    have a2 := NB.out
    have a3 := NP.out
    have a4 := NQ.out
    have a5 := (lG h).2.1
    omega))
  have NL := Lib.hid (show w.heap.size < b2 ∧ w.heap.size < q ∧ b2 ≠ q ∧ (0 < L.length → w.heap.size < gG) from by
    have a1 := N0.out
    have a2 := NB.out
    have a3 := NP.out
    have a4 := NQ.out
    refine ⟨by omega, by omega, by omega, fun h => ?_⟩
    have a5 := (lG h).2.1
    omega)
  have hs2 := Lib.hid (show PgS w #[.int .i64 c.st.1.1, .int .i64 c.st.1.2, .int .i64 c.st.2.1, .int .i64 c.st.2.2, .slice A c.n cap, .int .i64 c.fi.1.1, .int .i64 c.fi.1.2, .int .i64 c.fi.2.1, .int .i64 c.fi.2.2] 50 g o c.n c.mf tg tO n f b2 36 #[.int .i64 c.st.1.1, .int .i64 c.st.1.2, .int .i64 c.st.2.1, .int .i64 c.st.2.2, .slice (some ⟨b2, 0, none⟩) c.n c.n, .int .i64 c.fi.1.1, .int .i64 c.fi.1.2, .int .i64 c.fi.2.1, .int .i64 c.fi.2.2] p q AW L.length gW F AG gG w8 from ⟨hst.out.step bl, IW2.out.below bl (Nat.le_refl _), iG⟩)
  clear hst bl IW2 hown iG lG NW N0 NB NP NQ p0 p1 p2 p3 p4 p5 p6 p7 p8
  have hst := hs2
  clear hs2
  have lm := HLL.out
  have HQI := Lib.hid (fun A1 A2 c1 c2 g1 g2 w h1 h2 => l_eqIn F A1 A2 L.length c1 c2 g1 g2 w h1 h2 (by have := hcm.out; omega))
  have HMI := Lib.hid (fun w h => l_mkI AG L.length cG gG 1 F w h (by have := hcm.out; omega) (by omega) (by omega))
  have HHI := Lib.hid (fun w h => l_hdI AG L.length cG gG 1 w h (by have := hcm.out; omega) (by omega) (by omega))
  have HMC := Lib.hid (fun x1 x2 x3 x4 t1 t2 t3 t4 w (h : Blk w b2 (c.n * 3)) => l_mkC (some ⟨b2, 0, none⟩) c.n c.n b2 x1 x2 x3 x4 t1 t2 t3 t4 1 w (fun _ => ⟨rfl, h⟩) hcm.out (by omega) (by omega))
  have HMS := Lib.hid (fun w (h : Blk w q (n * 3)) => l_mkS (some ⟨q, 0, none⟩) n n q (1 + 3 * (c.n : Int)) w (fun _ => ⟨rfl, h⟩) htm.out (by omega) (by have := hcm.out; omega))
  have hlb := Lib.hid (show L.length ≤ 1048576 by have := hcm.out; omega)
  clear lm
  generalize hlg : L.length = ll at *
  have HLG := Lib.hid hlg
  clear hlg
  go_wp2_with fail
  refine (HQI.out _ _ _ _ _ _ _ hst.out.2.2 hst.out.2.1).mono ?_
  rintro e w9 ⟨rfl, bl⟩
  have hs2 := Lib.hid (hst.out.step bl)
  clear hst bl
  have hst := hs2
  clear hs2
  go_upto_region 14 with fail
  go_cut [48] (fun s48 wx => s48 = .bool false ∧ PgS w #[.int .i64 c.st.1.1, .int .i64 c.st.1.2, .int .i64 c.st.2.1, .int .i64 c.st.2.2, .slice A c.n cap, .int .i64 c.fi.1.1, .int .i64 c.fi.1.2, .int .i64 c.fi.2.1, .int .i64 c.fi.2.2] 50 g o c.n c.mf tg tO n f b2 36 #[.int .i64 c.st.1.1, .int .i64 c.st.1.2, .int .i64 c.st.2.1, .int .i64 c.st.2.2, .slice (some ⟨b2, 0, none⟩) c.n c.n, .int .i64 c.fi.1.1, .int .i64 c.fi.1.2, .int .i64 c.fi.2.1, .int .i64 c.fi.2.2] p q AW ll gW F AG gG wx)
  case first =>
    obtain ⟨p0, p1, p2, p3, p4, p5, p6, p7, p8⟩ := cells9 hst.out.1.1.2.2
    obtain ⟨e0, e1, e2, e3, e4, e5, e6, e7, e8⟩ := cells9 hst.out.1.1.1.1.1.1
    go_region_with ((first
      | (go_at_call 24; refine (HC.out hcm.out w9.drew hst.out.1.1.1.1.2).mono ?_; rintro e wa ⟨b3, hb3, rfl, om3, bl⟩; have hs9 := Lib.hid (hst.out.drew.step bl); obtain ⟨r0, r1, r2, r3, r4, r5, r6, r7, r8⟩ := cells9 hs9.out.1.1.2.2; clear bl hb3)
      | (go_at_call 26; refine (HQ.out hcm.out _ _ _ hs9.out.1.1.2.1 om3).mono ?_; rintro e wb ⟨rfl, bl⟩; have hsA := Lib.hid (hs9.out.step bl); clear bl)))
    all_goals (
      go_wp2_with fail
      go_meet
      exact ⟨rfl, hsA.out⟩)
  case rest =>
  obtain ⟨rfl, hc⟩ := hcut
  have hs2 := Lib.hid hc
  clear hst hc
  have hst := hs2
  clear hs2
  go_wp2_with fail
  refine (HT.out htm.out _ hst.out.1.1.1.2).mono ?_
  rintro e wd ⟨rfl, ot, bl⟩
  have hs2 := Lib.hid (hst.out.step bl)
  clear hst bl
  have hst := hs2
  clear hs2
  go_wp2_with fail
  refine (HE.out htm.out _ _ _ hst.out.1.2 ot).mono ?_
  rintro e we ⟨rfl, bl⟩
  have hs2 := Lib.hid (hst.out.step bl)
  clear hst bl
  have hst := hs2
  clear hs2
  clear ot
  obtain ⟨p0, p1, p2, p3, p4, p5, p6, p7, p8⟩ := cells9 hst.out.1.1.2.2
  go_wp2_with fail
  refine (HMC.out _ _ _ _ _ _ _ _ _ (blk_mk hst.out.1.1.2.1)).mono ?_
  rintro e wf ⟨rfl, gr⟩
  have BQ := Lib.hid ((blk_sg hst.out.1.2).kept gr (fun e => by have := if_some e; have := NL.out.2.2.1; omega))
  have hu := Lib.hid (PgU.far ⟨hst.out.1.1.1, hst.out.2.1, hst.out.2.2⟩ gr (fun k e => by have := if_some e; have := NL.out.1; omega) GL.out.1 GL.out.2 (fun h e => by have := if_some e; have := (ND.out h).1; omega) (fun h e => by have := if_some e; have := (ND.out h).2.2.1; omega))
  clear hst gr p0 p1 p2 p3 p4 p5 p6 p7 p8 HMC
  go_wp2_with fail
  refine (HMS.out _ BQ.out).mono ?_
  rintro e wg ⟨rfl, gr⟩
  have hu2 := Lib.hid (hu.out.far gr (fun k e => by have := if_some e; have := NL.out.2.1; omega) GL.out.1 GL.out.2 (fun h e => by have := if_some e; have := (ND.out h).2.1; omega) (fun h e => by have := if_some e; have := (ND.out h).2.2.2.1; omega))
  clear hu gr BQ HMS
  have k0 : ¬ (1 + 3 * (c.n : Int) + 3 * (n : Int)) < 0 := by omega
  have k1 : decide ((1 + 3 * (c.n : Int) + 3 * (n : Int)) < 0) = false := decide_eq_false k0
  generalize (1 + 3 * (c.n : Int) + 3 * (n : Int)) = kq at *
  go_wp2_with fail
  refine (HQI.out _ _ _ _ _ _ _ hu2.out.2.2 hu2.out.2.1).mono ?_
  rintro e wh ⟨rfl, bl⟩
  have hu := Lib.hid (hu2.out.step bl)
  clear hu2 bl k0 k1
  go_wp2_with fail
  refine (HMI.out _ hu.out.2.2).mono ?_
  rintro e wi ⟨rfl, ig, gr⟩
  have hu2 := Lib.hid (hu.out.mark gr (fun k e => by
    split at e
    · rename_i hl
      have := Option.some.inj e
      have := NL.out.2.2.2 hl
      omega
    · cases e) GL.out.1 GL.out.2 (fun h e => by have := if_some e; have := (ND.out h).2.2.2.2; omega) ig)
  clear hu gr ig HMI
  have m0 : ¬ (1 + (ll : Int)) < 0 := by omega
  have m1 : ((1 + (ll : Int)) == 1 + (ll : Int)) = true := by simp
  go_wp2_with fail
  refine (HHI.out _ hu2.out.2.2).mono ?_
  rintro e wj ⟨rfl, rfl⟩
  obtain ⟨e0, e1, e2, e3, e4, e5, e6, e7, e8⟩ := cells9 hu2.out.1.1.1.1
  go_wp2_with fail
  refine (HC.out hcm.out _ hu2.out.1.1.2).mono ?_
  rintro e wk ⟨b4, hb4, rfl, om, bl⟩
  have hu := Lib.hid (hu2.out.step bl)
  clear hu2 bl hb4 e0 e1 e2 e3 e4 e5 e6 e7 e8
  go_wp2_with fail
  refine (HT.out htm.out _ hu.out.1.2).mono ?_
  rintro e wl ⟨rfl, ot, bl⟩
  have om2 := om.below bl
  have hu2 := Lib.hid (hu.out.step bl)
  clear hu bl om
  go_wp2_with fail
  refine (HI.out hcm.out htm.out _ _ _ om2 ot).mono ?_
  rintro e wm ⟨v, rfl, hown, bl⟩
  have hu := Lib.hid (hu2.out.step bl)
  clear hu2 bl om2 ot
  obtain ⟨AH, cH, gH, rfl, iH, _⟩ := InB.of_owns hown
  rw [HF.out] at iH
  clear hown
  rw [HLG.out] at iH ⊢
  go_wp2_with fail
  refine (HQI.out _ _ _ _ _ _ _ iH hu.out.2.1).mono ?_
  rintro e wn ⟨rfl, bl⟩
  have hu2 := Lib.hid (hu.out.step bl)
  clear hu bl iH
  go_wp2_with fail
  refine (HHI.out _ hu2.out.2.2).mono ?_
  rintro e wo ⟨rfl, rfl⟩
  go_wp2
  go_ret
  exact ⟨rfl, hu2.out.1.below⟩
end Go.Proofs.Ythahakefmpajfaa
