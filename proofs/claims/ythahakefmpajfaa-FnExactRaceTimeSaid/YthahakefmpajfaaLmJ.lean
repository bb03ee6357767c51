/- The walks of the exact laws of chapter 10: courses, rays, roundings, times. -/
import Derived.Test.YthahakefmpajfaaLmF
import Derived.Test.YthahakefmpajfaaLkJ
import Derived.Test.YthahakefmpajfaaLjM
namespace Go.Proofs.Ythahakefmpajfaa
open Go.RowKit
set_option linter.unusedVariables false
set_option linter.unusedSimpArgs false

/-- A law's course and track, and the law's own course in a box (and its marks). -/
def ExS (w : World) (c : Array Value) (ty : TypeId) (g o m : Nat) (mf : Nat → Mk) (tg tO n : Nat) (f : Nat → Sg) (b : Nat) (tx : TypeId) (cx : Array Value) (p : Nat) (wr : World) : Prop := CtS w c ty g o m mf tg tO n f wr ∧ MkOwn wr b m mf ∧ wr.heap[p]? = some (.cells cx tx (0, 0))
theorem ExS.step {w w1 w2 : World} {c : Array Value} {ty : TypeId} {g o m : Nat} {mf : Nat → Mk} {tg tO n : Nat} {f : Nat → Sg} {b : Nat} {tx : TypeId} {cx : Array Value} {p : Nat} (h : ExS w c ty g o m mf tg tO n f b tx cx p w1) (k : Below w1.heap.size w1 w2) : ExS w c ty g o m mf tg tO n f b tx cx p w2 :=
  ⟨h.1.step k, h.2.1.below k, (k.block _ (heap_lt h.2.2)).trans h.2.2⟩
theorem ExS.drew {w w1 : World} {c : Array Value} {ty : TypeId} {g o m : Nat} {mf : Nat → Mk} {tg tO n : Nat} {f : Nat → Sg} {b : Nat} {tx : TypeId} {cx : Array Value} {p : Nat} (h : ExS w c ty g o m mf tg tO n f b tx cx p w1) : ExS w c ty g o m mf tg tO n f b tx cx p w1.drew := ⟨h.1.drew, h.2⟩
theorem ExS.new {w w1 : World} {c : Array Value} {ty : TypeId} {g o m : Nat} {mf : Nat → Mk} {tg tO n : Nat} {f : Nat → Sg} {b : Nat} (h : CtS w c ty g o m mf tg tO n f w1) (k : MkOwn w1 b m mf) (tx : TypeId) (cx : Array Value) : ExS w c ty g o m mf tg tO n f b tx cx w1.heap.size (w1.alloc (.cells cx tx)) :=
  ⟨h.step ((Below.refl _ _).alloc (Nat.le_refl _) _), k.below ((Below.refl _ _).alloc (Nat.le_refl _) _), heap_alloc_new w1 _⟩
/-- .. and its own track. -/
def ExT (w : World) (c : Array Value) (ty : TypeId) (g o m : Nat) (mf : Nat → Mk) (tg tO n : Nat) (f : Nat → Sg) (b : Nat) (tx : TypeId) (cx : Array Value) (p q : Nat) (wr : World) : Prop := ExS w c ty g o m mf tg tO n f b tx cx p wr ∧ SigOwn wr q n f
theorem ExT.new {w w1 : World} {c : Array Value} {ty : TypeId} {g o m : Nat} {mf : Nat → Mk} {tg tO n : Nat} {f : Nat → Sg} {b : Nat} {tx : TypeId} {cx : Array Value} {p q : Nat} (h : ExS w c ty g o m mf tg tO n f b tx cx p w1) (k : SigOwn w1 q n f) : ExT w c ty g o m mf tg tO n f b tx cx p q w1 := ⟨h, k⟩
theorem ExT.step {w w1 w2 : World} {c : Array Value} {ty : TypeId} {g o m : Nat} {mf : Nat → Mk} {tg tO n : Nat} {f : Nat → Sg} {b : Nat} {tx : TypeId} {cx : Array Value} {p q : Nat} (h : ExT w c ty g o m mf tg tO n f b tx cx p q w1) (k : Below w1.heap.size w1 w2) : ExT w c ty g o m mf tg tO n f b tx cx p q w2 := ⟨h.1.step k, h.2.below k⟩
theorem ExT.drew {w w1 : World} {c : Array Value} {ty : TypeId} {g o m : Nat} {mf : Nat → Mk} {tg tO n : Nat} {f : Nat → Sg} {b : Nat} {tx : TypeId} {cx : Array Value} {p q : Nat} (h : ExT w c ty g o m mf tg tO n f b tx cx p q w1) : ExT w c ty g o m mf tg tO n f b tx cx p q w1.drew := ⟨h.1.drew, h.2⟩
set_option maxRecDepth 100000 in
set_option maxHeartbeats 4000000 in
theorem w_FnExactCourseOk (x : Crs × Option Addr × Nat) (w : World) (hx : MrkIn w x.2.1 x.1.n x.1.mf) :
    Calls Try.prog 6 #[.agg #[.int .i64 x.1.st.1.1, .int .i64 x.1.st.1.2, .int .i64 x.1.st.2.1, .int .i64 x.1.st.2.2, .slice x.2.1 x.1.n x.2.2, .int .i64 x.1.fi.1.1, .int .i64 x.1.fi.1.2, .int .i64 x.1.fi.2.1, .int .i64 x.1.fi.2.2]] w fun e w' => e = .returned (.bool true) ∧ Below w.heap.size w w' := by
  obtain ⟨c, A, cap⟩ := x
  dsimp only at *
  obtain ⟨hcn, g, o, hA, hw⟩ := hx
  obtain ⟨n, hnn⟩ : ∃ n : Nat, n = 0 := ⟨0, rfl⟩
  have hv : SigsIn w 0 0 n (fun _ => ((0, 0), 0)) := fun j hj => by omega
  generalize (fun _ => ((0, 0), 0) : Nat → Sg) = f at hv
  generalize 0 = tg at hv
  clear hnn
  have HS := Lib.hid (fun (h : c.n ≤ 1048576) b1 w (m : MkOwn w b1 c.n c.mf) => s_co c (some ⟨b1, 0, none⟩) b1 0 c.n w h (fun _ => rfl) m.mks)
  have HI := Lib.hid (fun (h : c.n ≤ 1048576) b1 w (m : MkOwn w b1 c.n c.mf) => i_co c (some ⟨b1, 0, none⟩) b1 0 c.n w h (fun _ => rfl) m.mks)
  have HZ := Lib.hid (fun w => l_szC 1048576 c A cap w (by omega) (by omega) hcn)
  have HC := Lib.hid (fun (h : c.n ≤ 1048576) w k => l_course c A g o cap w h hA k)
  have HQ := Lib.hid (fun (h : c.n ≤ 1048576) b b' w k k' => l_eqC c b b' w h k k')
  generalize coB c = t0 at *
  have hst := Lib.hid (CtS.new (c := #[.int .i64 c.st.1.1, .int .i64 c.st.1.2, .int .i64 c.st.2.1, .int .i64 c.st.2.2, .slice A c.n cap, .int .i64 c.fi.1.1, .int .i64 c.fi.1.2, .int .i64 c.fi.2.1, .int .i64 c.fi.2.2]) (ty := 50) hw hv)
  clear hw hv hA
  cases t0
  all_goals
    go_enter Try.func6, Try.ntmps6
    obtain ⟨e0, e1, e2, e3, e4, e5, e6, e7, e8⟩ := cells9 hst.out.1.1.1
    go_wp2_with fail
    refine (HZ.out _).mono ?_
    rintro e w1 ⟨⟨s, hs, rfl⟩, bl⟩
    have hs2 := Lib.hid (hst.out.step bl)
    clear hst bl
    have hst := hs2
    clear hs2
    clear e0 e1 e2 e3 e4 e5 e6 e7 e8 HZ
    rcases hs with rfl | ⟨s0, hs1⟩
    · go_wp2
      go_ret
      exact ⟨rfl, hst.out.below⟩
    have s2 : ¬ s < 0 := by omega
    have s3 : s ≤ 1048576 := by omega
    have hcm := Lib.hid (show c.n ≤ 1048576 by omega)
    clear hs1
    obtain ⟨e0, e1, e2, e3, e4, e5, e6, e7, e8⟩ := cells9 hst.out.1.1.1
    go_wp2_with fail
    refine (HC.out hcm.out _ hst.out.1.2).mono ?_
    rintro e w3 ⟨b1, hb1, rfl, om, bl⟩
    have hs2 := Lib.hid (hst.out.step bl)
    clear hst bl
    have hst := hs2
    clear hs2
    clear e0 e1 e2 e3 e4 e5 e6 e7 e8 hb1
    go_wp2_with fail
    refine (HS.out hcm.out _ _ om).mono ?_
    rintro e w5 ⟨rfl, bl⟩
    have hs2 := Lib.hid (hst.out.step bl)
    clear hst bl
    have hst := hs2
    clear hs2
    clear om HS
    obtain ⟨e0, e1, e2, e3, e4, e5, e6, e7, e8⟩ := cells9 hst.out.1.1.1
    go_wp2_with fail
    refine (HC.out hcm.out _ hst.out.1.2).mono ?_
    rintro e w6 ⟨b2, hb2, rfl, om, bl⟩
    have hs2 := Lib.hid (hst.out.step bl)
    clear hst bl
    have hst := hs2
    clear hs2
    clear e0 e1 e2 e3 e4 e5 e6 e7 e8 hb2
    have hst2 := Lib.hid (ExS.new hst.out om 36 #[.int .i64 c.st.1.1, .int .i64 c.st.1.2, .int .i64 c.st.2.1, .int .i64 c.st.2.2, .slice (some ⟨b2, 0, none⟩) c.n c.n, .int .i64 c.fi.1.1, .int .i64 c.fi.1.2, .int .i64 c.fi.2.1, .int .i64 c.fi.2.2])
    clear hst om
    go_wp2_with fail
    generalize hW : w6.alloc _ = W at *
    generalize w6.heap.size = p at *
    clear hW
    have hst := hst2
    clear hst2
    refine (HI.out hcm.out _ _ hst.out.2.1).mono ?_
    rintro e w8 ⟨rfl, bl⟩
    have hs2 := Lib.hid (hst.out.step bl)
    clear hst bl
    have hst := hs2
    clear hs2
    clear HI
    obtain ⟨p0, p1, p2, p3, p4, p5, p6, p7, p8⟩ := cells9 hst.out.2.2
    obtain ⟨e0, e1, e2, e3, e4, e5, e6, e7, e8⟩ := cells9 hst.out.1.1.1.1
    go_wp2
    go_region_with ((first
      | (go_at_call 24; refine (HC.out hcm.out w8.drew hst.out.1.1.2).mono ?_; rintro e w9 ⟨b3, hb3, rfl, om3, bl⟩; have hs9 := Lib.hid (hst.out.drew.step bl); obtain ⟨r0, r1, r2, r3, r4, r5, r6, r7, r8⟩ := cells9 hs9.out.2.2; clear bl hb3)
      | (go_at_call 26; refine (HQ.out hcm.out _ _ _ hs9.out.2.1 om3).mono ?_; rintro e w10 ⟨rfl, bl⟩; have hsA := Lib.hid (hs9.out.step bl); clear bl)))
    all_goals (
      go_wp2
      go_ret
      exact ⟨rfl, hsA.out.1.below⟩)
set_option maxRecDepth 100000 in
set_option maxHeartbeats 4000000 in
theorem w_FnExactPassRay (o m a b : Int × Int) (w : World) :
    Calls Try.prog 7 #[.agg #[.int .i64 o.1, .int .i64 o.2], .agg #[.int .i64 m.1, .int .i64 m.2], .agg #[.int .i64 a.1, .int .i64 a.2], .agg #[.int .i64 b.1, .int .i64 b.2]] w fun e w' => e = .returned (.bool true) ∧ Below w.heap.size w w' := by
  have HO := Lib.hid (fun w => l_place o w)
  have HM := Lib.hid (fun w => l_place m w)
  have HA := Lib.hid (fun w => l_place a w)
  have HB := Lib.hid (fun w => l_place b w)
  have HS := Lib.hid (fun w => s_pr o m a b w)
  have HI := Lib.hid (fun w => i_pr o m a b w)
  generalize prW o m a b = t at *
  have e0 : (t == t) = true := by simp
  obtain ⟨o1, o2⟩ := o
  obtain ⟨m1, m2⟩ := m
  obtain ⟨a1, a2⟩ := a
  obtain ⟨b1, b2⟩ := b
  dsimp only at *
  have hst : Bxs w [(w.heap.size + 3, #[.int .i64 b1, .int .i64 b2], 45), (w.heap.size + 2, #[.int .i64 a1, .int .i64 a2], 45), (w.heap.size + 1, #[.int .i64 m1, .int .i64 m2], 45), (w.heap.size, #[.int .i64 o1, .int .i64 o2], 45)] _ := ((((Bxs.nil (Below.refl w.heap.size w)).add rfl #[.int .i64 o1, .int .i64 o2] 45).add (q := w.heap.size + 1) (by simp) #[.int .i64 m1, .int .i64 m2] 45).add (q := w.heap.size + 2) (by simp) #[.int .i64 a1, .int .i64 a2] 45).add (q := w.heap.size + 3) (by simp) #[.int .i64 b1, .int .i64 b2] 45
  have rd00 := fun s : Held (fun wx => Bxs w [(w.heap.size + 3, #[.int .i64 b1, .int .i64 b2], 45), (w.heap.size + 2, #[.int .i64 a1, .int .i64 a2], 45), (w.heap.size + 1, #[.int .i64 m1, .int .i64 m2], 45), (w.heap.size, #[.int .i64 o1, .int .i64 o2], 45)] wx) => (cells2 (s.h.1 _ (.head _))).1
  have rd01 := fun s : Held (fun wx => Bxs w [(w.heap.size + 3, #[.int .i64 b1, .int .i64 b2], 45), (w.heap.size + 2, #[.int .i64 a1, .int .i64 a2], 45), (w.heap.size + 1, #[.int .i64 m1, .int .i64 m2], 45), (w.heap.size, #[.int .i64 o1, .int .i64 o2], 45)] wx) => (cells2 (s.h.1 _ (.head _))).2
  have rd10 := fun s : Held (fun wx => Bxs w [(w.heap.size + 3, #[.int .i64 b1, .int .i64 b2], 45), (w.heap.size + 2, #[.int .i64 a1, .int .i64 a2], 45), (w.heap.size + 1, #[.int .i64 m1, .int .i64 m2], 45), (w.heap.size, #[.int .i64 o1, .int .i64 o2], 45)] wx) => (cells2 (s.h.1 _ (.tail _ (.head _)))).1
  have rd11 := fun s : Held (fun wx => Bxs w [(w.heap.size + 3, #[.int .i64 b1, .int .i64 b2], 45), (w.heap.size + 2, #[.int .i64 a1, .int .i64 a2], 45), (w.heap.size + 1, #[.int .i64 m1, .int .i64 m2], 45), (w.heap.size, #[.int .i64 o1, .int .i64 o2], 45)] wx) => (cells2 (s.h.1 _ (.tail _ (.head _)))).2
  have rd20 := fun s : Held (fun wx => Bxs w [(w.heap.size + 3, #[.int .i64 b1, .int .i64 b2], 45), (w.heap.size + 2, #[.int .i64 a1, .int .i64 a2], 45), (w.heap.size + 1, #[.int .i64 m1, .int .i64 m2], 45), (w.heap.size, #[.int .i64 o1, .int .i64 o2], 45)] wx) => (cells2 (s.h.1 _ (.tail _ (.tail _ (.head _))))).1
  have rd21 := fun s : Held (fun wx => Bxs w [(w.heap.size + 3, #[.int .i64 b1, .int .i64 b2], 45), (w.heap.size + 2, #[.int .i64 a1, .int .i64 a2], 45), (w.heap.size + 1, #[.int .i64 m1, .int .i64 m2], 45), (w.heap.size, #[.int .i64 o1, .int .i64 o2], 45)] wx) => (cells2 (s.h.1 _ (.tail _ (.tail _ (.head _))))).2
  have rd30 := fun s : Held (fun wx => Bxs w [(w.heap.size + 3, #[.int .i64 b1, .int .i64 b2], 45), (w.heap.size + 2, #[.int .i64 a1, .int .i64 a2], 45), (w.heap.size + 1, #[.int .i64 m1, .int .i64 m2], 45), (w.heap.size, #[.int .i64 o1, .int .i64 o2], 45)] wx) => (cells2 (s.h.1 _ (.tail _ (.tail _ (.tail _ (.head _)))))).1
  have rd31 := fun s : Held (fun wx => Bxs w [(w.heap.size + 3, #[.int .i64 b1, .int .i64 b2], 45), (w.heap.size + 2, #[.int .i64 a1, .int .i64 a2], 45), (w.heap.size + 1, #[.int .i64 m1, .int .i64 m2], 45), (w.heap.size, #[.int .i64 o1, .int .i64 o2], 45)] wx) => (cells2 (s.h.1 _ (.tail _ (.tail _ (.tail _ (.head _)))))).2
  go_enter Try.func7, Try.ntmps7
  go_wp2
  haveI hne0 : Nonempty (Held (fun wx => Bxs w [(w.heap.size + 3, #[.int .i64 b1, .int .i64 b2], 45), (w.heap.size + 2, #[.int .i64 a1, .int .i64 a2], 45), (w.heap.size + 1, #[.int .i64 m1, .int .i64 m2], 45), (w.heap.size, #[.int .i64 o1, .int .i64 o2], 45)] wx)) := ⟨⟨_, hst⟩⟩
  refine wp_region_class (fun wx => Bxs w [(w.heap.size + 3, #[.int .i64 b1, .int .i64 b2], 45), (w.heap.size + 2, #[.int .i64 a1, .int .i64 a2], 45), (w.heap.size + 1, #[.int .i64 m1, .int .i64 m2], 45), (w.heap.size, #[.int .i64 o1, .int .i64 o2], 45)] wx) (by kernel_rfl) (by kernel_rfl) (Bxs.drew hst) ?_
  repeat (go_big_quiet_step (first
    | (go_at_call 27; with_reducible exact held_call Bxs.step (HO.out _))
    | (go_at_call 27; with_reducible exact held_call Bxs.step (HM.out _))
    | (go_at_call 27; with_reducible exact held_call Bxs.step (HA.out _))
    | (go_at_call 27; with_reducible exact held_call Bxs.step (HB.out _))
    | (go_at_call 17; with_reducible exact held_call Bxs.step (HS.out _))))
  refine wpQuiet_nil ?_
  intro wy0 hw'
  obtain ⟨⟨wq0, hst1⟩, rfl⟩ := hw'
  (try dsimp only)
  go_wp2
  haveI hne1 : Nonempty (Held (fun wx => Bxs w [(w.heap.size + 3, #[.int .i64 b1, .int .i64 b2], 45), (w.heap.size + 2, #[.int .i64 a1, .int .i64 a2], 45), (w.heap.size + 1, #[.int .i64 m1, .int .i64 m2], 45), (w.heap.size, #[.int .i64 o1, .int .i64 o2], 45)] wx)) := ⟨⟨_, hst1⟩⟩
  refine wp_region_class (fun wx => Bxs w [(w.heap.size + 3, #[.int .i64 b1, .int .i64 b2], 45), (w.heap.size + 2, #[.int .i64 a1, .int .i64 a2], 45), (w.heap.size + 1, #[.int .i64 m1, .int .i64 m2], 45), (w.heap.size, #[.int .i64 o1, .int .i64 o2], 45)] wx) (by kernel_rfl) (by kernel_rfl) (Bxs.drew hst1) ?_
  repeat (go_big_quiet_step (first
    | (go_at_call 27; with_reducible exact held_call Bxs.step (HO.out _))
    | (go_at_call 27; with_reducible exact held_call Bxs.step (HM.out _))
    | (go_at_call 27; with_reducible exact held_call Bxs.step (HA.out _))
    | (go_at_call 27; with_reducible exact held_call Bxs.step (HB.out _))
    | (go_at_call 15; with_reducible exact held_call Bxs.step (HI.out _))))
  refine wpQuiet_nil ?_
  intro wy1 hw'
  obtain ⟨⟨wq1, hst2⟩, rfl⟩ := hw'
  (try dsimp only)
  go_wp2
  go_ret
  exact ⟨rfl, hst2.2⟩
end Go.Proofs.Ythahakefmpajfaa
