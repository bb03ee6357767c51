/- The walk of an exact law of chapter 10: FnExactRaceTime. -/
import Derived.Test.YthahakefmpajfaaLmJ
namespace Go.Proofs.Ythahakefmpajfaa
open Go.RowKit
set_option linter.unusedVariables false
set_option linter.unusedSimpArgs false

set_option maxRecDepth 100000 in
set_option maxHeartbeats 4000000 in
theorem w_FnExactRaceTime (x : Crs × Option Addr × Nat) (y : Option Addr × Nat × Nat × (Nat → Sg)) (b : Int) (w : World) (hx : MrkIn w x.2.1 x.1.n x.1.mf) (hy : TrkIn w y.1 y.2.1 y.2.2.2) (_ : (Lit.int .i64 b).wf = true) :
    Calls Try.prog 11 #[.agg #[.int .i64 x.1.st.1.1, .int .i64 x.1.st.1.2, .int .i64 x.1.st.2.1, .int .i64 x.1.st.2.2, .slice x.2.1 x.1.n x.2.2, .int .i64 x.1.fi.1.1, .int .i64 x.1.fi.1.2, .int .i64 x.1.fi.2.1, .int .i64 x.1.fi.2.2], .slice y.1 y.2.1 y.2.2.1, .int .i64 b] w fun e w' => e = .returned (.bool true) ∧ Below w.heap.size w w' := by
  obtain ⟨c, A, cap⟩ := x
  dsimp only at *
  obtain ⟨hcn, g, o, hA, hw⟩ := hx
  obtain ⟨TA, n, tcap, f⟩ := y
  dsimp only at *
  obtain ⟨hn, tg, tO, hT, hv⟩ := hy
  have HS := Lib.hid (fun (h : c.n ≤ 1048576) (h2 : n ≤ 1048576) b1 q w (m : MkOwn w b1 c.n c.mf) (t : SigOwn w q n f) => s_ra c (some ⟨b1, 0, none⟩) b1 0 c.n f (some ⟨q, 0, none⟩) q 0 n n b w h (fun _ => rfl) m.mks h2 (fun _ => rfl) t.sigs)
  have HI := Lib.hid (fun (h : c.n ≤ 1048576) (h2 : n ≤ 1048576) b1 q w (m : MkOwn w b1 c.n c.mf) (t : SigOwn w q n f) => i_ra c (some ⟨b1, 0, none⟩) b1 0 c.n f (some ⟨q, 0, none⟩) q 0 n n b w h (fun _ => rfl) m.mks h2 (fun _ => rfl) t.sigs (Nat.le_refl _))
  have HZ := Lib.hid (fun w => l_szC 1048576 c A cap w (by omega) (by omega) hcn)
  have HC := Lib.hid (fun (h : c.n ≤ 1048576) w k => l_course c A g o cap w h hA k)
  have HQ := Lib.hid (fun (h : c.n ≤ 1048576) b b' w k k' => l_eqC c b b' w h k k')
  have HZ2 := Lib.hid (fun (r : Int) (h0 : 0 ≤ r) (h9 : r ≤ 1048576) w => l_szS2 r TA n tcap w h0 h9 hn)
  have HT := Lib.hid (fun (h : n ≤ 1048576) w (k : SigsIn w tg tO n f) => l_toS f TA tg tO n tcap w h hT k)
  have HE := Lib.hid (fun (h : n ≤ 1048576) q q' w (k : SigOwn w q n f) (k' : SigOwn w q' n f) => l_eqS f (some ⟨q, 0, none⟩) (some ⟨q', 0, none⟩) q 0 q' 0 n n n w h (fun _ => rfl) (fun _ => rfl) k.sigs k'.sigs)
  generalize (raW c n f b).1 = t0 at *
  generalize (raW c n f b).2 = t1 at *
  have hst := Lib.hid (CtS.new (c := #[.int .i64 c.st.1.1, .int .i64 c.st.1.2, .int .i64 c.st.2.1, .int .i64 c.st.2.2, .slice A c.n cap, .int .i64 c.fi.1.1, .int .i64 c.fi.1.2, .int .i64 c.fi.2.1, .int .i64 c.fi.2.2]) (ty := 50) hw hv)
  clear hw hv hA hT
  have e0 : (t0 == t0) = true := by simp
  have e1 : (t1 == t1) = true := by simp
  cases t1
  all_goals
    go_enter Try.func11, Try.ntmps11
    obtain ⟨e0, e1, e2, e3, e4, e5, e6, e7, e8⟩ := cells9 hst.out.1.1.1
    go_wp2_with fail
    refine (HZ.out _).mono ?_
    rintro e w1 ⟨⟨s, hs, rfl⟩, bl⟩
    have hs2 := Lib.hid (hst.out.step bl)
    clear hst bl
    have hst := hs2
    clear hs2
    clear e0 e1 e2 e3 e4 e5 e6 e7 e8 HZ
    rcases hs with rfl | ⟨s0, hs1⟩
    · go_wp2
      go_ret
      exact ⟨rfl, hst.out.below⟩
    have s2 : ¬ s < 0 := by omega
    have s3 : s ≤ 1048576 := by omega
    have hcm := Lib.hid (show c.n ≤ 1048576 by omega)
    clear hs1
    go_wp2_with fail
    refine (HZ2.out s s0 s3 _).mono ?_
    rintro e w2 ⟨⟨u, hu, rfl⟩, rfl⟩
    rcases hu with rfl | ⟨u0, hu1⟩
    · go_wp2
      go_ret
      exact ⟨rfl, hst.out.below⟩
    have u2 : ¬ u < 0 := by omega
    have htm := Lib.hid (show n ≤ 1048576 by omega)
    clear hu1 HZ2
    obtain ⟨e0, e1, e2, e3, e4, e5, e6, e7, e8⟩ := cells9 hst.out.1.1.1
    go_wp2_with fail
    refine (HC.out hcm.out _ hst.out.1.2).mono ?_
    rintro e w3 ⟨b1, hb1, rfl, om, bl⟩
    have hs2 := Lib.hid (hst.out.step bl)
    clear hst bl
    have hst := hs2
    clear hs2
    clear e0 e1 e2 e3 e4 e5 e6 e7 e8 hb1
    go_wp2_with fail
    refine (HT.out htm.out _ hst.out.2).mono ?_
    rintro e w4 ⟨rfl, ot, bl⟩
    have om2 := om.below bl
    clear om
    have hs2 := Lib.hid (hst.out.step bl)
    clear hst bl
    have hst := hs2
    clear hs2
    go_wp2_with fail
    refine (HS.out hcm.out htm.out _ _ _ om2 ot).mono ?_
    rintro e w5 ⟨rfl, bl⟩
    have hs2 := Lib.hid (hst.out.step bl)
    clear hst bl
    have hst := hs2
    clear hs2
    clear om2 ot HS
    obtain ⟨e0, e1, e2, e3, e4, e5, e6, e7, e8⟩ := cells9 hst.out.1.1.1
    go_wp2_with fail
    refine (HC.out hcm.out _ hst.out.1.2).mono ?_
    rintro e w6 ⟨b2, hb2, rfl, om, bl⟩
    have hs2 := Lib.hid (hst.out.step bl)
    clear hst bl
    have hst := hs2
    clear hs2
    clear e0 e1 e2 e3 e4 e5 e6 e7 e8 hb2
    have hst2 := Lib.hid (ExS.new hst.out om 36 #[.int .i64 c.st.1.1, .int .i64 c.st.1.2, .int .i64 c.st.2.1, .int .i64 c.st.2.2, .slice (some ⟨b2, 0, none⟩) c.n c.n, .int .i64 c.fi.1.1, .int .i64 c.fi.1.2, .int .i64 c.fi.2.1, .int .i64 c.fi.2.2])
    clear hst om
    go_wp2_with fail
    generalize hW : w6.alloc _ = W at *
    generalize w6.heap.size = p at *
    clear hW
    refine (HT.out htm.out _ hst2.out.1.2).mono ?_
    rintro e w7 ⟨rfl, ot, bl⟩
    have hst := Lib.hid (ExT.new (hst2.out.step bl) ot)
    clear bl ot hst2
    generalize W.heap.size = q at *
    obtain ⟨p0, p1, p2, p3, p4, p5, p6, p7, p8⟩ := cells9 hst.out.1.2.2
    go_wp2_with fail
    refine (HI.out hcm.out htm.out _ _ _ hst.out.1.2.1 hst.out.2).mono ?_
    rintro e w8 ⟨rfl, bl⟩
    have hs2 := Lib.hid (hst.out.step bl)
    clear hst bl
    have hst := hs2
    clear hs2
    clear p0 p1 p2 p3 p4 p5 p6 p7 p8 HI
    obtain ⟨p0, p1, p2, p3, p4, p5, p6, p7, p8⟩ := cells9 hst.out.1.2.2
    obtain ⟨e0, e1, e2, e3, e4, e5, e6, e7, e8⟩ := cells9 hst.out.1.1.1.1.1
    go_wp2
    go_region_with ((first
      | (go_at_call 24; refine (HC.out hcm.out w8.drew hst.out.1.1.1.2).mono ?_; rintro e w9 ⟨b3, hb3, rfl, om3, bl⟩; have hs9 := Lib.hid (hst.out.drew.step bl); obtain ⟨r0, r1, r2, r3, r4, r5, r6, r7, r8⟩ := cells9 hs9.out.1.2.2; clear bl hb3)
      | (go_at_call 26; refine (HQ.out hcm.out _ _ _ hs9.out.1.2.1 om3).mono ?_; rintro e w10 ⟨rfl, bl⟩; have hsA := Lib.hid (hs9.out.step bl); clear bl)))
    all_goals (
      clear hst hs9 om3 e0 e1 e2 e3 e4 e5 e6 e7 e8 p0 p1 p2 p3 p4 p5 p6 p7 p8 r0 r1 r2 r3 r4 r5 r6 r7 r8
      have hst := hsA
      clear hsA
      go_wp2_with fail
      refine (HT.out htm.out _ hst.out.1.1.2).mono ?_
      rintro e w11 ⟨rfl, ot, bl⟩
      have hs2 := Lib.hid (hst.out.step bl)
      clear hst bl
      go_wp2_with fail
      refine (HE.out htm.out _ _ _ hs2.out.2 ot).mono ?_
      rintro e w12 ⟨rfl, bl⟩
      have hs3 := Lib.hid (hs2.out.step bl)
      clear hs2 bl ot
      go_wp2
      go_ret
      exact ⟨rfl, hs3.out.1.1.below⟩)
end Go.Proofs.Ythahakefmpajfaa
