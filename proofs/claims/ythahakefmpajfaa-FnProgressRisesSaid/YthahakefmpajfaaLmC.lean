/- Rays that are passed, courses (impl): PassRay, CourseOk. -/
import Derived.Test.YthahakefmpajfaaLmB
namespace Go.Proofs.Ythahakefmpajfaa
open Go.RowKit
set_option linter.unusedVariables false
set_option linter.unusedSimpArgs false

set_option maxRecDepth 100000 in
set_option maxHeartbeats 2000000 in
theorem i_pr (o m a b : Int × Int) (w : World) :
    Calls Try.prog 15 #[.agg #[.int .i64 o.1, .int .i64 o.2], .agg #[.int .i64 m.1, .int .i64 m.2], .agg #[.int .i64 a.1, .int .i64 a.2], .agg #[.int .i64 b.1, .int .i64 b.2]] w
      fun e w' => e = .returned (.int .i64 (prW o m a b)) ∧ Below w.heap.size w w' := by
  have H1 := Lib.hid (fun w => i_liB (o, m) w)
  have H2 := Lib.hid (fun w => i_plB a w)
  have H3 := Lib.hid (fun w => i_plB b w)
  have H4 := Lib.hid (fun h1 h2 h3 w => i_passed (o, m) a b w h1 h2 h3)
  have hw : (prW o m a b = 0 ∧ liB (o, m) = false) ∨ (prW o m a b = 0 ∧ liB (o, m) = true ∧ plB a = false) ∨ (prW o m a b = 0 ∧ liB (o, m) = true ∧ plB a = true ∧ plB b = false) ∨ (liB (o, m) = true ∧ plB a = true ∧ plB b = true) := by
    cases h1 : liB (o, m)
    · exact .inl ⟨prW_no (by rw [h1]; rfl), rfl⟩
    · cases h2 : plB a
      · exact .inr (.inl ⟨prW_no (by rw [h1, h2]; rfl), rfl, rfl⟩)
      · cases h3 : plB b
        · exact .inr (.inr (.inl ⟨prW_no (by rw [h1, h2, h3]; rfl), rfl, rfl, rfl⟩))
        · exact .inr (.inr (.inr ⟨rfl, rfl, rfl⟩))
  rcases hw with ⟨e0, e1⟩ | ⟨e0, e1, e2⟩ | ⟨e0, e1, e2, e3⟩ | ⟨e1, e2, e3⟩
  · rw [e0]
    rw [e1] at H1
    clear e1 e0 H4
    obtain ⟨o1, o2⟩ := o
    obtain ⟨m1, m2⟩ := m
    obtain ⟨a1, a2⟩ := a
    obtain ⟨b1, b2⟩ := b
    dsimp only at *
    have hs := Lib.hid (((((((Bxs.nil (Below.refl w.heap.size w)).add rfl #[.int .i64 o1, .int .i64 o2] 25).add (q := w.heap.size + 1) (by simp) #[.int .i64 m1, .int .i64 m2] 25).add (q := w.heap.size + 2) (by simp) #[.int .i64 a1, .int .i64 a2] 25).add (q := w.heap.size + 3) (by simp) #[.int .i64 b1, .int .i64 b2] 25).add (q := w.heap.size + 4) (by simp) #[.int .i64 o1, .int .i64 o2, .int .i64 m1, .int .i64 m2] 76))
    go_enter Try.func15, Try.ntmps15
    obtain ⟨c00, c01, c02, c03⟩ := cells4 (hs.out.1 _ (.head _))
    obtain ⟨c10, c11⟩ := cells2 (hs.out.1 _ (.tail _ (.head _)))
    obtain ⟨c20, c21⟩ := cells2 (hs.out.1 _ (.tail _ (.tail _ (.head _))))
    obtain ⟨c30, c31⟩ := cells2 (hs.out.1 _ (.tail _ (.tail _ (.tail _ (.head _)))))
    obtain ⟨c40, c41⟩ := cells2 (hs.out.1 _ (.tail _ (.tail _ (.tail _ (.tail _ (.head _))))))
    go_wp2_with fail
    refine (H1.out _).mono ?_
    rintro e w1 ⟨rfl, b1⟩
    have hs' := Lib.hid (hs.out.step b1)
    clear hs b1 c00 c01 c02 c03 c10 c11 c20 c21 c30 c31 c40 c41
    have hs := hs'
    clear hs'
    go_wp2
    go_ret
    exact ⟨rfl, hs.out.2⟩
  · rw [e0]
    rw [e1] at H1
    rw [e2] at H2
    clear e1 e2 e0 H4
    obtain ⟨o1, o2⟩ := o
    obtain ⟨m1, m2⟩ := m
    obtain ⟨a1, a2⟩ := a
    obtain ⟨b1, b2⟩ := b
    dsimp only at *
    have hs := Lib.hid (((((((Bxs.nil (Below.refl w.heap.size w)).add rfl #[.int .i64 o1, .int .i64 o2] 25).add (q := w.heap.size + 1) (by simp) #[.int .i64 m1, .int .i64 m2] 25).add (q := w.heap.size + 2) (by simp) #[.int .i64 a1, .int .i64 a2] 25).add (q := w.heap.size + 3) (by simp) #[.int .i64 b1, .int .i64 b2] 25).add (q := w.heap.size + 4) (by simp) #[.int .i64 o1, .int .i64 o2, .int .i64 m1, .int .i64 m2] 76))
    go_enter Try.func15, Try.ntmps15
    obtain ⟨c00, c01, c02, c03⟩ := cells4 (hs.out.1 _ (.head _))
    obtain ⟨c10, c11⟩ := cells2 (hs.out.1 _ (.tail _ (.head _)))
    obtain ⟨c20, c21⟩ := cells2 (hs.out.1 _ (.tail _ (.tail _ (.head _))))
    obtain ⟨c30, c31⟩ := cells2 (hs.out.1 _ (.tail _ (.tail _ (.tail _ (.head _)))))
    obtain ⟨c40, c41⟩ := cells2 (hs.out.1 _ (.tail _ (.tail _ (.tail _ (.tail _ (.head _))))))
    go_wp2_with fail
    refine (H1.out _).mono ?_
    rintro e w1 ⟨rfl, b1⟩
    have hs' := Lib.hid (hs.out.step b1)
    clear hs b1 c00 c01 c02 c03 c10 c11 c20 c21 c30 c31 c40 c41
    have hs := hs'
    clear hs'
    obtain ⟨c00, c01, c02, c03⟩ := cells4 (hs.out.1 _ (.head _))
    obtain ⟨c10, c11⟩ := cells2 (hs.out.1 _ (.tail _ (.head _)))
    obtain ⟨c20, c21⟩ := cells2 (hs.out.1 _ (.tail _ (.tail _ (.head _))))
    obtain ⟨c30, c31⟩ := cells2 (hs.out.1 _ (.tail _ (.tail _ (.tail _ (.head _)))))
    obtain ⟨c40, c41⟩ := cells2 (hs.out.1 _ (.tail _ (.tail _ (.tail _ (.tail _ (.head _))))))
    go_wp2_with fail
    refine (H2.out _).mono ?_
    rintro e w2 ⟨rfl, b1⟩
    have hs' := Lib.hid (hs.out.step b1)
    clear hs b1 c00 c01 c02 c03 c10 c11 c20 c21 c30 c31 c40 c41
    have hs := hs'
    clear hs'
    go_wp2
    go_ret
    exact ⟨rfl, hs.out.2⟩
  · rw [e0]
    rw [e1] at H1
    rw [e2] at H2
    rw [e3] at H3
    clear e1 e2 e3 e0 H4
    obtain ⟨o1, o2⟩ := o
    obtain ⟨m1, m2⟩ := m
    obtain ⟨a1, a2⟩ := a
    obtain ⟨b1, b2⟩ := b
    dsimp only at *
    have hs := Lib.hid (((((((Bxs.nil (Below.refl w.heap.size w)).add rfl #[.int .i64 o1, .int .i64 o2] 25).add (q := w.heap.size + 1) (by simp) #[.int .i64 m1, .int .i64 m2] 25).add (q := w.heap.size + 2) (by simp) #[.int .i64 a1, .int .i64 a2] 25).add (q := w.heap.size + 3) (by simp) #[.int .i64 b1, .int .i64 b2] 25).add (q := w.heap.size + 4) (by simp) #[.int .i64 o1, .int .i64 o2, .int .i64 m1, .int .i64 m2] 76))
    go_enter Try.func15, Try.ntmps15
    obtain ⟨c00, c01, c02, c03⟩ := cells4 (hs.out.1 _ (.head _))
    obtain ⟨c10, c11⟩ := cells2 (hs.out.1 _ (.tail _ (.head _)))
    obtain ⟨c20, c21⟩ := cells2 (hs.out.1 _ (.tail _ (.tail _ (.head _))))
    obtain ⟨c30, c31⟩ := cells2 (hs.out.1 _ (.tail _ (.tail _ (.tail _ (.head _)))))
    obtain ⟨c40, c41⟩ := cells2 (hs.out.1 _ (.tail _ (.tail _ (.tail _ (.tail _ (.head _))))))
    go_wp2_with fail
    refine (H1.out _).mono ?_
    rintro e w1 ⟨rfl, b1⟩
    have hs' := Lib.hid (hs.out.step b1)
    clear hs b1 c00 c01 c02 c03 c10 c11 c20 c21 c30 c31 c40 c41
    have hs := hs'
    clear hs'
    obtain ⟨c00, c01, c02, c03⟩ := cells4 (hs.out.1 _ (.head _))
    obtain ⟨c10, c11⟩ := cells2 (hs.out.1 _ (.tail _ (.head _)))
    obtain ⟨c20, c21⟩ := cells2 (hs.out.1 _ (.tail _ (.tail _ (.head _))))
    obtain ⟨c30, c31⟩ := cells2 (hs.out.1 _ (.tail _ (.tail _ (.tail _ (.head _)))))
    obtain ⟨c40, c41⟩ := cells2 (hs.out.1 _ (.tail _ (.tail _ (.tail _ (.tail _ (.head _))))))
    go_wp2_with fail
    refine (H2.out _).mono ?_
    rintro e w2 ⟨rfl, b1⟩
    have hs' := Lib.hid (hs.out.step b1)
    clear hs b1 c00 c01 c02 c03 c10 c11 c20 c21 c30 c31 c40 c41
    have hs := hs'
    clear hs'
    obtain ⟨c00, c01, c02, c03⟩ := cells4 (hs.out.1 _ (.head _))
    obtain ⟨c10, c11⟩ := cells2 (hs.out.1 _ (.tail _ (.head _)))
    obtain ⟨c20, c21⟩ := cells2 (hs.out.1 _ (.tail _ (.tail _ (.head _))))
    obtain ⟨c30, c31⟩ := cells2 (hs.out.1 _ (.tail _ (.tail _ (.tail _ (.head _)))))
    obtain ⟨c40, c41⟩ := cells2 (hs.out.1 _ (.tail _ (.tail _ (.tail _ (.tail _ (.head _))))))
    go_wp2_with fail
    refine (H3.out _).mono ?_
    rintro e w3 ⟨rfl, b1⟩
    have hs' := Lib.hid (hs.out.step b1)
    clear hs b1 c00 c01 c02 c03 c10 c11 c20 c21 c30 c31 c40 c41
    have hs := hs'
    clear hs'
    go_wp2
    go_ret
    exact ⟨rfl, hs.out.2⟩
  · have H5 := Lib.hid (fun w => H4.out e1 e2 e3 w)
    dsimp only at H5
    generalize prW o m a b = r at *
    rw [e1] at H1
    rw [e2] at H2
    rw [e3] at H3
    clear e1 e2 e3 H4
    obtain ⟨o1, o2⟩ := o
    obtain ⟨m1, m2⟩ := m
    obtain ⟨a1, a2⟩ := a
    obtain ⟨b1, b2⟩ := b
    dsimp only at *
    have hs := Lib.hid (((((((Bxs.nil (Below.refl w.heap.size w)).add rfl #[.int .i64 o1, .int .i64 o2] 25).add (q := w.heap.size + 1) (by simp) #[.int .i64 m1, .int .i64 m2] 25).add (q := w.heap.size + 2) (by simp) #[.int .i64 a1, .int .i64 a2] 25).add (q := w.heap.size + 3) (by simp) #[.int .i64 b1, .int .i64 b2] 25).add (q := w.heap.size + 4) (by simp) #[.int .i64 o1, .int .i64 o2, .int .i64 m1, .int .i64 m2] 76))
    go_enter Try.func15, Try.ntmps15
    obtain ⟨c00, c01, c02, c03⟩ := cells4 (hs.out.1 _ (.head _))
    obtain ⟨c10, c11⟩ := cells2 (hs.out.1 _ (.tail _ (.head _)))
    obtain ⟨c20, c21⟩ := cells2 (hs.out.1 _ (.tail _ (.tail _ (.head _))))
    obtain ⟨c30, c31⟩ := cells2 (hs.out.1 _ (.tail _ (.tail _ (.tail _ (.head _)))))
    obtain ⟨c40, c41⟩ := cells2 (hs.out.1 _ (.tail _ (.tail _ (.tail _ (.tail _ (.head _))))))
    go_wp2_with fail
    refine (H1.out _).mono ?_
    rintro e w1 ⟨rfl, b1⟩
    have hs' := Lib.hid (hs.out.step b1)
    clear hs b1 c00 c01 c02 c03 c10 c11 c20 c21 c30 c31 c40 c41
    have hs := hs'
    clear hs'
    obtain ⟨c00, c01, c02, c03⟩ := cells4 (hs.out.1 _ (.head _))
    obtain ⟨c10, c11⟩ := cells2 (hs.out.1 _ (.tail _ (.head _)))
    obtain ⟨c20, c21⟩ := cells2 (hs.out.1 _ (.tail _ (.tail _ (.head _))))
    obtain ⟨c30, c31⟩ := cells2 (hs.out.1 _ (.tail _ (.tail _ (.tail _ (.head _)))))
    obtain ⟨c40, c41⟩ := cells2 (hs.out.1 _ (.tail _ (.tail _ (.tail _ (.tail _ (.head _))))))
    go_wp2_with fail
    refine (H2.out _).mono ?_
    rintro e w2 ⟨rfl, b1⟩
    have hs' := Lib.hid (hs.out.step b1)
    clear hs b1 c00 c01 c02 c03 c10 c11 c20 c21 c30 c31 c40 c41
    have hs := hs'
    clear hs'
    obtain ⟨c00, c01, c02, c03⟩ := cells4 (hs.out.1 _ (.head _))
    obtain ⟨c10, c11⟩ := cells2 (hs.out.1 _ (.tail _ (.head _)))
    obtain ⟨c20, c21⟩ := cells2 (hs.out.1 _ (.tail _ (.tail _ (.head _))))
    obtain ⟨c30, c31⟩ := cells2 (hs.out.1 _ (.tail _ (.tail _ (.tail _ (.head _)))))
    obtain ⟨c40, c41⟩ := cells2 (hs.out.1 _ (.tail _ (.tail _ (.tail _ (.tail _ (.head _))))))
    go_wp2_with fail
    refine (H3.out _).mono ?_
    rintro e w3 ⟨rfl, b1⟩
    have hs' := Lib.hid (hs.out.step b1)
    clear hs b1 c00 c01 c02 c03 c10 c11 c20 c21 c30 c31 c40 c41
    have hs := hs'
    clear hs'
    obtain ⟨c00, c01, c02, c03⟩ := cells4 (hs.out.1 _ (.head _))
    obtain ⟨c10, c11⟩ := cells2 (hs.out.1 _ (.tail _ (.head _)))
    obtain ⟨c20, c21⟩ := cells2 (hs.out.1 _ (.tail _ (.tail _ (.head _))))
    obtain ⟨c30, c31⟩ := cells2 (hs.out.1 _ (.tail _ (.tail _ (.tail _ (.head _)))))
    obtain ⟨c40, c41⟩ := cells2 (hs.out.1 _ (.tail _ (.tail _ (.tail _ (.tail _ (.head _))))))
    go_wp2_with fail
    refine (H5.out _).mono ?_
    rintro e w9 ⟨rfl, b1⟩
    have hs' := Lib.hid (hs.out.step b1)
    clear hs b1 c00 c01 c02 c03 c10 c11 c20 c21 c30 c31 c40 c41
    have hs := hs'
    clear hs'
    go_wp2
    go_ret
    exact ⟨rfl, hs.out.2⟩
theorem fld_ray (a b c d : Int) (w : World) : (Instr.field 76 (.agg #[.int .i64 a, .int .i64 b, .int .i64 c, .int .i64 d]) 0).run Try.prog w = .ok (.agg #[.int .i64 a, .int .i64 b, .int .i64 c, .int .i64 d]) w := by kernel_rfl
set_option maxRecDepth 100000 in
set_option maxHeartbeats 4000000 in
theorem i_co (c : Crs) (A : Option Addr) (g o cap : Nat) (w : World) (hn : c.n ≤ 1048576) (hA : 0 < c.n → A = some ⟨g, o, none⟩) (hw : MksIn w g o c.n c.mf) :
    Calls Try.prog 25 #[.agg #[.int .i64 c.st.1.1, .int .i64 c.st.1.2, .int .i64 c.st.2.1, .int .i64 c.st.2.2, .slice A c.n cap, .int .i64 c.fi.1.1, .int .i64 c.fi.1.2, .int .i64 c.fi.2.1, .int .i64 c.fi.2.2]] w fun e w' => e = .returned (.bool (coB c)) ∧ Below w.heap.size w w' := by
  have HL := Lib.hid (fun w => i_liB c.st w)
  have HF := Lib.hid (fun w => i_liB c.fi w)
  have hs := Lib.hid (CoS.new (c := #[.int .i64 c.st.1.1, .int .i64 c.st.1.2, .int .i64 c.st.2.1, .int .i64 c.st.2.2, .slice A c.n cap, .int .i64 c.fi.1.1, .int .i64 c.fi.1.2, .int .i64 c.fi.2.1, .int .i64 c.fi.2.2]) (ty := 36) hw)
  clear hw
  cases h1 : liB c.st
  · have HN := Lib.hid (coB_no (c := c) (fun h => by rw [h.1] at h1; cases h1))
    rw [h1] at HL
    clear h1 HF
    go_enter Try.func25, Try.ntmps25
    obtain ⟨e0, e1, e2, e3, e4, e5, e6, e7, e8⟩ := cells9 hs.out.1.1
    go_wp2_with fail
    refine (HL.out _).mono ?_
    rintro e w1 ⟨rfl, b⟩
    have hs' := Lib.hid (hs.out.step b)
    clear hs b e0 e1 e2 e3 e4 e5 e6 e7 e8
    have hs := hs'
    clear hs'
    obtain ⟨e0, e1, e2, e3, e4, e5, e6, e7, e8⟩ := cells9 hs.out.1.1
    go_wp2
    go_ret
    exact ⟨by rw [HN.out]; rfl, hs.out.below⟩
  rw [h1] at HL
  cases h2 : liB c.fi
  · have HN := Lib.hid (coB_no (c := c) (fun h => by rw [h.2.1] at h2; cases h2))
    rw [h2] at HF
    clear h1 h2
    go_enter Try.func25, Try.ntmps25
    obtain ⟨e0, e1, e2, e3, e4, e5, e6, e7, e8⟩ := cells9 hs.out.1.1
    go_wp2_with fail
    refine (HL.out _).mono ?_
    rintro e w1 ⟨rfl, b⟩
    have hs' := Lib.hid (hs.out.step b)
    clear hs b e0 e1 e2 e3 e4 e5 e6 e7 e8
    have hs := hs'
    clear hs'
    obtain ⟨e0, e1, e2, e3, e4, e5, e6, e7, e8⟩ := cells9 hs.out.1.1
    go_wp2_with fail
    refine (HF.out _).mono ?_
    rintro e w2 ⟨rfl, b⟩
    have hs' := Lib.hid (hs.out.step b)
    clear hs b e0 e1 e2 e3 e4 e5 e6 e7 e8
    have hs := hs'
    clear hs'
    obtain ⟨e0, e1, e2, e3, e4, e5, e6, e7, e8⟩ := cells9 hs.out.1.1
    go_wp2
    go_ret
    exact ⟨by rw [HN.out]; rfl, hs.out.below⟩
  rw [h2] at HF
  by_cases h3 : c.n = 0
  · have HN := Lib.hid (coB_no (c := c) (fun h => by have := h.2.2.1; omega))
    have k0 : ((c.n : Int) == 0) = true := by rw [beq_iff_eq]; omega
    have k1 : (c.n : Int) = 0 := by omega
    clear h1 h2 h3
    go_enter Try.func25, Try.ntmps25
    obtain ⟨e0, e1, e2, e3, e4, e5, e6, e7, e8⟩ := cells9 hs.out.1.1
    go_wp2_with fail
    refine (HL.out _).mono ?_
    rintro e w1 ⟨rfl, b⟩
    have hs' := Lib.hid (hs.out.step b)
    clear hs b e0 e1 e2 e3 e4 e5 e6 e7 e8
    have hs := hs'
    clear hs'
    obtain ⟨e0, e1, e2, e3, e4, e5, e6, e7, e8⟩ := cells9 hs.out.1.1
    go_wp2_with fail
    refine (HF.out _).mono ?_
    rintro e w2 ⟨rfl, b⟩
    have hs' := Lib.hid (hs.out.step b)
    clear hs b e0 e1 e2 e3 e4 e5 e6 e7 e8
    have hs := hs'
    clear hs'
    obtain ⟨e0, e1, e2, e3, e4, e5, e6, e7, e8⟩ := cells9 hs.out.1.1
    go_wp2
    go_ret
    exact ⟨by rw [HN.out]; rfl, hs.out.below⟩
  have k0 : ((c.n : Int) == 0) = false := by rw [beq_eq_false_iff_ne]; omega
  have k1 : ¬ (c.n : Int) = 0 := by omega
  by_cases h4 : 20 < c.n
  · have HN := Lib.hid (coB_no (c := c) (fun h => by have := h.2.2.1; omega))
    have k2 : (20 : Int) < (c.n : Int) := by omega
    have k3 : decide ((c.n : Int) > 20) = true := decide_eq_true k2
    clear h1 h2 h3 h4
    go_enter Try.func25, Try.ntmps25
    obtain ⟨e0, e1, e2, e3, e4, e5, e6, e7, e8⟩ := cells9 hs.out.1.1
    go_wp2_with fail
    refine (HL.out _).mono ?_
    rintro e w1 ⟨rfl, b⟩
    have hs' := Lib.hid (hs.out.step b)
    clear hs b e0 e1 e2 e3 e4 e5 e6 e7 e8
    have hs := hs'
    clear hs'
    obtain ⟨e0, e1, e2, e3, e4, e5, e6, e7, e8⟩ := cells9 hs.out.1.1
    go_wp2_with fail
    refine (HF.out _).mono ?_
    rintro e w2 ⟨rfl, b⟩
    have hs' := Lib.hid (hs.out.step b)
    clear hs b e0 e1 e2 e3 e4 e5 e6 e7 e8
    have hs := hs'
    clear hs'
    obtain ⟨e0, e1, e2, e3, e4, e5, e6, e7, e8⟩ := cells9 hs.out.1.1
    go_wp2
    go_ret
    exact ⟨by rw [HN.out]; rfl, hs.out.below⟩
  · have HV := Lib.hid (And.intro h1 (And.intro h2 (show 1 ≤ c.n ∧ c.n ≤ 20 by omega)))
    have k2 : ¬ (20 : Int) < (c.n : Int) := by omega
    have k3 : decide ((c.n : Int) > 20) = false := decide_eq_false k2
    obtain rfl := hA (by omega)
    have HR := Lib.hid (fun (k : Nat) (hk : k < c.n) w (h : MksIn w g o c.n c.mf) => i_rayOf c (some ⟨g, o, none⟩) g o cap k w hk hn (fun _ => rfl) h)
    clear h1 h2 h3 h4 hA
    go_enter Try.func25, Try.ntmps25
    obtain ⟨e0, e1, e2, e3, e4, e5, e6, e7, e8⟩ := cells9 hs.out.1.1
    go_wp2_with fail
    refine (HL.out _).mono ?_
    rintro e w1 ⟨rfl, b⟩
    have hs' := Lib.hid (hs.out.step b)
    clear hs b e0 e1 e2 e3 e4 e5 e6 e7 e8
    have hs := hs'
    clear hs'
    obtain ⟨e0, e1, e2, e3, e4, e5, e6, e7, e8⟩ := cells9 hs.out.1.1
    go_wp2_with fail
    refine (HF.out _).mono ?_
    rintro e w2 ⟨rfl, b⟩
    have hs' := Lib.hid (hs.out.step b)
    clear hs b e0 e1 e2 e3 e4 e5 e6 e7 e8
    have hs := hs'
    clear hs'
    obtain ⟨e0, e1, e2, e3, e4, e5, e6, e7, e8⟩ := cells9 hs.out.1.1
    go_wp2
    clear e0 e1 e2 e3 e4 e5 e6 e7 e8 k0 k1 k2 k3
    go_loopw [3, 29] (fun _ i wr => ∃ k : Nat, k ≤ c.n ∧ i = .int .i64 k ∧ (∀ j, j < k → MkOk c j) ∧ CoS w #[.int .i64 c.st.1.1, .int .i64 c.st.1.2, .int .i64 c.st.2.1, .int .i64 c.st.2.2, .slice (some ⟨g, o, none⟩) c.n cap, .int .i64 c.fi.1.1, .int .i64 c.fi.1.2, .int .i64 c.fi.2.1, .int .i64 c.fi.2.2] 36 g o c.n c.mf wr) (fun _ i _ => c.n - (intOf i).toNat)
    case atStart => exact ⟨0, Nat.zero_le _, rfl, (fun j h => by omega), hs.out⟩
    case round =>
      obtain ⟨k, hk, rfl, hall, hst⟩ := hrel
      have HA := Lib.hid hall
      clear hall hs
      obtain ⟨e0, e1, e2, e3, e4, e5, e6, e7, e8⟩ := cells9 hst.1.1
      by_cases hlt : k < c.n
      · have z1 : (k : Int) < (c.n : Int) := by omega
        have z0 : (0 : Int) ≤ (k : Int) := by omega
        have hli := mk_li (c := c) (k := k) (org_before HV.out.1 HA.out)
        have HX := Lib.hid (fun w h => HR.out k hlt w h)
        have HY := Lib.hid (fun w => i_liB (orgW c k, (c.mf k).1) w)
        have HS := Lib.hid hst
        have hfd := fld_ray (orgW c k).1 (orgW c k).2 (c.mf k).1.1 (c.mf k).1.2
        clear hst
        go_wp2_with fail
        refine (HX.out _ HS.out.2).mono ?_
        rintro e w4 ⟨rfl, b⟩
        have HS2 := Lib.hid (HS.out.step b)
        clear HS b e0 e1 e2 e3 e4 e5 e6 e7 e8
        cases hp : liB (orgW c k, (c.mf k).1)
        · have HN := Lib.hid (coB_no (c := c) (fun h => by have := hli.2 (h.2.2.2 k hlt); rw [this] at hp; cases hp))
          rw [hp] at HY
          clear hp hli
          go_wp2_with fail
          refine (HY.out _).mono ?_
          rintro e w5 ⟨rfl, b⟩
          have HS3 := Lib.hid (HS2.out.step b)
          clear HS2 b
          go_wp2
          go_ret
          exact ⟨by rw [HN.out]; rfl, HS3.out.below⟩
        · have HO := Lib.hid (hli.1 hp)
          rw [hp] at HY
          clear hp hli
          go_wp2_with fail
          refine (HY.out _).mono ?_
          rintro e w5 ⟨rfl, b⟩
          have HS3 := Lib.hid (HS2.out.step b)
          clear HS2 b
          go_wp2_with fail
          go_roundw
          case rel => exact ⟨k + 1, by omega, by go_num, (fun j hj => by
            rcases Nat.lt_or_ge j k with h' | h'
            · exact HA.out j h'
            · rw [show j = k by omega]; exact HO.out), HS3.out⟩
          case measure => simp [intOf]; omega
      · obtain rfl : k = c.n := by omega
        have HN := Lib.hid (show coB c = true from coB_iff.2 ⟨HV.out.1, HV.out.2.1, HV.out.2.2, HA.out⟩)
        have z1 : ¬ (c.n : Int) < (c.n : Int) := by omega
        go_wp2
        go_ret
        exact ⟨by rw [HN.out]; rfl, hst.below⟩
end Go.Proofs.Ythahakefmpajfaa
