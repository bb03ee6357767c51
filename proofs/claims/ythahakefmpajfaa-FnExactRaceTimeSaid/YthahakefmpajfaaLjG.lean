/- When a step crosses a line (impl): CrossTime. -/
import Derived.Test.YthahakefmpajfaaLjF
namespace Go.Proofs.Ythahakefmpajfaa
open Go.RowKit
set_option linter.unusedVariables false
set_option linter.unusedSimpArgs false

theorem i_tk2 (s t : Sg) (W : World) :
    Calls Try.prog 55 #[.slice (some ⟨W.heap.size, 0, none⟩) 2 2] (W.alloc (.cells #[.int .i64 s.1.1, .int .i64 s.1.2, .int .i64 s.2, .int .i64 t.1.1, .int .i64 t.1.2, .int .i64 t.2] 86))
      fun e w' => e = .returned (.bool (tk2 s t)) ∧ Below W.heap.size W w' := by
  have hn := heap_alloc_new W (.cells #[.int .i64 s.1.1, .int .i64 s.1.2, .int .i64 s.2, .int .i64 t.1.1, .int .i64 t.1.2, .int .i64 t.2] 86)
  refine (i_tk (two s t) (some ⟨W.heap.size, 0, none⟩) W.heap.size 0 2 2 _ (by omega) (fun _ => rfl) ?_).mono ?_
  · intro j hj
    have h2 : j = 0 ∨ j = 1 := by omega
    rcases h2 with rfl | rfl
    · exact ⟨cell_of_row _ _ 0 _ _ _ hn, cell_of_row _ _ 1 _ _ _ hn, cell_of_row _ _ 2 _ _ _ hn⟩
    · exact ⟨cell_of_row _ _ 3 _ _ _ hn, cell_of_row _ _ 4 _ _ _ hn, cell_of_row _ _ 5 _ _ _ hn⟩
  · rintro e w' ⟨he, b⟩
    exact ⟨he, ((Below.refl _ W).alloc (Nat.le_refl _) _).trans (b.mono (by simp))⟩
set_option maxRecDepth 100000 in
set_option maxHeartbeats 2000000 in
theorem i_ct (l : Ln) (s t : Sg) (w : World) :
    Calls Try.prog 90 #[.agg #[.int .i64 l.1.1, .int .i64 l.1.2, .int .i64 l.2.1, .int .i64 l.2.2], .agg #[.int .i64 s.1.1, .int .i64 s.1.2, .int .i64 s.2], .agg #[.int .i64 t.1.1, .int .i64 t.1.2, .int .i64 t.2]] w
      fun e w' => e = .returned (.tuple #[.int .i64 (ctW l s t), .bool (ctB l s t)]) ∧ Below w.heap.size w w' := by
  have HC := Lib.hid (fun w => i_cr l s.1 t.1 w)
  have HT := Lib.hid (fun W => i_tk2 s t W)
  have hq : (ctB l s t = false ∧ ctW l s t = 0 ∧ crW l s.1 t.1 = 0) ∨ (ctB l s t = false ∧ ctW l s t = 0 ∧ ¬ crW l s.1 t.1 = 0 ∧ tk2 s t = false) ∨ (ctB l s t = true ∧ ctW l s t = ctV l s t ∧ ¬ crW l s.1 t.1 = 0 ∧ tk2 s t = true) := by
    unfold ctW ctB
    by_cases h : crW l s.1 t.1 = 0
    · simp [h]
    · cases tk2 s t <;> simp [h]
  rcases hq with ⟨e1, e2, e3⟩ | ⟨e1, e2, e3, e4⟩ | ⟨e1, e2, e3, e4⟩
  · rw [e1, e2]
    rw [e3] at HC
    clear e1 e2 e3 HT
    obtain ⟨⟨x1, x2⟩, x3, x4⟩ := l
    obtain ⟨⟨y1, y2⟩, y3⟩ := s
    obtain ⟨⟨z1, z2⟩, z3⟩ := t
    dsimp only at *
    have hs := Lib.hid (Bx3.new w #[.int .i64 x1, .int .i64 x2, .int .i64 x3, .int .i64 x4] 33 #[.int .i64 y1, .int .i64 y2, .int .i64 y3] 86 #[.int .i64 z1, .int .i64 z2, .int .i64 z3] 86)
    go_enter Try.func90, Try.ntmps90
    go_wp2_with fail
    refine wp_scope_on 0 (by rfl) ?_
    have q0 := cells_ln hs.out.1
    obtain ⟨c00, c01, c02, c03⟩ := q0
    have q1 := cells_sg hs.out.2.1
    obtain ⟨c10, c11, c12⟩ := q1
    have q2 := cells_sg hs.out.2.2.1
    obtain ⟨c20, c21, c22⟩ := q2
    go_wp2_with fail
    refine (HC.out _).mono ?_
    rintro e w1 ⟨rfl, b1⟩
    have hs' := Lib.hid (Bx3.step hs.out b1)
    clear hs b1 c00 c01 c02 c03 c10 c11 c12 c20 c21 c22
    have hs := hs'
    clear hs'
    go_wp2
    refine wp_goto (And.intro rfl ?_)
    show Go.Code.wp _ _ _ _ _
    go_wp2
    rw [Exit.noGoto_ret]
    go_ret2
    exact ⟨rfl, hs.out.2.2.2⟩
  · rw [e1, e2]
    rw [e4] at HT
    clear e1 e2 e4
    generalize crW l s.1 t.1 = c at *
    have e5 : (c == 0) = false := by rw [beq_eq_false_iff_ne]; exact e3
    obtain ⟨⟨x1, x2⟩, x3, x4⟩ := l
    obtain ⟨⟨y1, y2⟩, y3⟩ := s
    obtain ⟨⟨z1, z2⟩, z3⟩ := t
    dsimp only at *
    have hs := Lib.hid (Bx3.new w #[.int .i64 x1, .int .i64 x2, .int .i64 x3, .int .i64 x4] 33 #[.int .i64 y1, .int .i64 y2, .int .i64 y3] 86 #[.int .i64 z1, .int .i64 z2, .int .i64 z3] 86)
    go_enter Try.func90, Try.ntmps90
    go_wp2_with fail
    refine wp_scope_on 0 (by rfl) ?_
    have q0 := cells_ln hs.out.1
    obtain ⟨c00, c01, c02, c03⟩ := q0
    have q1 := cells_sg hs.out.2.1
    obtain ⟨c10, c11, c12⟩ := q1
    have q2 := cells_sg hs.out.2.2.1
    obtain ⟨c20, c21, c22⟩ := q2
    go_wp2_with fail
    refine (HC.out _).mono ?_
    rintro e w1 ⟨rfl, b1⟩
    have hs' := Lib.hid (Bx3.step hs.out b1)
    clear hs b1 c00 c01 c02 c03 c10 c11 c12 c20 c21 c22
    have hs := hs'
    clear hs'
    have q0 := cells_ln hs.out.1
    obtain ⟨c00, c01, c02, c03⟩ := q0
    have q1 := cells_sg hs.out.2.1
    obtain ⟨c10, c11, c12⟩ := q1
    have q2 := cells_sg hs.out.2.2.1
    obtain ⟨c20, c21, c22⟩ := q2
    go_wp2_with fail
    refine (HT.out _).mono ?_
    rintro e w2 ⟨rfl, b1⟩
    have hs' := Lib.hid (Bx3.step hs.out b1)
    clear hs b1 c00 c01 c02 c03 c10 c11 c12 c20 c21 c22
    have hs := hs'
    clear hs'
    go_wp2
    refine wp_goto (And.intro rfl ?_)
    show Go.Code.wp _ _ _ _ _
    go_wp2
    rw [Exit.noGoto_ret]
    go_ret2
    exact ⟨rfl, hs.out.2.2.2⟩
  · have HV := Lib.hid (fun w => i_timeOf l s t w e1)
    rw [e1, e2]
    rw [e4] at HT
    clear e1 e2 e4
    generalize crW l s.1 t.1 = c at *
    generalize ctV l s t = r at *
    have e5 : (c == 0) = false := by rw [beq_eq_false_iff_ne]; exact e3
    obtain ⟨⟨x1, x2⟩, x3, x4⟩ := l
    obtain ⟨⟨y1, y2⟩, y3⟩ := s
    obtain ⟨⟨z1, z2⟩, z3⟩ := t
    dsimp only at *
    have hs := Lib.hid (Bx3.new w #[.int .i64 x1, .int .i64 x2, .int .i64 x3, .int .i64 x4] 33 #[.int .i64 y1, .int .i64 y2, .int .i64 y3] 86 #[.int .i64 z1, .int .i64 z2, .int .i64 z3] 86)
    go_enter Try.func90, Try.ntmps90
    go_wp2_with fail
    refine wp_scope_on 0 (by rfl) ?_
    have q0 := cells_ln hs.out.1
    obtain ⟨c00, c01, c02, c03⟩ := q0
    have q1 := cells_sg hs.out.2.1
    obtain ⟨c10, c11, c12⟩ := q1
    have q2 := cells_sg hs.out.2.2.1
    obtain ⟨c20, c21, c22⟩ := q2
    go_wp2_with fail
    refine (HC.out _).mono ?_
    rintro e w1 ⟨rfl, b1⟩
    have hs' := Lib.hid (Bx3.step hs.out b1)
    clear hs b1 c00 c01 c02 c03 c10 c11 c12 c20 c21 c22
    have hs := hs'
    clear hs'
    have q0 := cells_ln hs.out.1
    obtain ⟨c00, c01, c02, c03⟩ := q0
    have q1 := cells_sg hs.out.2.1
    obtain ⟨c10, c11, c12⟩ := q1
    have q2 := cells_sg hs.out.2.2.1
    obtain ⟨c20, c21, c22⟩ := q2
    go_wp2_with fail
    refine (HT.out _).mono ?_
    rintro e w2 ⟨rfl, b1⟩
    have hs' := Lib.hid (Bx3.step hs.out b1)
    clear hs b1 c00 c01 c02 c03 c10 c11 c12 c20 c21 c22
    have hs := hs'
    clear hs'
    have q0 := cells_ln hs.out.1
    obtain ⟨c00, c01, c02, c03⟩ := q0
    have q1 := cells_sg hs.out.2.1
    obtain ⟨c10, c11, c12⟩ := q1
    have q2 := cells_sg hs.out.2.2.1
    obtain ⟨c20, c21, c22⟩ := q2
    go_wp2_with fail
    refine (HV.out _).mono ?_
    rintro e w3 ⟨rfl, b1⟩
    have hs' := Lib.hid (Bx3.step hs.out b1)
    clear hs b1 c00 c01 c02 c03 c10 c11 c12 c20 c21 c22
    have hs := hs'
    clear hs'
    go_wp2
    refine jump_out (l := 0) ?_
    go_ret2
    exact ⟨rfl, hs.out.2.2.2⟩
end Go.Proofs.Ythahakefmpajfaa
