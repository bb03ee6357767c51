/- Crossings (impl): Crossing. -/
import Derived.Test.YthahakefmpajfaaLjC
namespace Go.Proofs.Ythahakefmpajfaa
open Go.RowKit
set_option linter.unusedVariables false
set_option linter.unusedSimpArgs false

theorem crV_ms {x y s t : Int} : crV x y s t = if msB x y = true then 0 else if s ≤ 0 ∧ t = 1 then 1 else if s = 1 ∧ t ≤ 0 then -1 else 0 := by
  unfold crV msB
  simp only [decide_eq_true_eq]
set_option maxRecDepth 100000 in
set_option maxHeartbeats 2000000 in
theorem i_cr (l : Ln) (a b : Int × Int) (w : World) :
    Calls Try.prog 89 #[.agg #[.int .i64 l.1.1, .int .i64 l.1.2, .int .i64 l.2.1, .int .i64 l.2.2], .agg #[.int .i64 a.1, .int .i64 a.2], .agg #[.int .i64 b.1, .int .i64 b.2]] w
      fun e w' => e = .returned (.int .i64 (crW l a b)) ∧ Below w.heap.size w w' := by
  have H1 := Lib.hid (fun w => i_liB l w)
  have H2 := Lib.hid (fun w => i_plB a w)
  have H3 := Lib.hid (fun w => i_plB b w)
  have hw : (crW l a b = 0 ∧ liB l = false) ∨ (crW l a b = 0 ∧ liB l = true ∧ plB a = false) ∨ (crW l a b = 0 ∧ liB l = true ∧ plB a = true ∧ plB b = false) ∨ (crW l a b = crV (crx a b a l.1) (crx a b a l.2) (sdW l a) (sdW l b) ∧ liB l = true ∧ plB a = true ∧ plB b = true) := by
    unfold crW
    cases liB l <;> cases plB a <;> cases plB b <;> simp
  rcases hw with ⟨e0, e1⟩ | ⟨e0, e1, e2⟩ | ⟨e0, e1, e2, e3⟩ | ⟨e0, e1, e2, e3⟩
  · rw [e0]
    rw [e1] at H1
    clear e0 e1 H2 H3
    obtain ⟨⟨x1, x2⟩, x3, x4⟩ := l
    obtain ⟨y1, y2⟩ := a
    obtain ⟨z1, z2⟩ := b
    dsimp only at *
    have hs := Lib.hid (Bx3.new w #[.int .i64 x1, .int .i64 x2, .int .i64 x3, .int .i64 x4] 33 #[.int .i64 y1, .int .i64 y2] 25 #[.int .i64 z1, .int .i64 z2] 25)
    go_enter Try.func89, Try.ntmps89
    go_wp2_with fail
    refine wp_scope_on 0 (by rfl) ?_
    have q0 := cells_ln hs.out.1
    obtain ⟨c00, c01, c02, c03⟩ := q0
    have q1 := cells_pl hs.out.2.1
    obtain ⟨c10, c11⟩ := q1
    have q2 := cells_pl hs.out.2.2.1
    obtain ⟨c20, c21⟩ := q2
    go_wp2_with fail
    refine (H1.out _).mono ?_
    rintro e w1 ⟨rfl, b1⟩
    have hs' := Lib.hid (Bx3.step hs.out b1)
    clear hs b1 c00 c01 c02 c03 c10 c11 c20 c21
    have hs := hs'
    clear hs'
    go_wp2
    refine wp_goto (And.intro rfl ?_)
    show Go.Code.wp _ _ _ _ _
    go_wp2
    rw [Exit.noGoto_ret]
    go_ret
    exact ⟨rfl, hs.out.2.2.2⟩
  · rw [e0]
    rw [e1] at H1
    rw [e2] at H2
    clear e0 e1 e2 H3
    obtain ⟨⟨x1, x2⟩, x3, x4⟩ := l
    obtain ⟨y1, y2⟩ := a
    obtain ⟨z1, z2⟩ := b
    dsimp only at *
    have hs := Lib.hid (Bx3.new w #[.int .i64 x1, .int .i64 x2, .int .i64 x3, .int .i64 x4] 33 #[.int .i64 y1, .int .i64 y2] 25 #[.int .i64 z1, .int .i64 z2] 25)
    go_enter Try.func89, Try.ntmps89
    go_wp2_with fail
    refine wp_scope_on 0 (by rfl) ?_
    have q0 := cells_ln hs.out.1
    obtain ⟨c00, c01, c02, c03⟩ := q0
    have q1 := cells_pl hs.out.2.1
    obtain ⟨c10, c11⟩ := q1
    have q2 := cells_pl hs.out.2.2.1
    obtain ⟨c20, c21⟩ := q2
    go_wp2_with fail
    refine (H1.out _).mono ?_
    rintro e w1 ⟨rfl, b1⟩
    have hs' := Lib.hid (Bx3.step hs.out b1)
    clear hs b1 c00 c01 c02 c03 c10 c11 c20 c21
    have hs := hs'
    clear hs'
    have q0 := cells_ln hs.out.1
    obtain ⟨c00, c01, c02, c03⟩ := q0
    have q1 := cells_pl hs.out.2.1
    obtain ⟨c10, c11⟩ := q1
    have q2 := cells_pl hs.out.2.2.1
    obtain ⟨c20, c21⟩ := q2
    go_wp2_with fail
    refine (H2.out _).mono ?_
    rintro e w2 ⟨rfl, b1⟩
    have hs' := Lib.hid (Bx3.step hs.out b1)
    clear hs b1 c00 c01 c02 c03 c10 c11 c20 c21
    have hs := hs'
    clear hs'
    go_wp2
    refine wp_goto (And.intro rfl ?_)
    show Go.Code.wp _ _ _ _ _
    go_wp2
    rw [Exit.noGoto_ret]
    go_ret
    exact ⟨rfl, hs.out.2.2.2⟩
  · rw [e0]
    rw [e1] at H1
    rw [e2] at H2
    rw [e3] at H3
    clear e0 e1 e2 e3
    obtain ⟨⟨x1, x2⟩, x3, x4⟩ := l
    obtain ⟨y1, y2⟩ := a
    obtain ⟨z1, z2⟩ := b
    dsimp only at *
    have hs := Lib.hid (Bx3.new w #[.int .i64 x1, .int .i64 x2, .int .i64 x3, .int .i64 x4] 33 #[.int .i64 y1, .int .i64 y2] 25 #[.int .i64 z1, .int .i64 z2] 25)
    go_enter Try.func89, Try.ntmps89
    go_wp2_with fail
    refine wp_scope_on 0 (by rfl) ?_
    have q0 := cells_ln hs.out.1
    obtain ⟨c00, c01, c02, c03⟩ := q0
    have q1 := cells_pl hs.out.2.1
    obtain ⟨c10, c11⟩ := q1
    have q2 := cells_pl hs.out.2.2.1
    obtain ⟨c20, c21⟩ := q2
    go_wp2_with fail
    refine (H1.out _).mono ?_
    rintro e w1 ⟨rfl, b1⟩
    have hs' := Lib.hid (Bx3.step hs.out b1)
    clear hs b1 c00 c01 c02 c03 c10 c11 c20 c21
    have hs := hs'
    clear hs'
    have q0 := cells_ln hs.out.1
    obtain ⟨c00, c01, c02, c03⟩ := q0
    have q1 := cells_pl hs.out.2.1
    obtain ⟨c10, c11⟩ := q1
    have q2 := cells_pl hs.out.2.2.1
    obtain ⟨c20, c21⟩ := q2
    go_wp2_with fail
    refine (H2.out _).mono ?_
    rintro e w2 ⟨rfl, b1⟩
    have hs' := Lib.hid (Bx3.step hs.out b1)
    clear hs b1 c00 c01 c02 c03 c10 c11 c20 c21
    have hs := hs'
    clear hs'
    have q0 := cells_ln hs.out.1
    obtain ⟨c00, c01, c02, c03⟩ := q0
    have q1 := cells_pl hs.out.2.1
    obtain ⟨c10, c11⟩ := q1
    have q2 := cells_pl hs.out.2.2.1
    obtain ⟨c20, c21⟩ := q2
    go_wp2_with fail
    refine (H3.out _).mono ?_
    rintro e w3 ⟨rfl, b1⟩
    have hs' := Lib.hid (Bx3.step hs.out b1)
    clear hs b1 c00 c01 c02 c03 c10 c11 c20 c21
    have hs := hs'
    clear hs'
    go_wp2
    refine wp_goto (And.intro rfl ?_)
    show Go.Code.wp _ _ _ _ _
    go_wp2
    rw [Exit.noGoto_ret]
    go_ret
    exact ⟨rfl, hs.out.2.2.2⟩
  · have H4 := Lib.hid (fun w => i_missed l a b w (liB_iff.1 e1).1 (liB_iff.1 e1).2.1 e2 e3)
    have H5 := Lib.hid (fun w => i_side l a w e1 e2)
    have H6 := Lib.hid (fun w => i_side l b w e1 e3)
    have sb := (sd_bd l a).2
    rw [e0, crV_ms]
    rw [e1] at H1
    rw [e2] at H2
    rw [e3] at H3
    clear e0 e1 e2 e3
    generalize msB (crx a b a l.1) (crx a b a l.2) = m at *
    generalize sdW l a = s at *
    generalize sdW l b = t at *
    obtain ⟨⟨x1, x2⟩, x3, x4⟩ := l
    obtain ⟨y1, y2⟩ := a
    obtain ⟨z1, z2⟩ := b
    dsimp only at *
    have hs := Lib.hid (Bx3.new w #[.int .i64 x1, .int .i64 x2, .int .i64 x3, .int .i64 x4] 33 #[.int .i64 y1, .int .i64 y2] 25 #[.int .i64 z1, .int .i64 z2] 25)
    cases m
    · rw [if_neg (by simp)]
      have hd : ((if s ≤ 0 ∧ t = 1 then (1 : Int) else if s = 1 ∧ t ≤ 0 then -1 else 0) = 1 ∧ s ≤ 0 ∧ t = 1 ∧ decide (t = 1) = true) ∨ ((if s ≤ 0 ∧ t = 1 then (1 : Int) else if s = 1 ∧ t ≤ 0 then -1 else 0) = 0 ∧ s ≤ 0 ∧ ¬ t = 1 ∧ decide (t = 1) = false ∧ ¬ s = 1) ∨ ((if s ≤ 0 ∧ t = 1 then (1 : Int) else if s = 1 ∧ t ≤ 0 then -1 else 0) = -1 ∧ ¬ s ≤ 0 ∧ s = 1 ∧ t ≤ 0 ∧ decide (t ≤ 0) = true) ∨ ((if s ≤ 0 ∧ t = 1 then (1 : Int) else if s = 1 ∧ t ≤ 0 then -1 else 0) = 0 ∧ ¬ s ≤ 0 ∧ s = 1 ∧ ¬ t ≤ 0 ∧ decide (t ≤ 0) = false) := by
        simp only [decide_eq_true_eq, decide_eq_false_iff_not]
        rcases cr_dir (t := t) sb with ⟨h1, h2⟩ | ⟨h1, h2, h3⟩ | ⟨h1, h2, h3⟩ | ⟨h1, h2, h3⟩
        · left; refine ⟨by rw [if_pos ⟨h1, h2⟩], h1, h2, h2⟩
        · right; left; refine ⟨by rw [if_neg (by omega), if_neg (by omega)], h1, h2, h2, h3⟩
        · right; right; left; refine ⟨by rw [if_neg (by omega), if_pos ⟨h2, h3⟩], h1, h2, h3, h3⟩
        · right; right; right; refine ⟨by rw [if_neg (by omega), if_neg (by omega)], h1, h2, h3, h3⟩
      generalize (if s ≤ 0 ∧ t = 1 then (1 : Int) else if s = 1 ∧ t ≤ 0 then -1 else 0) = R at *
      have HD := Lib.hid hd
      clear hd sb
      go_enter Try.func89, Try.ntmps89
      go_wp2_with fail
      refine wp_scope_on 0 (by rfl) ?_
      have q0 := cells_ln hs.out.1
      obtain ⟨c00, c01, c02, c03⟩ := q0
      have q1 := cells_pl hs.out.2.1
      obtain ⟨c10, c11⟩ := q1
      have q2 := cells_pl hs.out.2.2.1
      obtain ⟨c20, c21⟩ := q2
      go_wp2_with fail
      refine (H1.out _).mono ?_
      rintro e w1 ⟨rfl, b1⟩
      have hs' := Lib.hid (Bx3.step hs.out b1)
      clear hs b1 c00 c01 c02 c03 c10 c11 c20 c21
      have hs := hs'
      clear hs'
      have q0 := cells_ln hs.out.1
      obtain ⟨c00, c01, c02, c03⟩ := q0
      have q1 := cells_pl hs.out.2.1
      obtain ⟨c10, c11⟩ := q1
      have q2 := cells_pl hs.out.2.2.1
      obtain ⟨c20, c21⟩ := q2
      go_wp2_with fail
      refine (H2.out _).mono ?_
      rintro e w2 ⟨rfl, b1⟩
      have hs' := Lib.hid (Bx3.step hs.out b1)
      clear hs b1 c00 c01 c02 c03 c10 c11 c20 c21
      have hs := hs'
      clear hs'
      have q0 := cells_ln hs.out.1
      obtain ⟨c00, c01, c02, c03⟩ := q0
      have q1 := cells_pl hs.out.2.1
      obtain ⟨c10, c11⟩ := q1
      have q2 := cells_pl hs.out.2.2.1
      obtain ⟨c20, c21⟩ := q2
      go_wp2_with fail
      refine (H3.out _).mono ?_
      rintro e w3 ⟨rfl, b1⟩
      have hs' := Lib.hid (Bx3.step hs.out b1)
      clear hs b1 c00 c01 c02 c03 c10 c11 c20 c21
      have hs := hs'
      clear hs'
      have q0 := cells_ln hs.out.1
      obtain ⟨c00, c01, c02, c03⟩ := q0
      have q1 := cells_pl hs.out.2.1
      obtain ⟨c10, c11⟩ := q1
      have q2 := cells_pl hs.out.2.2.1
      obtain ⟨c20, c21⟩ := q2
      go_wp2_with fail
      refine (H4.out _).mono ?_
      rintro e w4 ⟨rfl, b1⟩
      have hs' := Lib.hid (Bx3.step hs.out b1)
      clear hs b1 c00 c01 c02 c03 c10 c11 c20 c21
      have hs := hs'
      clear hs'
      have hst := hs.out
      have rd0 := fun s : Held (fun wx => Bx3 w #[.int .i64 x1, .int .i64 x2, .int .i64 x3, .int .i64 x4] 33 #[.int .i64 y1, .int .i64 y2] 25 #[.int .i64 z1, .int .i64 z2] 25 wx) => (cells_ln s.h.1).1
      have rd1 := fun s : Held (fun wx => Bx3 w #[.int .i64 x1, .int .i64 x2, .int .i64 x3, .int .i64 x4] 33 #[.int .i64 y1, .int .i64 y2] 25 #[.int .i64 z1, .int .i64 z2] 25 wx) => (cells_ln s.h.1).2.1
      have rd2 := fun s : Held (fun wx => Bx3 w #[.int .i64 x1, .int .i64 x2, .int .i64 x3, .int .i64 x4] 33 #[.int .i64 y1, .int .i64 y2] 25 #[.int .i64 z1, .int .i64 z2] 25 wx) => (cells_ln s.h.1).2.2.1
      have rd3 := fun s : Held (fun wx => Bx3 w #[.int .i64 x1, .int .i64 x2, .int .i64 x3, .int .i64 x4] 33 #[.int .i64 y1, .int .i64 y2] 25 #[.int .i64 z1, .int .i64 z2] 25 wx) => (cells_ln s.h.1).2.2.2
      have rp0 := fun s : Held (fun wx => Bx3 w #[.int .i64 x1, .int .i64 x2, .int .i64 x3, .int .i64 x4] 33 #[.int .i64 y1, .int .i64 y2] 25 #[.int .i64 z1, .int .i64 z2] 25 wx) => (cells_pl s.h.2.1).1
      have rp1 := fun s : Held (fun wx => Bx3 w #[.int .i64 x1, .int .i64 x2, .int .i64 x3, .int .i64 x4] 33 #[.int .i64 y1, .int .i64 y2] 25 #[.int .i64 z1, .int .i64 z2] 25 wx) => (cells_pl s.h.2.1).2
      have rq0 := fun s : Held (fun wx => Bx3 w #[.int .i64 x1, .int .i64 x2, .int .i64 x3, .int .i64 x4] 33 #[.int .i64 y1, .int .i64 y2] 25 #[.int .i64 z1, .int .i64 z2] 25 wx) => (cells_pl s.h.2.2.1).1
      have rq1 := fun s : Held (fun wx => Bx3 w #[.int .i64 x1, .int .i64 x2, .int .i64 x3, .int .i64 x4] 33 #[.int .i64 y1, .int .i64 y2] 25 #[.int .i64 z1, .int .i64 z2] 25 wx) => (cells_pl s.h.2.2.1).2
      go_wp2
      haveI hne : Nonempty (Held fun wx => Bx3 w #[.int .i64 x1, .int .i64 x2, .int .i64 x3, .int .i64 x4] 33 #[.int .i64 y1, .int .i64 y2] 25 #[.int .i64 z1, .int .i64 z2] 25 wx) := ⟨⟨_, hst⟩⟩
      refine wp_region_class (fun wx => Bx3 w #[.int .i64 x1, .int .i64 x2, .int .i64 x3, .int .i64 x4] 33 #[.int .i64 y1, .int .i64 y2] 25 #[.int .i64 z1, .int .i64 z2] 25 wx) (by kernel_rfl) (by kernel_rfl) (Bx3.drew hst) ?_
      repeat (go_big_quiet_step (first
        | (go_at_call 96; with_reducible exact held_call Bx3.step (H5.out _))
        | (go_at_call 96; with_reducible exact held_call Bx3.step (H6.out _))))
      refine wpQuiet_nil ?_
      intro _ hw'
      obtain ⟨⟨wq, hst6⟩, rfl⟩ := hw'
      (try dsimp only)
      clear hs hst rd0 rd1 rd2 rd3 rp0 rp1 rq0 rq1 hne
      rcases HD.out with ⟨rfl, h1, h2, h3⟩ | ⟨rfl, h1, h2, h3, h4⟩ | ⟨rfl, h1, h2, h3, h4⟩ | ⟨rfl, h1, h2, h3, h4⟩
      · go_wp2
        refine jump_out (l := 0) ?_
        go_ret
        exact ⟨rfl, hst6.2.2.2⟩
      · go_wp2
        go_step3
        go_wp2
        refine jump_out (l := 0) ?_
        go_ret
        exact ⟨rfl, hst6.2.2.2⟩
      · go_wp2
        refine jump_out (l := 0) ?_
        go_ret
        exact ⟨rfl, hst6.2.2.2⟩
      · go_wp2
        go_step3
        go_wp2
        refine jump_out (l := 0) ?_
        go_ret
        exact ⟨rfl, hst6.2.2.2⟩
    · rw [if_pos rfl]
      go_enter Try.func89, Try.ntmps89
      go_wp2_with fail
      refine wp_scope_on 0 (by rfl) ?_
      have q0 := cells_ln hs.out.1
      obtain ⟨c00, c01, c02, c03⟩ := q0
      have q1 := cells_pl hs.out.2.1
      obtain ⟨c10, c11⟩ := q1
      have q2 := cells_pl hs.out.2.2.1
      obtain ⟨c20, c21⟩ := q2
      go_wp2_with fail
      refine (H1.out _).mono ?_
      rintro e w1 ⟨rfl, b1⟩
      have hs' := Lib.hid (Bx3.step hs.out b1)
      clear hs b1 c00 c01 c02 c03 c10 c11 c20 c21
      have hs := hs'
      clear hs'
      have q0 := cells_ln hs.out.1
      obtain ⟨c00, c01, c02, c03⟩ := q0
      have q1 := cells_pl hs.out.2.1
      obtain ⟨c10, c11⟩ := q1
      have q2 := cells_pl hs.out.2.2.1
      obtain ⟨c20, c21⟩ := q2
      go_wp2_with fail
      refine (H2.out _).mono ?_
      rintro e w2 ⟨rfl, b1⟩
      have hs' := Lib.hid (Bx3.step hs.out b1)
      clear hs b1 c00 c01 c02 c03 c10 c11 c20 c21
      have hs := hs'
      clear hs'
      have q0 := cells_ln hs.out.1
      obtain ⟨c00, c01, c02, c03⟩ := q0
      have q1 := cells_pl hs.out.2.1
      obtain ⟨c10, c11⟩ := q1
      have q2 := cells_pl hs.out.2.2.1
      obtain ⟨c20, c21⟩ := q2
      go_wp2_with fail
      refine (H3.out _).mono ?_
      rintro e w3 ⟨rfl, b1⟩
      have hs' := Lib.hid (Bx3.step hs.out b1)
      clear hs b1 c00 c01 c02 c03 c10 c11 c20 c21
      have hs := hs'
      clear hs'
      have q0 := cells_ln hs.out.1
      obtain ⟨c00, c01, c02, c03⟩ := q0
      have q1 := cells_pl hs.out.2.1
      obtain ⟨c10, c11⟩ := q1
      have q2 := cells_pl hs.out.2.2.1
      obtain ⟨c20, c21⟩ := q2
      go_wp2_with fail
      refine (H4.out _).mono ?_
      rintro e w4 ⟨rfl, b1⟩
      have hs' := Lib.hid (Bx3.step hs.out b1)
      clear hs b1 c00 c01 c02 c03 c10 c11 c20 c21
      have hs := hs'
      clear hs'
      go_wp2
      refine wp_goto (And.intro rfl ?_)
      show Go.Code.wp _ _ _ _ _
      go_wp2
      rw [Exit.noGoto_ret]
      go_ret
      exact ⟨rfl, hs.out.2.2.2⟩
end Go.Proofs.Ythahakefmpajfaa
