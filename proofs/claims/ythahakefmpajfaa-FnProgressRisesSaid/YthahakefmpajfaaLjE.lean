/- When a step crosses (impl): the time of a crossing; ahead at a time. -/
import Derived.Test.YthahakefmpajfaaLjD
import Derived.Test.YthahakefmpajfaaLiF
namespace Go.Proofs.Ythahakefmpajfaa
open Go.RowKit
set_option linter.unusedVariables false
set_option linter.unusedSimpArgs false

/-- A quotient that is rounded up, by what is left. -/
theorem up_eq {N D : Int} (hN : 0 ≤ N) (hD : 0 < D) : (N + D - 1).tdiv D = N.tdiv D + (if N.tmod D = 0 then 0 else 1) := by
  rw [Int.tdiv_eq_ediv_of_nonneg (by omega), Int.tdiv_eq_ediv_of_nonneg hN, Int.tmod_eq_emod_of_nonneg hN]
  have e := Int.mul_ediv_add_emod N D
  have r0 := Int.emod_nonneg N (show D ≠ 0 by omega)
  have r1 := Int.emod_lt_of_pos N hD
  generalize N / D = q at *
  generalize N % D = r at *
  by_cases h : r = 0
  · rw [if_pos h]
    subst h
    have e2 : N + D - 1 = (D - 1) + D * q := by omega
    rw [e2, Int.add_mul_ediv_left _ _ (by omega), Int.ediv_eq_zero_of_lt (by omega) (by omega)]
    omega
  · rw [if_neg h]
    have e2 : N + D - 1 = (r - 1) + D * (q + 1) := by rw [Int.mul_add]; omega
    rw [e2, Int.add_mul_ediv_left _ _ (by omega), Int.ediv_eq_zero_of_lt (by omega) (by omega)]
    omega
theorem ctD_up {T h k : Int} (t0 : 0 < T) (hs : (0 ≤ h ∧ k < 0) ∨ (h < 0 ∧ 0 ≤ k)) : ctD T h k = (T * h).tdiv (h - k) + (if (T * h).tmod (h - k) = 0 then 0 else 1) := by
  unfold ctD
  rcases hs with ⟨h0, k0⟩ | ⟨h0, k0⟩
  · rw [if_neg (by omega)]
    exact up_eq (Int.mul_nonneg (by omega) h0) (by omega)
  · rw [if_pos (by omega)]
    have e : 0 ≤ T * (-h) := Int.mul_nonneg (by omega) (by omega)
    have e2 : T * (-h) = -(T * h) := by grind
    rw [up_eq (by omega) (by omega)]
    rw [Int.neg_tdiv_neg, Int.tmod_neg, Int.neg_tmod]
    simp
theorem quo_bd {T h k : Int} (t0 : 0 < T) (hs : (0 ≤ h ∧ k < 0) ∨ (h < 0 ∧ 0 ≤ k)) : 0 ≤ (T * h).tdiv (h - k) ∧ (T * h).tdiv (h - k) ≤ T := by
  have := ct_quo t0 hs
  rw [ctD_up t0 hs] at this
  have h2 : 0 ≤ (T * h).tdiv (h - k) := by
    rcases hs with ⟨h0, k0⟩ | ⟨h0, k0⟩
    · exact Int.tdiv_nonneg (Int.mul_nonneg (by omega) h0) (by omega)
    · have e : 0 ≤ T * (-h) := Int.mul_nonneg (by omega) (by omega)
      have e2 : T * (-h) = -(T * h) := by grind
      rw [← Int.neg_tdiv_neg]
      exact Int.tdiv_nonneg (by omega) (by omega)
  split at this <;> omega
set_option maxRecDepth 100000 in
set_option maxHeartbeats 4000000 in
theorem i_timeOf (l : Ln) (s t : Sg) (w : World) (hy : ctB l s t = true) :
    Calls Try.prog 97 #[.agg #[.int .i64 l.1.1, .int .i64 l.1.2, .int .i64 l.2.1, .int .i64 l.2.2], .agg #[.int .i64 s.1.1, .int .i64 s.1.2, .int .i64 s.2], .agg #[.int .i64 t.1.1, .int .i64 t.1.2, .int .i64 t.2]] w fun e w' => e = .returned (.int .i64 (ctV l s t)) ∧ Below w.heap.size w w' := by
  obtain ⟨hc, htk⟩ := ctB_iff.1 hy
  obtain ⟨h1, h2, h3, hs⟩ := cr_sides hc
  obtain ⟨_, _, bs, bt, hst0⟩ := tk2_iff.1 htk
  have HH := Lib.hid (fun w => i_hgt l s.1 w (liB_iff.1 h1).1 (liB_iff.1 h1).2.1 h2)
  have HK := Lib.hid (fun w => i_hgt l t.1 w (liB_iff.1 h1).1 (liB_iff.1 h1).2.1 h3)
  have bh := hgt_bd h1 h2
  have bk := hgt_bd h1 h3
  have hs' : (0 ≤ hgt l s.1 ∧ hgt l t.1 < 0) ∨ (hgt l s.1 < 0 ∧ 0 ≤ hgt l t.1) := hs.imp (fun ⟨a, b, _⟩ => ⟨a, b⟩) (fun ⟨a, b, _⟩ => ⟨a, b⟩)
  have qb := ct_quo (T := t.2 - s.2) (by omega) hs'
  have qc := quo_bd (T := t.2 - s.2) (by omega) hs'
  have qe := ctD_up (T := t.2 - s.2) (by omega) hs'
  unfold ctV
  rw [qe] at qb ⊢
  clear qe
  generalize hgt l s.1 = h at *
  generalize hgt l t.1 = k at *
  clear hy htk h1 h2 h3 hs hc
  have dz : ¬ h - k = 0 := by omega
  clear hs'
  obtain ⟨⟨x1, x2⟩, x3, x4⟩ := l
  obtain ⟨⟨y1, y2⟩, y3⟩ := s
  obtain ⟨⟨z1, z2⟩, z3⟩ := t
  dsimp only at *
  have m := mul_bdI (a := z3 - y3) (b := h) (m := 10000000) (n := 800000000) (by omega) (by omega) (by omega) (by omega)
  have dz2 : (h - k == 0) = false := by rw [beq_eq_false_iff_ne]; exact dz
  have hst := (Bx3.new w #[.int .i64 x1, .int .i64 x2, .int .i64 x3, .int .i64 x4] 33 #[.int .i64 y1, .int .i64 y2, .int .i64 y3] 86 #[.int .i64 z1, .int .i64 z2, .int .i64 z3] 86)
  have rd0 := fun s : Held (fun wx => Bx3 w #[.int .i64 x1, .int .i64 x2, .int .i64 x3, .int .i64 x4] 33 #[.int .i64 y1, .int .i64 y2, .int .i64 y3] 86 #[.int .i64 z1, .int .i64 z2, .int .i64 z3] 86 wx) => (cells_ln s.h.1).1
  have rd1 := fun s : Held (fun wx => Bx3 w #[.int .i64 x1, .int .i64 x2, .int .i64 x3, .int .i64 x4] 33 #[.int .i64 y1, .int .i64 y2, .int .i64 y3] 86 #[.int .i64 z1, .int .i64 z2, .int .i64 z3] 86 wx) => (cells_ln s.h.1).2.1
  have rd2 := fun s : Held (fun wx => Bx3 w #[.int .i64 x1, .int .i64 x2, .int .i64 x3, .int .i64 x4] 33 #[.int .i64 y1, .int .i64 y2, .int .i64 y3] 86 #[.int .i64 z1, .int .i64 z2, .int .i64 z3] 86 wx) => (cells_ln s.h.1).2.2.1
  have rd3 := fun s : Held (fun wx => Bx3 w #[.int .i64 x1, .int .i64 x2, .int .i64 x3, .int .i64 x4] 33 #[.int .i64 y1, .int .i64 y2, .int .i64 y3] 86 #[.int .i64 z1, .int .i64 z2, .int .i64 z3] 86 wx) => (cells_ln s.h.1).2.2.2
  have rp0 := fun s : Held (fun wx => Bx3 w #[.int .i64 x1, .int .i64 x2, .int .i64 x3, .int .i64 x4] 33 #[.int .i64 y1, .int .i64 y2, .int .i64 y3] 86 #[.int .i64 z1, .int .i64 z2, .int .i64 z3] 86 wx) => (cells_sg s.h.2.1).1
  have rp1 := fun s : Held (fun wx => Bx3 w #[.int .i64 x1, .int .i64 x2, .int .i64 x3, .int .i64 x4] 33 #[.int .i64 y1, .int .i64 y2, .int .i64 y3] 86 #[.int .i64 z1, .int .i64 z2, .int .i64 z3] 86 wx) => (cells_sg s.h.2.1).2.1
  have rp2 := fun s : Held (fun wx => Bx3 w #[.int .i64 x1, .int .i64 x2, .int .i64 x3, .int .i64 x4] 33 #[.int .i64 y1, .int .i64 y2, .int .i64 y3] 86 #[.int .i64 z1, .int .i64 z2, .int .i64 z3] 86 wx) => (cells_sg s.h.2.1).2.2
  have rq0 := fun s : Held (fun wx => Bx3 w #[.int .i64 x1, .int .i64 x2, .int .i64 x3, .int .i64 x4] 33 #[.int .i64 y1, .int .i64 y2, .int .i64 y3] 86 #[.int .i64 z1, .int .i64 z2, .int .i64 z3] 86 wx) => (cells_sg s.h.2.2.1).1
  have rq1 := fun s : Held (fun wx => Bx3 w #[.int .i64 x1, .int .i64 x2, .int .i64 x3, .int .i64 x4] 33 #[.int .i64 y1, .int .i64 y2, .int .i64 y3] 86 #[.int .i64 z1, .int .i64 z2, .int .i64 z3] 86 wx) => (cells_sg s.h.2.2.1).2.1
  have rq2 := fun s : Held (fun wx => Bx3 w #[.int .i64 x1, .int .i64 x2, .int .i64 x3, .int .i64 x4] 33 #[.int .i64 y1, .int .i64 y2, .int .i64 y3] 86 #[.int .i64 z1, .int .i64 z2, .int .i64 z3] 86 wx) => (cells_sg s.h.2.2.1).2.2
  by_cases hr : ((z3 - y3) * h).tmod (h - k) = 0
  · rw [if_pos hr] at qb ⊢
    have hr2 : (((z3 - y3) * h).tmod (h - k) == 0) = true := by rw [hr]; rfl
    go_enter Try.func97, Try.ntmps97
    go_wp2
    haveI hne : Nonempty (Held fun wx => Bx3 w #[.int .i64 x1, .int .i64 x2, .int .i64 x3, .int .i64 x4] 33 #[.int .i64 y1, .int .i64 y2, .int .i64 y3] 86 #[.int .i64 z1, .int .i64 z2, .int .i64 z3] 86 wx) := ⟨⟨_, hst⟩⟩
    refine wp_region_class (fun wx => Bx3 w #[.int .i64 x1, .int .i64 x2, .int .i64 x3, .int .i64 x4] 33 #[.int .i64 y1, .int .i64 y2, .int .i64 y3] 86 #[.int .i64 z1, .int .i64 z2, .int .i64 z3] 86 wx) (by kernel_rfl) (by kernel_rfl) (Bx3.drew hst) ?_
    repeat (go_big_quiet_step (first
      | (go_at_call 77; with_reducible exact held_call Bx3.step (HH.out _))
      | (go_at_call 77; with_reducible exact held_call Bx3.step (HK.out _))))
    refine wpQuiet_nil ?_
    intro _ hw'
    obtain ⟨⟨wq, hst6⟩, rfl⟩ := hw'
    (try dsimp only)
    clear hst rd0 rd1 rd2 rd3 rp0 rp1 rp2 rq0 rq1 rq2 hne
    have q1 := cells_sg hst6.2.1
    obtain ⟨c10, c11, c12⟩ := q1
    have q2 := cells_sg hst6.2.2.1
    obtain ⟨c20, c21, c22⟩ := q2
    go_wp2
    go_ret
    exact ⟨by rw [Int.add_zero]; rfl, hst6.2.2.2⟩
  · rw [if_neg hr] at qb ⊢
    have hr2 : (((z3 - y3) * h).tmod (h - k) == 0) = false := by rw [beq_eq_false_iff_ne]; exact hr
    go_enter Try.func97, Try.ntmps97
    go_wp2
    haveI hne : Nonempty (Held fun wx => Bx3 w #[.int .i64 x1, .int .i64 x2, .int .i64 x3, .int .i64 x4] 33 #[.int .i64 y1, .int .i64 y2, .int .i64 y3] 86 #[.int .i64 z1, .int .i64 z2, .int .i64 z3] 86 wx) := ⟨⟨_, hst⟩⟩
    refine wp_region_class (fun wx => Bx3 w #[.int .i64 x1, .int .i64 x2, .int .i64 x3, .int .i64 x4] 33 #[.int .i64 y1, .int .i64 y2, .int .i64 y3] 86 #[.int .i64 z1, .int .i64 z2, .int .i64 z3] 86 wx) (by kernel_rfl) (by kernel_rfl) (Bx3.drew hst) ?_
    repeat (go_big_quiet_step (first
      | (go_at_call 77; with_reducible exact held_call Bx3.step (HH.out _))
      | (go_at_call 77; with_reducible exact held_call Bx3.step (HK.out _))))
    refine wpQuiet_nil ?_
    intro _ hw'
    obtain ⟨⟨wq, hst6⟩, rfl⟩ := hw'
    (try dsimp only)
    clear hst rd0 rd1 rd2 rd3 rp0 rp1 rp2 rq0 rq1 rq2 hne
    have q1 := cells_sg hst6.2.1
    obtain ⟨c10, c11, c12⟩ := q1
    have q2 := cells_sg hst6.2.2.1
    obtain ⟨c20, c21, c22⟩ := q2
    go_wp2
    go_ret
    exact ⟨rfl, hst6.2.2.2⟩
end Go.Proofs.Ythahakefmpajfaa
