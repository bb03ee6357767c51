/- When a step crosses a line (spec): CrossTime. -/
import Derived.Test.YthahakefmpajfaaLiC
namespace Go.Proofs.Ythahakefmpajfaa
open Go.RowKit
set_option linter.unusedVariables false
set_option linter.unusedSimpArgs false

/-- Two sights, one behind the other. -/
def two (s t : Sg) (j : Nat) : Sg := if j = 0 then s else t
noncomputable def tk2 (s t : Sg) : Bool := tkB 2 (two s t)
theorem tk2_iff {s t : Sg} : tk2 s t = true ↔ plB s.1 = true ∧ plB t.1 = true ∧ (0 ≤ s.2 ∧ s.2 ≤ 10000000) ∧ (0 ≤ t.2 ∧ t.2 ≤ 10000000) ∧ s.2 < t.2 := by
  unfold tk2
  rw [tkB_iff]
  unfold TkOk SgOk two
  constructor
  · rintro ⟨_, h⟩
    obtain ⟨a0, b0, _⟩ := h 0 (by omega)
    obtain ⟨a1, b1, c1⟩ := h 1 (by omega)
    have c2 := c1 (by omega)
    simp at a0 b0 a1 b1 c2
    exact ⟨a0, a1, b0, b1, c2⟩
  · rintro ⟨a0, a1, b0, b1, c⟩
    refine ⟨by omega, fun j hj => ?_⟩
    have h2 : j = 0 ∨ j = 1 := by omega
    rcases h2 with rfl | rfl
    · exact ⟨a0, b0, fun h => by omega⟩
    · exact ⟨a1, b1, fun _ => c⟩
theorem hgt_bd {l : Ln} {p : Int × Int} (h1 : liB l = true) (h2 : plB p = true) : -800000000 ≤ hgt l p ∧ hgt l p ≤ 800000000 := by
  obtain ⟨a, b, _⟩ := liB_iff.1 h1
  obtain ⟨_, _, _, _, _, _, r⟩ := crx_bd a b a h2
  exact r
/-- A step that crosses has its ends on both sides. -/
theorem cr_sides {l : Ln} {a b : Int × Int} (h : ¬ crW l a b = 0) : liB l = true ∧ plB a = true ∧ plB b = true ∧ ((0 ≤ hgt l a ∧ hgt l b < 0 ∧ crW l a b = 1) ∨ (hgt l a < 0 ∧ 0 ≤ hgt l b ∧ crW l a b = -1)) := by
  cases hv : (liB l && plB a && plB b)
  · exact absurd (crW_no hv) h
  · simp only [Bool.and_eq_true] at hv
    obtain ⟨⟨h1, h2⟩, h3⟩ := hv
    refine ⟨h1, h2, h3, ?_⟩
    rw [crW_yes h1 h2 h3] at h ⊢
    have ea : sdW l a = if hgt l a < 0 then 1 else if 0 < hgt l a then -1 else 0 := by unfold sdW; rw [h1, h2]; rfl
    have eb : sdW l b = if hgt l b < 0 then 1 else if 0 < hgt l b then -1 else 0 := by unfold sdW; rw [h1, h3]; rfl
    generalize sdW l a = s at *
    generalize sdW l b = t at *
    unfold crV at h ⊢
    by_cases g : (0 < crx a b a l.1 ∧ 0 < crx a b a l.2) ∨ (crx a b a l.1 < 0 ∧ crx a b a l.2 < 0)
    · rw [if_pos g] at h; exact absurd rfl h
    · rw [if_neg g] at h ⊢
      by_cases d : s ≤ 0 ∧ t = 1
      · rw [if_pos d]
        left
        split at ea <;> split at eb <;> omega
      · rw [if_neg d] at h ⊢
        by_cases d2 : s = 1 ∧ t ≤ 0
        · rw [if_pos d2]
          right
          split at ea <;> split at eb <;> omega
        · rw [if_neg d2] at h; exact absurd rfl h
/-- The time of a crossing, as it is reckoned: the quotient is rounded up. -/
def ctD (T h k : Int) : Int := if h - k < 0 then (-(T * h) + -(h - k) - 1).tdiv (-(h - k)) else (T * h + (h - k) - 1).tdiv (h - k)
def ctV (l : Ln) (s t : Sg) : Int := s.2 + ctD (t.2 - s.2) (hgt l s.1) (hgt l t.1)
noncomputable def ctB (l : Ln) (s t : Sg) : Bool := !(decide (crW l s.1 t.1 = 0)) && tk2 s t
noncomputable def ctW (l : Ln) (s t : Sg) : Int := if ctB l s t = true then ctV l s t else 0
theorem ctB_iff {l : Ln} {s t : Sg} : ctB l s t = true ↔ ¬ crW l s.1 t.1 = 0 ∧ tk2 s t = true := by unfold ctB; simp
/-- The quotient of what is crossed, between 0 and the whole. -/
theorem ct_quo {T h k : Int} (t0 : 0 < T) (hs : (0 ≤ h ∧ k < 0) ∨ (h < 0 ∧ 0 ≤ k)) : 0 ≤ ctD T h k ∧ ctD T h k ≤ T := by
  unfold ctD
  rcases hs with ⟨h0, k0⟩ | ⟨h0, k0⟩
  · rw [if_neg (by omega)]
    have e : 0 ≤ T * h := Int.mul_nonneg (by omega) h0
    have e2 : 0 ≤ T * (-k) := Int.mul_nonneg (by omega) (by omega)
    rw [Int.tdiv_eq_ediv_of_nonneg (by omega)]
    constructor
    · exact Int.ediv_nonneg (by omega) (by omega)
    · have : T * h + (h - k) - 1 < (T + 1) * (h - k) := by grind
      have := Int.ediv_lt_of_lt_mul (by omega) this
      omega
  · rw [if_pos (by omega)]
    have e : 0 ≤ T * (-h) := Int.mul_nonneg (by omega) (by omega)
    have e2 : 0 ≤ T * k := Int.mul_nonneg (by omega) k0
    have e3 : T * (-h) = -(T * h) := by grind
    rw [Int.tdiv_eq_ediv_of_nonneg (by omega)]
    constructor
    · exact Int.ediv_nonneg (by omega) (by omega)
    · have : -(T * h) + -(h - k) - 1 < (T + 1) * (-(h - k)) := by grind
      have := Int.ediv_lt_of_lt_mul (by omega) this
      omega
theorem cells_sg {w : World} {g : Nat} {a b c : Int} (h : w.heap[g]? = some (.cells #[.int .i64 a, .int .i64 b, .int .i64 c] 86 (0, 0))) :
    w.cell? ⟨g, 0, none⟩ = some (.int .i64 a) ∧ w.cell? ⟨g, 1, none⟩ = some (.int .i64 b) ∧ w.cell? ⟨g, 2, none⟩ = some (.int .i64 c) :=
  ⟨cell_of_row w _ 0 _ _ _ h, cell_of_row w _ 1 _ _ _ h, cell_of_row w _ 2 _ _ _ h⟩
theorem s_tk2 (s t : Sg) (W : World) :
    Calls Try.prog 65 #[.slice (some ⟨W.heap.size, 0, none⟩) 2 2] (W.alloc (.cells #[.int .i64 s.1.1, .int .i64 s.1.2, .int .i64 s.2, .int .i64 t.1.1, .int .i64 t.1.2, .int .i64 t.2] 86))
      fun e w' => e = .returned (.bool (tk2 s t)) ∧ Below W.heap.size W w' := by
  have hn := heap_alloc_new W (.cells #[.int .i64 s.1.1, .int .i64 s.1.2, .int .i64 s.2, .int .i64 t.1.1, .int .i64 t.1.2, .int .i64 t.2] 86)
  refine (s_tk (two s t) (some ⟨W.heap.size, 0, none⟩) W.heap.size 0 2 2 _ (by omega) (fun _ => rfl) ?_).mono ?_
  · intro j hj
    have h2 : j = 0 ∨ j = 1 := by omega
    rcases h2 with rfl | rfl
    · exact ⟨cell_of_row _ _ 0 _ _ _ hn, cell_of_row _ _ 1 _ _ _ hn, cell_of_row _ _ 2 _ _ _ hn⟩
    · exact ⟨cell_of_row _ _ 3 _ _ _ hn, cell_of_row _ _ 4 _ _ _ hn, cell_of_row _ _ 5 _ _ _ hn⟩
  · rintro e w' ⟨he, b⟩
    exact ⟨he, ((Below.refl _ W).alloc (Nat.le_refl _) _).trans (b.mono (by simp))⟩
set_option maxRecDepth 100000 in
set_option maxHeartbeats 2000000 in
theorem s_ct_no (l : Ln) (s t : Sg) (w : World) (hno : ctB l s t = false) :
    Calls Try.prog 70 #[.agg #[.int .i64 l.1.1, .int .i64 l.1.2, .int .i64 l.2.1, .int .i64 l.2.2], .agg #[.int .i64 s.1.1, .int .i64 s.1.2, .int .i64 s.2], .agg #[.int .i64 t.1.1, .int .i64 t.1.2, .int .i64 t.2]] w fun e w' => e = .returned (.tuple #[.int .i64 0, .bool false]) ∧ Below w.heap.size w w' := by
  have HC := Lib.hid (fun w => s_cr l s.1 t.1 w)
  have HT := Lib.hid (fun W => s_tk2 s t W)
  have hq : crW l s.1 t.1 = 0 ∨ (¬ crW l s.1 t.1 = 0 ∧ tk2 s t = false) := by
    by_cases h : crW l s.1 t.1 = 0
    · left; exact h
    · right
      refine ⟨h, ?_⟩
      cases e : tk2 s t
      · rfl
      · rw [ctB_iff.2 ⟨h, e⟩] at hno; cases hno
  clear hno
  generalize crW l s.1 t.1 = c at *
  generalize tk2 s t = u at *
  obtain ⟨⟨x1, x2⟩, x3, x4⟩ := l
  obtain ⟨⟨y1, y2⟩, y3⟩ := s
  obtain ⟨⟨z1, z2⟩, z3⟩ := t
  dsimp only at *
  have hst := Lib.hid (Bx3.new w #[.int .i64 x1, .int .i64 x2, .int .i64 x3, .int .i64 x4] 33 #[.int .i64 y1, .int .i64 y2, .int .i64 y3] 86 #[.int .i64 z1, .int .i64 z2, .int .i64 z3] 86)
  have q0 := cells_ln hst.out.1
  obtain ⟨c00, c01, c02, c03⟩ := q0
  have q1 := cells_sg hst.out.2.1
  obtain ⟨c10, c11, c12⟩ := q1
  have q2 := cells_sg hst.out.2.2.1
  obtain ⟨c20, c21, c22⟩ := q2
  rcases hq with rfl | ⟨hc, rfl⟩
  · go_enter Try.func70, Try.ntmps70
    go_wp2_with (first
      | (go_at_call 69; ((with_reducible refine (HC.out _).mono ?_); rintro e w' ⟨rfl, b⟩; have hs2 := Lib.hid (hst.out.step b); clear hst b c00 c01 c02 c03 c10 c11 c12 c20 c21 c22; have hst := hs2; clear hs2; have q0 := cells_ln hst.out.1; obtain ⟨c00, c01, c02, c03⟩ := q0; have q1 := cells_sg hst.out.2.1; obtain ⟨c10, c11, c12⟩ := q1; have q2 := cells_sg hst.out.2.2.1; obtain ⟨c20, c21, c22⟩ := q2))
      | (go_at_call 65; ((with_reducible refine (HT.out _).mono ?_); rintro e w' ⟨rfl, b⟩; have hs2 := Lib.hid (hst.out.step b); clear hst b c00 c01 c02 c03 c10 c11 c12 c20 c21 c22; have hst := hs2; clear hs2; have q0 := cells_ln hst.out.1; obtain ⟨c00, c01, c02, c03⟩ := q0; have q1 := cells_sg hst.out.2.1; obtain ⟨c10, c11, c12⟩ := q1; have q2 := cells_sg hst.out.2.2.1; obtain ⟨c20, c21, c22⟩ := q2)))
    go_ret2
    exact ⟨rfl, hst.out.2.2.2⟩
  · have e1 : (c == 0) = false := by rw [beq_eq_false_iff_ne]; exact hc
    go_enter Try.func70, Try.ntmps70
    go_wp2_with (first
      | (go_at_call 69; ((with_reducible refine (HC.out _).mono ?_); rintro e w' ⟨rfl, b⟩; have hs2 := Lib.hid (hst.out.step b); clear hst b c00 c01 c02 c03 c10 c11 c12 c20 c21 c22; have hst := hs2; clear hs2; have q0 := cells_ln hst.out.1; obtain ⟨c00, c01, c02, c03⟩ := q0; have q1 := cells_sg hst.out.2.1; obtain ⟨c10, c11, c12⟩ := q1; have q2 := cells_sg hst.out.2.2.1; obtain ⟨c20, c21, c22⟩ := q2))
      | (go_at_call 65; ((with_reducible refine (HT.out _).mono ?_); rintro e w' ⟨rfl, b⟩; have hs2 := Lib.hid (hst.out.step b); clear hst b c00 c01 c02 c03 c10 c11 c12 c20 c21 c22; have hst := hs2; clear hs2; have q0 := cells_ln hst.out.1; obtain ⟨c00, c01, c02, c03⟩ := q0; have q1 := cells_sg hst.out.2.1; obtain ⟨c10, c11, c12⟩ := q1; have q2 := cells_sg hst.out.2.2.1; obtain ⟨c20, c21, c22⟩ := q2)))
    go_ret2
    exact ⟨rfl, hst.out.2.2.2⟩
set_option maxRecDepth 100000 in
set_option maxHeartbeats 4000000 in
theorem s_ct_yes (l : Ln) (s t : Sg) (w : World) (hy : ctB l s t = true) :
    Calls Try.prog 70 #[.agg #[.int .i64 l.1.1, .int .i64 l.1.2, .int .i64 l.2.1, .int .i64 l.2.2], .agg #[.int .i64 s.1.1, .int .i64 s.1.2, .int .i64 s.2], .agg #[.int .i64 t.1.1, .int .i64 t.1.2, .int .i64 t.2]] w fun e w' => e = .returned (.tuple #[.int .i64 (ctV l s t), .bool true]) ∧ Below w.heap.size w w' := by
  obtain ⟨hc, htk⟩ := ctB_iff.1 hy
  obtain ⟨h1, h2, h3, hs⟩ := cr_sides hc
  obtain ⟨_, _, bs, bt, hst0⟩ := tk2_iff.1 htk
  have HC := Lib.hid (fun w => s_cr l s.1 t.1 w)
  have HT := Lib.hid (fun W => htk ▸ s_tk2 s t W)
  have HH := Lib.hid (fun w => s_hgt l s.1 w (liB_iff.1 h1).1 (liB_iff.1 h1).2.1 h2)
  have HK := Lib.hid (fun w => s_hgt l t.1 w (liB_iff.1 h1).1 (liB_iff.1 h1).2.1 h3)
  have bh := hgt_bd h1 h2
  have bk := hgt_bd h1 h3
  have hs' : (0 ≤ hgt l s.1 ∧ hgt l t.1 < 0) ∨ (hgt l s.1 < 0 ∧ 0 ≤ hgt l t.1) := hs.imp (fun ⟨a, b, _⟩ => ⟨a, b⟩) (fun ⟨a, b, _⟩ => ⟨a, b⟩)
  have qb := ct_quo (T := t.2 - s.2) (by omega) hs'
  unfold ctV
  generalize crW l s.1 t.1 = c at *
  generalize hgt l s.1 = h at *
  generalize hgt l t.1 = k at *
  clear hy htk h1 h2 h3 hs
  obtain ⟨⟨x1, x2⟩, x3, x4⟩ := l
  obtain ⟨⟨y1, y2⟩, y3⟩ := s
  obtain ⟨⟨z1, z2⟩, z3⟩ := t
  dsimp only at *
  have hst := Lib.hid (Bx3.new w #[.int .i64 x1, .int .i64 x2, .int .i64 x3, .int .i64 x4] 33 #[.int .i64 y1, .int .i64 y2, .int .i64 y3] 86 #[.int .i64 z1, .int .i64 z2, .int .i64 z3] 86)
  have q0 := cells_ln hst.out.1
  obtain ⟨c00, c01, c02, c03⟩ := q0
  have q1 := cells_sg hst.out.2.1
  obtain ⟨c10, c11, c12⟩ := q1
  have q2 := cells_sg hst.out.2.2.1
  obtain ⟨c20, c21, c22⟩ := q2
  have e1 : (c == 0) = false := by rw [beq_eq_false_iff_ne]; exact hc
  have m := mul_bdI (a := z3 - y3) (b := h) (m := 10000000) (n := 800000000) (by omega) (by omega) (by omega) (by omega)
  have w1 : IntKind.i64.wrap (z3 - y3) = z3 - y3 := IntWalk.i64_in _ (by omega)
  have w2 : IntKind.i64.wrap ((z3 - y3) * h) = (z3 - y3) * h := IntWalk.i64_in _ (by omega)
  unfold ctD at *
  rcases hs' with ⟨g1, g2⟩ | ⟨g1, g2⟩
  · have n1 : ¬ h - k < 0 := by omega
    rw [if_neg n1] at qb ⊢
    have n2 : ¬ h - k = 0 := by omega
    have n3 : (h - k == 0) = false := by rw [beq_eq_false_iff_ne]; exact n2
    have w3 : IntKind.i64.wrap (h - k) = h - k := IntWalk.i64_in _ (by omega)
    go_enter Try.func70, Try.ntmps70
    go_wp2_with (first
      | (go_at_call 69; ((with_reducible refine (HC.out _).mono ?_); rintro e w' ⟨rfl, b⟩; have hs2 := Lib.hid (hst.out.step b); clear hst b c00 c01 c02 c03 c10 c11 c12 c20 c21 c22; have hst := hs2; clear hs2; have q0 := cells_ln hst.out.1; obtain ⟨c00, c01, c02, c03⟩ := q0; have q1 := cells_sg hst.out.2.1; obtain ⟨c10, c11, c12⟩ := q1; have q2 := cells_sg hst.out.2.2.1; obtain ⟨c20, c21, c22⟩ := q2))
      | (go_at_call 65; ((with_reducible refine (HT.out _).mono ?_); rintro e w' ⟨rfl, b⟩; have hs2 := Lib.hid (hst.out.step b); clear hst b c00 c01 c02 c03 c10 c11 c12 c20 c21 c22; have hst := hs2; clear hs2; have q0 := cells_ln hst.out.1; obtain ⟨c00, c01, c02, c03⟩ := q0; have q1 := cells_sg hst.out.2.1; obtain ⟨c10, c11, c12⟩ := q1; have q2 := cells_sg hst.out.2.2.1; obtain ⟨c20, c21, c22⟩ := q2))
      | (go_at_call 88; ((with_reducible refine (HH.out _).mono ?_); rintro e w' ⟨rfl, b⟩; have hs2 := Lib.hid (hst.out.step b); clear hst b c00 c01 c02 c03 c10 c11 c12 c20 c21 c22; have hst := hs2; clear hs2; have q0 := cells_ln hst.out.1; obtain ⟨c00, c01, c02, c03⟩ := q0; have q1 := cells_sg hst.out.2.1; obtain ⟨c10, c11, c12⟩ := q1; have q2 := cells_sg hst.out.2.2.1; obtain ⟨c20, c21, c22⟩ := q2))
      | (go_at_call 88; ((with_reducible refine (HK.out _).mono ?_); rintro e w' ⟨rfl, b⟩; have hs2 := Lib.hid (hst.out.step b); clear hst b c00 c01 c02 c03 c10 c11 c12 c20 c21 c22; have hst := hs2; clear hs2; have q0 := cells_ln hst.out.1; obtain ⟨c00, c01, c02, c03⟩ := q0; have q1 := cells_sg hst.out.2.1; obtain ⟨c10, c11, c12⟩ := q1; have q2 := cells_sg hst.out.2.2.1; obtain ⟨c20, c21, c22⟩ := q2)))
    have hN0 : -(10000000 * 800000000) ≤ (z3 - y3) * h ∧ (z3 - y3) * h ≤ 10000000 * 800000000 := by omega
    have hD0 : 0 < (h - k) ∧ (h - k) ≤ 1600000000 := by omega
    generalize hN : (z3 - y3) * h = N at *
    generalize hD : (h - k) = D at *
    have HN := Lib.hid (And.intro hN hD)
    clear hN hD
    have n3 : (D == 0) = false := by rw [beq_eq_false_iff_ne]; omega
    have n4 : ¬ D = 0 := by omega
    have w4 : IntKind.i64.wrap (N + D) = N + D := IntWalk.i64_in _ (by omega)
    have w5 : IntKind.i64.wrap (N + D - 1) = N + D - 1 := IntWalk.i64_in _ (by omega)
    have w6 : IntKind.i64.wrap ((N + D - 1).tdiv D) = (N + D - 1).tdiv D := IntWalk.i64_in _ (by omega)
    have w7 : IntKind.i64.wrap (y3 + (N + D - 1).tdiv D) = y3 + (N + D - 1).tdiv D := IntWalk.i64_in _ (by omega)
    go_quiet (fail)
    go_wp2
    go_ret2
    exact ⟨by rw [HN.out.1, HN.out.2]; rfl, below_drewN hst.out.2.2.2 _⟩
  · have n1 : h - k < 0 := by omega
    rw [if_pos n1] at qb ⊢
    have w3 : IntKind.i64.wrap (h - k) = h - k := IntWalk.i64_in _ (by omega)
    have w8 : IntKind.i64.wrap (-((z3 - y3) * h)) = -((z3 - y3) * h) := IntWalk.i64_in _ (by omega)
    have w9 : IntKind.i64.wrap (-(h - k)) = -(h - k) := IntWalk.i64_in _ (by omega)
    go_enter Try.func70, Try.ntmps70
    go_wp2_with (first
      | (go_at_call 69; ((with_reducible refine (HC.out _).mono ?_); rintro e w' ⟨rfl, b⟩; have hs2 := Lib.hid (hst.out.step b); clear hst b c00 c01 c02 c03 c10 c11 c12 c20 c21 c22; have hst := hs2; clear hs2; have q0 := cells_ln hst.out.1; obtain ⟨c00, c01, c02, c03⟩ := q0; have q1 := cells_sg hst.out.2.1; obtain ⟨c10, c11, c12⟩ := q1; have q2 := cells_sg hst.out.2.2.1; obtain ⟨c20, c21, c22⟩ := q2))
      | (go_at_call 65; ((with_reducible refine (HT.out _).mono ?_); rintro e w' ⟨rfl, b⟩; have hs2 := Lib.hid (hst.out.step b); clear hst b c00 c01 c02 c03 c10 c11 c12 c20 c21 c22; have hst := hs2; clear hs2; have q0 := cells_ln hst.out.1; obtain ⟨c00, c01, c02, c03⟩ := q0; have q1 := cells_sg hst.out.2.1; obtain ⟨c10, c11, c12⟩ := q1; have q2 := cells_sg hst.out.2.2.1; obtain ⟨c20, c21, c22⟩ := q2))
      | (go_at_call 88; ((with_reducible refine (HH.out _).mono ?_); rintro e w' ⟨rfl, b⟩; have hs2 := Lib.hid (hst.out.step b); clear hst b c00 c01 c02 c03 c10 c11 c12 c20 c21 c22; have hst := hs2; clear hs2; have q0 := cells_ln hst.out.1; obtain ⟨c00, c01, c02, c03⟩ := q0; have q1 := cells_sg hst.out.2.1; obtain ⟨c10, c11, c12⟩ := q1; have q2 := cells_sg hst.out.2.2.1; obtain ⟨c20, c21, c22⟩ := q2))
      | (go_at_call 88; ((with_reducible refine (HK.out _).mono ?_); rintro e w' ⟨rfl, b⟩; have hs2 := Lib.hid (hst.out.step b); clear hst b c00 c01 c02 c03 c10 c11 c12 c20 c21 c22; have hst := hs2; clear hs2; have q0 := cells_ln hst.out.1; obtain ⟨c00, c01, c02, c03⟩ := q0; have q1 := cells_sg hst.out.2.1; obtain ⟨c10, c11, c12⟩ := q1; have q2 := cells_sg hst.out.2.2.1; obtain ⟨c20, c21, c22⟩ := q2)))
    have hN0 : -(10000000 * 800000000) ≤ -((z3 - y3) * h) ∧ -((z3 - y3) * h) ≤ 10000000 * 800000000 := by omega
    have hD0 : 0 < -(h - k) ∧ -(h - k) ≤ 1600000000 := by omega
    generalize hN : -((z3 - y3) * h) = N at *
    generalize hD : -(h - k) = D at *
    have HN := Lib.hid (And.intro hN hD)
    clear hN hD
    have n3 : (D == 0) = false := by rw [beq_eq_false_iff_ne]; omega
    have n4 : ¬ D = 0 := by omega
    have w4 : IntKind.i64.wrap (N + D) = N + D := IntWalk.i64_in _ (by omega)
    have w5 : IntKind.i64.wrap (N + D - 1) = N + D - 1 := IntWalk.i64_in _ (by omega)
    have w6 : IntKind.i64.wrap ((N + D - 1).tdiv D) = (N + D - 1).tdiv D := IntWalk.i64_in _ (by omega)
    have w7 : IntKind.i64.wrap (y3 + (N + D - 1).tdiv D) = y3 + (N + D - 1).tdiv D := IntWalk.i64_in _ (by omega)
    go_quiet (fail)
    go_wp2
    go_ret2
    exact ⟨by rw [HN.out.1, HN.out.2]; rfl, below_drewN hst.out.2.2.2 _⟩
end Go.Proofs.Ythahakefmpajfaa
