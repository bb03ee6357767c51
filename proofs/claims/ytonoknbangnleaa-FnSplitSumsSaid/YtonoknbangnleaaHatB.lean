/- The hat: words of sums, middle and lengths; the walks of allOk and of Hat (impl and spec). -/
import Derived.Test.YtonoknbangnleaaRkB
import Derived.Test.YtonoknbangnleaaRkD
import Derived.Test.YtonoknbangnleaaLnW
import Derived.Test.YtonoknbangnleaaRtA
namespace Go.Proofs.Ytonoknbangnleaa
open Go.RowKit Ieee
set_option linter.unusedVariables false
set_option linter.unusedSimpArgs false

/-- The positions that lie in a block. -/
def Vecs (w : World) (g n : Nat) (vs : Nat → Nat × Nat) : Prop := ∀ j, j < n → w.cell? ⟨g, j, none⟩ = some (.complex .f64 (vs j).1 (vs j).2) ∧ W64 (vs j)
def VecsOk (n : Nat) (vs : Nat → Nat × Nat) : Prop := n ≤ 50 ∧ ∀ j, j < n → vcB (vs j) = true
noncomputable def vsB (n : Nat) (vs : Nat → Nat × Nat) : Bool := @decide (VecsOk n vs) (Classical.propDecidable _)
theorem vsB_iff {n : Nat} {vs : Nat → Nat × Nat} : vsB n vs = true ↔ VecsOk n vs := by unfold vsB; exact @decide_eq_true_iff _ (Classical.propDecidable _)
theorem vsB_no {n : Nat} {vs : Nat → Nat × Nat} (h : ¬ VecsOk n vs) : vsB n vs = false := by
  cases e : vsB n vs
  · rfl
  · exact absurd (vsB_iff.1 e) h


/-- The sum of the first positions: words. -/
def sumW (vs : Nat → Nat × Nat) : Nat → Nat × Nat
  | 0 => (0, 0)
  | k + 1 => (ad (sumW vs k).1 (vs k).1, ad (sumW vs k).2 (vs k).2)
def dvW (x y : Nat) : Nat := (f64.div x y).getD 0
noncomputable def hatW (n : Nat) (vs : Nat → Nat × Nat) : Nat × Nat := (dvW (sumW vs n).1 (floatOfInt .f64 n), dvW (sumW vs n).2 (floatOfInt .f64 n))
def subW (a b : Nat × Nat) : Nat × Nat := (sb a.1 b.1, sb a.2 b.2)
noncomputable def lenW (z : Nat × Nat) : Nat := (len_ex z).choose
theorem lenW_is (z : Nat × Nat) : LenIs z (lenW z) := (len_ex z).choose_spec
/-- The greater one of two numbers, as Go's max has it. -/
def mxW (x y : Nat) : Nat := match f64.order x y with
  | some .lt => y
  | some .eq => if (FloatKind.f64.decode x).neg then y else x
  | _ => x
noncomputable def farW (vs : Nat → Nat × Nat) (m : Nat × Nat) : Nat → Nat
  | 0 => 0
  | k + 1 => mxW (farW vs m k) (lenW (subW (vs k) m))

theorem add_part {x y B C : Nat} (hx : isNum x) (hy : okP y) (hb : (fval x).natAbs ≤ B * oneV) (hB : B + 100000000 = C) (hC : C ≤ 9007199254740992) :
    floatBits .add .f64 x y = some (ad x y) ∧ isNum (ad x y) ∧ (fval (ad x y)).natAbs ≤ C * oneV ∧ ad x y < 18446744073709551616 ∧ NearI (fval (ad x y)) (fval x + fval y) 1 := by
  have h1 := oneV_bound
  have h2 := hy.2
  have e : B * oneV + 100000000 * oneV = C * oneV := by rw [← Nat.add_mul, hB]
  have h3 : C * oneV ≤ 9007199254740992 * oneV := Nat.mul_le_mul_right _ hC
  obtain ⟨r, r1, r2, r3, r4⟩ := add_op hx hy.1 (by omega)
  have e2 : ad x y = r := by unfold ad; rw [r1]; rfl
  rw [e2]
  have hn := r4.near (by omega)
  have hr := rep_units C hC
  have a := (hn _ hr).2 (by omega)
  have b := (hn _ (rep_neg hr)).1 (by omega)
  exact ⟨r1, r2, by omega, r3, hn⟩
theorem zero_isNum : isNum 0 := isNum_of (by kernel_rfl : f64.read 0 = .number false 0 (-1074))
theorem sum_ok {n : Nat} {vs : Nat → Nat × Nat} (h : VecsOk n vs) : ∀ k, k ≤ n → isNum (sumW vs k).1 ∧ isNum (sumW vs k).2 ∧ (fval (sumW vs k).1).natAbs ≤ k * 100000000 * oneV ∧ (fval (sumW vs k).2).natAbs ≤ k * 100000000 * oneV ∧ W64 (sumW vs k)
  | 0, _ => ⟨zero_isNum, zero_isNum, by rw [show (sumW vs 0).1 = 0 from rfl, nought_val]; omega, by rw [show (sumW vs 0).2 = 0 from rfl, nought_val]; omega, by show (0 : Nat) < _; omega, by show (0 : Nat) < _; omega⟩
  | k + 1, hk => by
    obtain ⟨a1, a2, a3, a4, _⟩ := sum_ok h k (by omega)
    have hv := vcB_iff.1 (h.2 k (by omega))
    have hn := h.1
    obtain ⟨_, b1, b2, b3, _⟩ := add_part (C := (k + 1) * 100000000) a1 hv.1 a3 (by omega) (by omega)
    obtain ⟨_, c1, c2, c3, _⟩ := add_part (C := (k + 1) * 100000000) a2 hv.2 a4 (by omega) (by omega)
    exact ⟨b1, c1, b2, c2, b3, c3⟩
theorem sum_step {n : Nat} {vs : Nat → Nat × Nat} (h : VecsOk n vs) (k : Nat) (hk : k < n) : floatBits .add .f64 (sumW vs k).1 (vs k).1 = some (sumW vs (k + 1)).1 ∧ floatBits .add .f64 (sumW vs k).2 (vs k).2 = some (sumW vs (k + 1)).2 := by
  obtain ⟨a1, a2, a3, a4, _⟩ := sum_ok h k (by omega)
  have hv := vcB_iff.1 (h.2 k (by omega))
  have hn := h.1
  exact ⟨(add_part (C := (k + 1) * 100000000) a1 hv.1 a3 (by omega) (by omega)).1, (add_part (C := (k + 1) * 100000000) a2 hv.2 a4 (by omega) (by omega)).1⟩
/-- A quotient by a whole number. -/
theorem div_part {x n : Nat} (hx : isNum x) (h0 : 0 < n) (h1 : n ≤ 50) (hb : (fval x).natAbs ≤ n * 100000000 * oneV) :
    floatBits .quo .f64 x (floatOfInt .f64 n) = some (dvW x (floatOfInt .f64 n)) ∧ okP (dvW x (floatOfInt .f64 n)) ∧ dvW x (floatOfInt .f64 n) < 18446744073709551616 := by
  have hO : 0 < oneV := Nat.two_pow_pos _
  obtain ⟨i1, i2⟩ := ofInt_val (n : Int) (by omega) (by omega)
  have i3 : (fval (floatOfInt .f64 n)).natAbs = n * oneV := by rw [i2, Int.natAbs_mul]; rfl
  obtain ⟨r, r1, r2, r3, s, t, R, e1, e2, e3, hn⟩ := div_op hx i1 (by
      refine Nat.lt_of_le_of_lt hb ?_
      rw [Nat.pow_add, Nat.mul_comm (2 ^ fixE)]
      show n * 100000000 * oneV < 2 ^ 200 * oneV
      refine Nat.mul_lt_mul_of_pos_right (Nat.lt_of_lt_of_le (by omega : n * 100000000 < 2 ^ 40) (Nat.pow_le_pow_right (by omega) (by omega))) hO) (by
      rw [i3]
      have : 2 ^ (fixE - 200) ≤ oneV := by unfold oneV; exact Nat.pow_le_pow_right (by omega) (by omega)
      have := Nat.mul_le_mul_right oneV h0
      omega)
  have e : dvW x (floatOfInt .f64 n) = r := by unfold dvW; rw [r1]; rfl
  rw [e]
  refine ⟨r1, ⟨r2, ?_⟩, r3⟩
  have hR : R ≤ 100000000 * 2 ^ fixE := (hn 100000000 fixE (by omega)).2.1 (by
    rw [i3]
    show _ ≤ 100000000 * oneV * (n * oneV)
    have := Nat.mul_le_mul_right oneV hb
    rw [show 100000000 * oneV * (n * oneV) = n * 100000000 * oneV * oneV by grind]
    exact this)
  have : (fval r).natAbs = R := by rw [e1]; split <;> omega
  rw [this]; exact hR
theorem mid_ok {n : Nat} {vs : Nat → Nat × Nat} (h : VecsOk n vs) (h0 : 0 < n) : floatBits .quo .f64 (sumW vs n).1 (floatOfInt .f64 n) = some (hatW n vs).1 ∧ floatBits .quo .f64 (sumW vs n).2 (floatOfInt .f64 n) = some (hatW n vs).2 ∧ (okP (hatW n vs).1 ∧ okP (hatW n vs).2) ∧ W64 (hatW n vs) := by
  obtain ⟨a1, a2, a3, a4, _⟩ := sum_ok h n (Nat.le_refl _)
  obtain ⟨b1, b2, b3⟩ := div_part a1 h0 h.1 a3
  obtain ⟨c1, c2, c3⟩ := div_part a2 h0 h.1 a4
  exact ⟨b1, c1, ⟨b2, c2⟩, b3, c3⟩
theorem sub_part {x y : Nat} (hx : okP x) (hy : okP y) : floatBits .sub .f64 x y = some (sb x y) ∧ sb x y < 18446744073709551616 ∧ isNum (sb x y) ∧ (fval (sb x y)).natAbs ≤ 200000000 * oneV ∧ NearI (fval (sb x y)) (fval x - fval y) 1 := by
  have h1 := oneV_bound
  have h2 := hy.2
  have h3 := hx.2
  obtain ⟨r, r1, r2, r3, r4⟩ := sub_op hx.1 hy.1 (by omega)
  have e2 : sb x y = r := by unfold sb; rw [r1]; rfl
  rw [e2]
  have hn := r4.near (by omega)
  have hr := rep_units 200000000 (by omega)
  have a := (hn _ hr).2 (by omega)
  have b := (hn _ (rep_neg hr)).1 (by omega)
  exact ⟨r1, r3, r2, by omega, hn⟩
theorem subW_ok {a b : Nat × Nat} (ha : okP a.1 ∧ okP a.2) (hb : okP b.1 ∧ okP b.2) : floatBits .sub .f64 a.1 b.1 = some (subW a b).1 ∧ floatBits .sub .f64 a.2 b.2 = some (subW a b).2 ∧ W64 (subW a b) :=
  ⟨(sub_part ha.1 hb.1).1, (sub_part ha.2 hb.2).1, (sub_part ha.1 hb.1).2.1, (sub_part ha.2 hb.2).2.1⟩
theorem len_num (z : Nat × Nat) : isNum (lenW z) ∧ 0 ≤ fval (lenW z) := by
  rcases lenW_is z with ⟨_, h⟩ | ⟨_, _, ⟨_, h⟩ | ⟨h1, g, h2, h⟩⟩
  · rw [h]; exact ⟨zero_isNum, by rw [nought_val]; omega⟩
  · rw [h]; exact ⟨zero_isNum, by rw [nought_val]; omega⟩
  · rw [h]; obtain ⟨a, b, _⟩ := root_acc h1 h2; exact ⟨a, b⟩
theorem mx_num {x y : Nat} (hx : isNum x) (hy : isNum y) : isNum (mxW x y) ∧ fval x ≤ fval (mxW x y) ∧ fval y ≤ fval (mxW x y) ∧ (mxW x y = x ∨ mxW x y = y) := by
  unfold mxW
  rw [order_val hx hy]
  rcases Int.lt_trichotomy (fval x) (fval y) with h | h | h
  · rw [Int.compare_eq_lt.2 h]; exact ⟨hy, by show fval x ≤ fval y; omega, by show fval y ≤ fval y; omega, .inr rfl⟩
  · rw [Int.compare_eq_eq.2 h]
    cases hs : (FloatKind.f64.decode x).neg
    · simp only [Bool.false_eq_true, if_false]
      exact ⟨hx, Int.le_refl _, by omega, .inl trivial⟩
    · simp only [if_true]
      exact ⟨hy, by omega, Int.le_refl _, .inr trivial⟩
  · rw [Int.compare_eq_gt.2 h]; exact ⟨hx, by show fval x ≤ fval x; omega, by show fval y ≤ fval x; omega, .inl rfl⟩
theorem run_mx {P : Program} (w : World) (ts : Array TypeId) (t : TypeId) {x y : Nat} (hx : isNum x) (hy : isNum y) :
    (Builtin.max_ ts t #[.float .f64 x, .float .f64 y]).run P w = .ok (.float .f64 (mxW x y)) w := by
  unfold mxW
  have e : FloatKind.f64.format.order x y = some (compare (fval x) (fval y)) := order_val hx hy
  have e' : f64.order x y = some (compare (fval x) (fval y)) := order_val hx hy
  rw [e']
  cases h : compare (fval x) (fval y)
  · simp [Builtin.max_, Builtin.max2, e, h]
  · cases hs : (FloatKind.f64.decode x).neg <;> simp [Builtin.max_, Builtin.max2, e, h, hs]
  · simp [Builtin.max_, Builtin.max2, e, h]
theorem far_num (vs : Nat → Nat × Nat) (m : Nat × Nat) : ∀ k, isNum (farW vs m k) ∧ 0 ≤ fval (farW vs m k)
  | 0 => ⟨zero_isNum, by show (0 : Int) ≤ fval 0; rw [nought_val]; omega⟩
  | k + 1 => by
    obtain ⟨a, b⟩ := far_num vs m k
    obtain ⟨c, d, _, _⟩ := mx_num a (len_num (subW (vs k) m)).1
    exact ⟨c, Int.le_trans b d⟩
theorem far_ge (vs : Nat → Nat × Nat) (m : Nat × Nat) : ∀ n j, j < n → fval (lenW (subW (vs j) m)) ≤ fval (farW vs m n)
  | 0, _, h => by omega
  | n + 1, j, h => by
    obtain ⟨c, d1, d2, _⟩ := mx_num (far_num vs m n).1 (len_num (subW (vs n) m)).1
    rcases Nat.lt_or_ge j n with g | g
    · exact Int.le_trans (far_ge vs m n j g) d1
    · obtain rfl : j = n := by omega
      exact d2
theorem far_met (vs : Nat → Nat × Nat) (m : Nat × Nat) : ∀ n, 0 < n → ∃ j, j < n ∧ fval (lenW (subW (vs j) m)) = fval (farW vs m n)
  | 0, h => by omega
  | n + 1, _ => by
    obtain ⟨c, d1, d2, d3⟩ := mx_num (far_num vs m n).1 (len_num (subW (vs n) m)).1
    rcases d3 with e | e
    · rcases Nat.eq_zero_or_pos n with rfl | h
      · refine ⟨0, by omega, ?_⟩
        have h0 := (len_num (subW (vs 0) m)).2
        have z : farW vs m 0 = 0 := rfl
        have h1 : fval (farW vs m (0 + 1)) = 0 := by
          show fval (mxW (farW vs m 0) _) = 0
          rw [e, z, nought_val]
        have h2 : fval (lenW (subW (vs 0) m)) ≤ fval (farW vs m (0 + 1)) := d2
        omega
      · obtain ⟨j, hj, he⟩ := far_met vs m n h
        exact ⟨j, by omega, by rw [he]; exact (congrArg fval e).symm⟩
    · exact ⟨n, by omega, (congrArg fval e).symm⟩
end Go.Proofs.Ytonoknbangnleaa
