/- Eighths on float64 words; a step and its set, exactly; SetOf; the walk of the law FnStepsBack. -/
import Derived.Test.YtonoknbangnleaaRkC
import Derived.Test.YtonoknbangnleaaDmM
import Derived.Test.YtonoknbangnleaaPlc
namespace Go.Proofs.Ytonoknbangnleaa
open Go.RowKit Ieee
set_option linter.unusedVariables false
set_option linter.unusedSimpArgs false
attribute [local go_sem] st_cplx

noncomputable def eigW : Nat := 2 ^ (fixE - 3)
theorem one_eigW : oneV = 8 * eigW := by
  have hE := fixE_eq
  unfold oneV eigW
  rw [show (8 : Nat) = 2 ^ 3 from rfl, ← Nat.pow_add, show 3 + (fixE - 3) = fixE by omega]
theorem eigW_pos : 0 < eigW := Nat.two_pow_pos _
theorem rep_eigW (n : Int) (h : n.natAbs ≤ 9007199254740992) : Rep (n * (eigW : Int)) := ⟨n.natAbs, fixE - 3, h, by rw [Int.natAbs_mul]; rfl⟩
/-- A whole number of eighths, as a float64. -/
def E8 (n : Int) (x : Nat) : Prop := isNum x ∧ x < 18446744073709551616 ∧ fval x = n * (eigW : Int)
theorem eig_wid : (eigW : Int) = (eigV : Int) * (widV : Int) := by
  have hE := fixE_eq; have h2 := S.fixE_eq; have h3 := fixW_eq
  rw [← Int.natCast_mul]
  congr 1
  unfold eigW eigV widV
  rw [← Nat.pow_add, show S.fixE - 3 + fixW = fixE - 3 by omega]
theorem E8.le {n : Int} {x : Nat} {B : Nat} (h : E8 n x) (hb : n.natAbs ≤ 8 * B) : (fval x).natAbs ≤ B * oneV := by
  rw [h.2.2, Int.natAbs_mul, one_eigW, Int.natAbs_natCast, ← Nat.mul_assoc, Nat.mul_comm B 8]
  exact Nat.mul_le_mul_right _ hb
theorem E8.okP {n : Int} {x : Nat} (h : E8 n x) (hb : n.natAbs ≤ 800000000) : okP x := ⟨h.1, h.le (B := 100000000) (by omega)⟩

theorem div_to {x y : Nat} {k : Int} (hx : isNum x) (hy : isNum y) (hxb : (fval x).natAbs < 2 ^ (fixE + 200)) (hy0 : (oneV : Int) ≤ fval y) (hk : k.natAbs ≤ 9007199254740992) (h : fval x * (oneV : Int) = k * (eigW : Int) * fval y) :
    ∃ r, f64.div x y = some r ∧ E8 k r := by
  have hO : 0 < oneV := Nat.two_pow_pos _
  have hOi : (0 : Int) < (oneV : Int) := by omega
  have hE := fixE_eq
  have he := eigW_pos
  obtain ⟨r, r1, r2, r3, s, t, R, e1, e2, e3, hn⟩ := div_op hx hy hxb (by
    have : 2 ^ (fixE - 200) ≤ oneV := by unfold oneV; exact Nat.pow_le_pow_right (by omega) (by omega)
    omega)
  refine ⟨r, r1, r2, r3, ?_⟩
  have hq := hn k.natAbs (fixE - 3) hk
  have hN : k.natAbs * 2 ^ (fixE - 3) * (fval y).natAbs = (fval x).natAbs * oneV := by
    have := congrArg Int.natAbs h
    rw [Int.natAbs_mul, Int.natAbs_mul, Int.natAbs_mul, Int.natAbs_natCast, Int.natAbs_natCast] at this
    exact this.symm
  have hR : R = k.natAbs * eigW := Nat.le_antisymm (hq.2.1 (Nat.le_of_eq hN.symm)) (hq.1 (Nat.le_of_eq hN))
  have ht : t = false := by
    cases t
    · rfl
    · simp only [if_true] at e3; omega
  subst ht
  rw [e1, hR, Int.natCast_mul]
  have hyp : 0 < (eigW : Int) * fval y := Int.mul_pos (by omega) (by omega)
  rw [Int.mul_assoc] at h
  cases s
  · simp only [Bool.xor_false, Bool.false_eq_true, if_false] at e2 ⊢
    have h2 : 0 ≤ k := by
      rcases Int.lt_or_le k 0 with g | g
      · have := Int.mul_neg_of_neg_of_pos g hyp
        have h3 : 0 ≤ fval x * (oneV : Int) := Int.mul_nonneg (by omega) (by omega)
        omega
      · exact g
    rw [show ((k.natAbs : Nat) : Int) = k by omega]
  · simp only [Bool.xor_false, if_true] at e2 ⊢
    have h2 : k ≤ 0 := by
      rcases Int.lt_or_le 0 k with g | g
      · have := Int.mul_pos g hyp
        have h3 : fval x * (oneV : Int) ≤ 0 := Int.mul_nonpos_of_nonpos_of_nonneg (by omega) (by omega)
        omega
      · exact g
    rw [show ((k.natAbs : Nat) : Int) = -k by omega, Int.neg_mul, Int.neg_neg]
theorem eightW_num : f64.read 4620693217682128896 = .number false 4503599627370496 (-49) := by kernel_rfl
theorem eightW_val : fval 4620693217682128896 = ((8 * oneV : Nat) : Int) := by
  have hf := fixE_eq
  unfold fval; rw [eightW_num]; show signed false 4503599627370496 (-49 + 1074 : Int).toNat = _
  rw [show (-49 + 1074 : Int).toNat = fixE - 49 by omega, signed_eq]
  simp only [Bool.false_eq_true, if_false]
  congr 1
  unfold oneV
  rw [show (4503599627370496 : Nat) = 2 ^ 52 from rfl, show (8 : Nat) = 2 ^ 3 from rfl, ← Nat.pow_add, ← Nat.pow_add, show 52 + (fixE - 49) = 3 + fixE by omega]
theorem e8_ex (n : Int) (h0 : 0 ≤ n) (h1 : n ≤ 10000) : ∃ x, floatBits .quo .f64 (floatOfInt .f64 n) 4620693217682128896 = some x ∧ E8 n x := by
  have hO : 0 < oneV := Nat.two_pow_pos _
  obtain ⟨a1, a2⟩ := ofInt_val n (by omega) (by omega)
  refine div_to a1 (isNum_of eightW_num) ?_ ?_ (by omega) ?_
  · rw [a2, Int.natAbs_mul, Int.natAbs_natCast, Nat.pow_add]
    show n.natAbs * oneV < oneV * 2 ^ 200
    rw [Nat.mul_comm oneV]
    exact Nat.mul_lt_mul_of_pos_right (Nat.lt_of_lt_of_le (by omega : n.natAbs < 2 ^ 14) (Nat.pow_le_pow_right (by omega) (by omega))) hO
  · rw [eightW_val]; omega
  · rw [a2, eightW_val, one_eigW]
    simp only [Int.natCast_mul]
    grind

/-- One part: a step of eighths, and back. -/
theorem eig_step {a k n : Int} {p v : Nat} (hp : E8 a p) (ha : a.natAbs ≤ 10000) (hv : Eig k v) (hk : k.natAbs ≤ 400) (h0 : 1 ≤ n) (h1 : n ≤ 10000) :
    E8 (a + k * n) (ad p (ml (wid v) (floatOfInt .f64 n))) ∧ ∃ d q r, floatBits .sub .f64 (ad p (ml (wid v) (floatOfInt .f64 n))) p = some d ∧ floatBits .quo .f64 d (floatOfInt .f64 n) = some q ∧ floatToFloatBits .f64 q .f32 = some r ∧ Eig k r := by
  have hb := oneV_bound
  have hO : 0 < oneV := Nat.two_pow_pos _
  have okp := hp.okP (by omega)
  have okv : S.okP v := hv.okP (by omega)
  have kn : (k * n).natAbs ≤ 4000000 := by
    rw [Int.natAbs_mul]
    exact Nat.mul_le_mul hk (by omega : n.natAbs ≤ 10000)
  obtain ⟨_, m1, a1, a2, a3, a4, a5⟩ := stp_part (n := n) okp hv.2.1 okv ⟨by omega, by omega⟩
  have e1 : fval (ml (wid v) (floatOfInt .f64 n)) = k * n * (eigW : Int) := by
    refine NearI.exact (D := oneV) ?_ (rep_eigW _ (by omega))
    have : S.fval v * (widV : Int) * (n * (oneV : Int)) = k * n * (eigW : Int) * (oneV : Int) := by rw [hv.2.2, eig_wid]; grind
    rw [← this]; exact a3
  have e2 : fval (ad p (ml (wid v) (floatOfInt .f64 n))) = (a + k * n) * (eigW : Int) := by
    rw [e1, hp.2.2, ← Int.add_mul] at a4
    refine NearI.exact (D := 1) (by simpa using a4) (rep_eigW _ (by omega))
  have hr : E8 (a + k * n) (ad p (ml (wid v) (floatOfInt .f64 n))) := ⟨a5, a2, e2⟩
  refine ⟨hr, ?_⟩
  have b1 := hr.le (B := 1000000) (by omega)
  have b2 := hp.le (B := 1000000) (by omega)
  generalize ad p (ml (wid v) (floatOfInt .f64 n)) = x at *
  obtain ⟨d, d1, d2, d3, d4⟩ := sub_op hr.1 hp.1 (by omega)
  have d5 := d4.near (by omega)
  rw [hr.2.2, hp.2.2, ← Int.sub_mul, show a + k * n - a = k * n by omega] at d5
  have d6 : fval d = k * n * (eigW : Int) := NearI.exact (D := 1) (by simpa using d5) (rep_eigW _ (by omega))
  obtain ⟨i1, i2⟩ := ofInt_val n (by omega) (by omega)
  have b3 : (fval d).natAbs ≤ 1000000 * oneV := (show E8 (k * n) d from ⟨d2, d3, d6⟩).le (by omega)
  obtain ⟨q, q1, q2, q3, q4⟩ := div_to (k := k) d2 i1 (by
      refine Nat.lt_of_le_of_lt b3 ?_
      rw [Nat.pow_add, Nat.mul_comm]
      show oneV * 1000000 < oneV * 2 ^ 200
      exact Nat.mul_lt_mul_of_pos_left (Nat.lt_of_lt_of_le (by omega : 1000000 < 2 ^ 20) (Nat.pow_le_pow_right (by omega) (by omega))) hO) (by
      rw [i2]
      have := Int.mul_le_mul_of_nonneg_right h0 (by omega : (0 : Int) ≤ (oneV : Int))
      omega) (by omega) (by rw [d6, i2]; grind)
  obtain ⟨r, r1, r2, r3, r4⟩ := nar_num (v := k * (eigV : Int)) q2 (by rw [q4, eig_wid]; grind) (rep_eig _ (by omega)) (by
    have := eig_bd hv (by omega)
    rw [hv.2.2] at this
    have := oneS_lt 501 (by decide)
    have := oneS_pos
    omega)
  exact ⟨d, q, r, d1, q1, r1, r2, r4, r3⟩
end Go.Proofs.Ytonoknbangnleaa
