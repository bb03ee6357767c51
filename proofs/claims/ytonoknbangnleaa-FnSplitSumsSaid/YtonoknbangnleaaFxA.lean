/- Float64 words as rational numbers: what rounding does; turns. Nothing here speaks of the program. -/
import Derived.Test.YtonoknbangnleaaFxB
import Derived.Test.YtonoknbangnleaaHatB
namespace Go.Proofs.Ytonoknbangnleaa
open Go.RowKit Ieee
set_option linter.unusedVariables false

noncomputable def uR : Rat := ((oneV : Int) : Rat)
noncomputable def rv (x : Nat) : Rat := (fval x : Rat) / uR
theorem uR_pos : 0 < uR := Rat.intCast_pos.2 (by have : 0 < oneV := Nat.two_pow_pos _; omega)
theorem rv_mul (x : Nat) : (fval x : Rat) = rv x * uR := by
  have := uR_pos
  unfold rv; grind
/-- The half of a last place, and the least number. -/
def e52 : Rat := 1 / 4503599627370496
noncomputable def eta : Rat := 1 / uR
theorem eta_bd : 0 < eta ∧ eta ≤ 1 / 1000000000000000000000000000000 := by
  have h := uR_pos
  have h2 : (1000000000000000000000000000001 : Rat) ≤ uR := by
    have h3 : 1000000000000000000000000000001 ≤ oneV := by
      have hE := fixE_eq
      have : 2 ^ 100 ≤ oneV := by unfold oneV; exact Nat.pow_le_pow_right (by omega) (by omega)
      have h4 : (2 : Nat) ^ 100 = 1267650600228229401496703205376 := rfl
      omega
    have h5 : ((1000000000000000000000000000001 : Int) : Rat) ≤ ((oneV : Int) : Rat) := Rat.intCast_le_intCast.2 (by omega)
    exact h5
  have e : eta * uR = 1 := by unfold eta; grind
  constructor
  · rcases Rat.le_total (a := eta) (b := 0) with g | g
    · have := Rat.mul_nonneg (a := -eta) (b := uR) (by grind) (by grind)
      grind
    · rcases Rat.le_iff_lt_or_eq.1 g with g2 | g2
      · exact g2
      · rw [← g2, Rat.zero_mul] at e
        exact absurd e (by decide)
  · rcases Rat.le_total (a := eta) (b := 1 / 1000000000000000000000000000000) with g | g
    · exact g
    · have := Rat.mul_nonneg (a := eta - 1 / 1000000000000000000000000000000) (b := uR) (by grind) (by grind)
      grind

/-- What rounding does to a quotient M, in numbers. -/
theorem near_rat {v N : Int} {D : Nat} (h : NearI v N D) (hD : 0 < D) {M B : Rat} (hM : (N : Rat) = M * ((D : Int) : Rat) * uR) (h1 : -B ≤ M) (h2 : M ≤ B) :
    (v : Rat) / uR - M ≤ B * e52 + eta ∧ M - (v : Rat) / uR ≤ B * e52 + eta := by
  obtain ⟨a, b⟩ := near_err h hD
  have hU := uR_pos
  have hd : (0 : Rat) < ((D : Int) : Rat) := Rat.intCast_pos.2 (by omega)
  have hnn : ((N.natAbs : Int) : Rat) ≤ B * ((D : Int) : Rat) * uR := by
    have p1 := Rat.mul_nonneg (a := (B - M)) (b := ((D : Int) : Rat) * uR) (by grind) (Rat.mul_nonneg (by grind) (by grind))
    have p2 := Rat.mul_nonneg (a := (B + M)) (b := ((D : Int) : Rat) * uR) (by grind) (Rat.mul_nonneg (by grind) (by grind))
    rcases Int.le_total 0 N with g | g
    · rw [show (N.natAbs : Int) = N by omega, hM]; grind
    · rw [show (N.natAbs : Int) = -N by omega, Rat.intCast_neg, hM]; grind
  have a' : ((4503599627370496 * (v * (D : Int) - N) : Int) : Rat) ≤ (((N.natAbs : Int) + 4503599627370496 * (D : Int) : Int) : Rat) := Rat.intCast_le_intCast.2 a
  have b' : ((4503599627370496 * (N - v * (D : Int)) : Int) : Rat) ≤ (((N.natAbs : Int) + 4503599627370496 * (D : Int) : Int) : Rat) := Rat.intCast_le_intCast.2 b
  simp only [Rat.intCast_mul, Rat.intCast_sub, Rat.intCast_add] at a' b'
  have e4 : ((4503599627370496 : Int) : Rat) = 4503599627370496 := rfl
  rw [e4, hM] at a' b'
  generalize ((D : Int) : Rat) = d at *
  generalize ((N.natAbs : Int) : Rat) = n at *
  have he : eta * uR = 1 := by unfold eta; grind
  have hv : (v : Rat) = (v : Rat) / uR * uR := by grind
  generalize (v : Rat) / uR = r at *
  rw [hv] at a' b'
  generalize eta = et at *
  generalize uR = U at *
  have hdU : 0 < d * U := Rat.mul_pos hd hU
  have key : ∀ t : Rat, 4503599627370496 * (t * (d * U)) ≤ B * (d * U) + 4503599627370496 * d → t ≤ B * e52 + et := fun t ht => by
    have hd2 : d = et * (d * U) := by grind
    have ht2 : (4503599627370496 * t - B - 4503599627370496 * et) * (d * U) ≤ 0 := by grind
    have ht3 : 4503599627370496 * t - B - 4503599627370496 * et ≤ 0 := by
      rcases Rat.le_total (a := 4503599627370496 * t - B - 4503599627370496 * et) (b := 0) with g | g
      · exact g
      · rcases Rat.le_iff_lt_or_eq.1 g with g2 | g2
        · have := Rat.mul_pos g2 hdU
          grind
        · grind
    unfold e52
    grind
  exact ⟨key _ (by grind), key _ (by grind)⟩
end Go.Proofs.Ytonoknbangnleaa
