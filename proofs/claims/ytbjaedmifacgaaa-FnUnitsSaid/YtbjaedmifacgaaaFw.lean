/- Plain facts on float64 words: what rounding at the point makes of a value. Nothing here speaks of the program. -/
import Derived.Test.YtbjaedmifacgaaaRnd
namespace Go.Proofs.Ytbjaedmifacgaaa
open Go.RowKit Ieee

def sneg (x : Nat) : Bool := x / 9223372036854775808 == 1
def rung (x : Nat) : Nat := x % 9223372036854775808
theorem expo_rung (x : Nat) (_ : x < 18446744073709551616) : expo x = rung x / 4503599627370496 := by unfold expo rung; omega
theorem word_sneg (x r : Nat) (hx : x < 18446744073709551616) : f64.word (sneg x) r = sgb x + r := by
  unfold Format.word sneg sgb
  rw [sgn64]
  by_cases h : x / 9223372036854775808 = 1
  · rw [h]; rfl
  · have h0 : x / 9223372036854775808 = 0 := by omega
    rw [h0]; simp
theorem word_self (x : Nat) (hx : x < 18446744073709551616) : f64.word (sneg x) (rung x) = x := by
  rw [word_sneg x _ hx]; unfold sgb rung; omega
/-- A finite word, taken apart. -/
theorem num_form (x : Nat) (hx : x < 18446744073709551616) (hE : expo x < 2047) :
    ∃ S P : Nat, f64.read x = .number (sneg x) S (-1074 + (P : Int)) ∧ S < 9007199254740992 ∧
      ((expo x = 0 ∧ P = 0 ∧ S = rung x) ∨ (expo x = P + 1 ∧ 4503599627370496 ≤ S ∧ rung x = P * 4503599627370496 + S)) := by
  have hw := word_self x hx
  have he := expo_rung x hx
  by_cases h0 : expo x = 0
  · have hr : rung x < 4503599627370496 := by omega
    refine ⟨rung x, 0, ?_, by omega, .inl ⟨h0, rfl, rfl⟩⟩
    have := read_low (sneg x) (rung x) hr
    rw [hw] at this
    exact this
  · refine ⟨4503599627370496 + rung x % 4503599627370496, expo x - 1, ?_, by omega, .inr ⟨by omega, by omega, by omega⟩⟩
    have := read_rung (sneg x) (expo x - 1) (4503599627370496 + rung x % 4503599627370496) (by omega) (by omega) (by omega)
    rw [show (expo x - 1) * 4503599627370496 + (4503599627370496 + rung x % 4503599627370496) = rung x by omega, hw] at this
    exact this
theorem expo_of_num {x : Nat} (hx : x < 18446744073709551616) (h : isNum x) : expo x < 2047 := by
  obtain ⟨s, m, i, e, _⟩ := h
  rcases Nat.lt_or_ge (expo x) 2047 with hl | hl
  · exact hl
  · have he := expo_rung x hx
    rw [← word_self x hx, fl_read_word f64 _ _ (by rw [sgn64]; unfold rung; omega), bin64, inf64, if_neg (by omega), if_neg (by omega)] at e
    split at e <;> cases e
/-- The amount of a number's value. -/
theorem val_amount (s : Bool) (m u : Nat) : (signed s m u).natAbs = m * 2 ^ u ∧ (signed s m u = ((m * 2 ^ u : Nat) : Int) ∨ signed s m u = -((m * 2 ^ u : Nat) : Int)) := by
  rw [signed_eq]
  split
  · exact ⟨by rw [Int.natAbs_neg]; rfl, Or.inr rfl⟩
  · exact ⟨rfl, Or.inl rfl⟩

/-- A value rounded at the point, half away from zero. -/
noncomputable def rndN (a : Nat) : Nat := (a + halfV) / oneV
noncomputable def rndI (v : Int) : Int := if v < 0 then -((rndN v.natAbs : Nat) : Int) else ((rndN v.natAbs : Nat) : Int)
/-- A number with the sign of another and a value that is a rounded one. -/
theorem rnd_signed (s : Bool) (m u q k : Nat) (h : q * 2 ^ k = rndN (m * 2 ^ u) * oneV) : signed s q k = rndI (signed s m u) * (oneV : Int) := by
  have hp : 0 < oneV := Nat.two_pow_pos _
  unfold rndI
  rw [(val_amount s m u).1]
  have hq : ((q * 2 ^ k : Nat) : Int) = ((rndN (m * 2 ^ u) : Nat) : Int) * (oneV : Int) := by rw [h]; push_cast; rfl
  have hz : m * 2 ^ u = 0 → rndN (m * 2 ^ u) = 0 := fun e => by
    rw [e]; unfold rndN; rw [Nat.zero_add]; exact Nat.div_eq_of_lt (by rw [oneV_eq]; have := halfV_pos; omega)
  rw [signed_eq s q k, signed_eq s m u]
  generalize m * 2 ^ u = a at *
  generalize q * 2 ^ k = b at *
  cases s
  · simp only [Bool.false_eq_true, if_false]
    rw [if_neg (by omega), hq]
  · simp only [if_true]
    by_cases ha : a = 0
    · rw [hz ha] at hq
      rw [hz ha, ha]
      simp at hq ⊢
      omega
    · rw [if_pos (by omega), hq, Int.neg_mul]

/-- The word that math.Round answers. -/
def rndW (x : Nat) : Nat := if expo x < 1022 then sgb x else if expo x = 1022 then sgb x + 4607182418800017408 else if expo x < 1075 then midW x (expo x - 1023) else x
theorem pow_exp (a b : Nat) (h : a + b = fixE) : 2 ^ a * 2 ^ b = oneV := by unfold oneV; rw [← Nat.pow_add, h]
theorem pow_half (a b : Nat) (h : a + b = fixE - 1) : 2 ^ a * 2 ^ b = halfV := by unfold halfV; rw [← Nat.pow_add, h]

theorem rnd_val (x : Nat) (hx : x < 18446744073709551616) (hE : expo x < 2047) : rndW x < 18446744073709551616 ∧ isNum (rndW x) ∧ fval (rndW x) = rndI (fval x) * (oneV : Int) := by
  obtain ⟨S, P, hr, hS, hcase⟩ := num_form x hx hE
  have hfx : fval x = signed (sneg x) S P := by
    unfold fval; rw [hr]; show signed (sneg x) S (-1074 + (P : Int) + 1074).toNat = _
    rw [show (-1074 + (P : Int) + 1074).toNat = P by omega]
  have hsg : sgb x ≤ 9223372036854775808 := by unfold sgb; omega
  have hpos : 0 < oneV := Nat.two_pow_pos _
  have hfE := fixE_eq
  have key : ∀ (y q k : Nat), y < 18446744073709551616 → f64.read y = .number (sneg x) q (-1074 + (k : Int)) → q * 2 ^ k = rndN (S * 2 ^ P) * oneV →
      y < 18446744073709551616 ∧ isNum y ∧ fval y = rndI (fval x) * (oneV : Int) := fun y q k hy e h => by
    refine ⟨hy, isNum_of e, ?_⟩
    rw [hfx, ← rnd_signed (sneg x) S P q k h]
    unfold fval; rw [e]; show signed (sneg x) q (-1074 + (k : Int) + 1074).toNat = _
    rw [show (-1074 + (k : Int) + 1074).toNat = k by omega]
  have hrl : rung x < 9223372036854775808 := Nat.mod_lt _ (by omega)
  unfold rndW
  by_cases h1 : expo x < 1022
  · rw [if_pos h1]
    refine key _ 0 0 (by omega) ?_ ?_
    · have := read_low (sneg x) 0 (by omega)
      rw [word_sneg x 0 hx, Nat.add_zero] at this
      rw [this, show (-1074 + ((0 : Nat) : Int)) = -1074 from rfl]
    · have hlt : S * 2 ^ P < halfV := by
        have h2 : S * 2 ^ P < 2 ^ 53 * 2 ^ P := Nat.mul_lt_mul_of_pos_right hS (Nat.two_pow_pos _)
        have h3 : 2 ^ 53 * 2 ^ P ≤ halfV := by
          unfold halfV; rw [← Nat.pow_add]; exact Nat.pow_le_pow_right (by omega) (by omega)
        omega
      have : rndN (S * 2 ^ P) = 0 := by unfold rndN; exact Nat.div_eq_of_lt (by rw [oneV_eq]; omega)
      rw [this]; simp
  · rw [if_neg h1]
    rcases hcase with ⟨h0, _⟩ | ⟨hP, hS0, hrg⟩
    · omega
    · by_cases h2 : expo x = 1022
      · rw [if_pos h2]
        refine key _ 4503599627370496 1022 (by omega) ?_ ?_
        · have := read_rung (sneg x) 1022 4503599627370496 (by omega) (by omega) (by omega)
          rw [word_sneg x _ hx] at this
          exact this
        · have hP1 : P = 1021 := by omega
          have e1 : 2 ^ 52 * 2 ^ P = halfV := pow_half _ _ (by omega)
          have e2 : (2 : Nat) ^ 52 = 4503599627370496 := rfl
          have hl : halfV ≤ S * 2 ^ P := by rw [← e1, e2]; exact Nat.mul_le_mul_right _ hS0
          have hu : S * 2 ^ P < 2 * halfV := by
            rw [← e1, e2, ← Nat.mul_assoc]; exact Nat.mul_lt_mul_of_pos_right hS (Nat.two_pow_pos _)
          have hq : rndN (S * 2 ^ P) = 1 := by
            unfold rndN
            refine Nat.div_eq_of_lt_le ?_ ?_
            · rw [oneV_eq]; omega
            · rw [oneV_eq]; omega
          rw [hq, Nat.one_mul, ← e2]
          exact pow_exp 52 1022 (by omega)
      · rw [if_neg h2]
        by_cases h3 : expo x < 1075
        · rw [if_pos h3]
          obtain ⟨e, he⟩ : ∃ e, expo x = 1023 + e := ⟨expo x - 1023, by omega⟩
          have hPe : P = 1022 + e := by omega
          rw [show expo x - 1023 = e by omega]
          -- the quotient at the point
          obtain ⟨Q, hQ⟩ : ∃ Q, Q = (S + 2 ^ (51 - e)) / 2 ^ (52 - e) := ⟨_, rfl⟩
          have hpq : 0 < 2 ^ (52 - e) := Nat.two_pow_pos _
          have hone : 2 ^ (52 - e) * 2 ^ P = oneV := pow_exp _ _ (by omega)
          have hhalf : 2 ^ (51 - e) * 2 ^ P = halfV := pow_half _ _ (by omega)
          have hrn : rndN (S * 2 ^ P) = Q := by
            unfold rndN
            rw [← hhalf, ← hone, ← Nat.add_mul, Nat.mul_div_mul_right _ _ (Nat.two_pow_pos _), hQ]
          have h52 : 2 ^ (52 - e) * 2 ^ e = 4503599627370496 := by rw [← Nat.pow_add, show 52 - e + e = 52 by omega]
          have hmid : midW x e = sgb x + (P * 4503599627370496 + Q * 2 ^ (52 - e)) := by
            unfold midW
            have hxs : x = sgb x + rung x := by unfold sgb rung; omega
            have hsd : ∃ z, sgb x = z * 2 ^ (52 - e) := by
              refine ⟨sgb x / 4503599627370496 * 2 ^ e, ?_⟩
              rw [Nat.mul_assoc, Nat.mul_comm (2 ^ e), h52]
              rcases sgb_cases x hx with h | h <;> rw [h]
            obtain ⟨z, hz⟩ := hsd
            have hPd : P * 4503599627370496 = P * 2 ^ e * 2 ^ (52 - e) := by rw [Nat.mul_assoc, Nat.mul_comm (2 ^ e), h52]
            have hsum : x + 2 ^ (51 - e) = (S + 2 ^ (51 - e)) + (z + P * 2 ^ e) * 2 ^ (52 - e) := by
              rw [Nat.add_mul, ← hz, ← hPd]; omega
            rw [hsum, Nat.add_mul_div_right _ _ hpq, ← hQ, Nat.add_mul, Nat.add_mul, ← hz, ← hPd]
            omega
          have hQl : 4503599627370496 ≤ Q * 2 ^ (52 - e) := by
            rw [← h52, Nat.mul_comm]
            refine Nat.mul_le_mul_right _ ?_
            rw [hQ, Nat.le_div_iff_mul_le hpq, Nat.mul_comm, h52]
            exact Nat.le_trans hS0 (Nat.le_add_right _ _)
          have hQu : Q * 2 ^ (52 - e) ≤ 9007199254740992 := by
            have hS2 : S + 2 ^ (51 - e) < (2 * 2 ^ e + 1) * 2 ^ (52 - e) := by
              have e1 : 2 ^ (52 - e) = 2 * 2 ^ (51 - e) := by rw [show 52 - e = (51 - e) + 1 by omega, Nat.pow_succ, Nat.mul_comm]
              rw [Nat.add_mul, Nat.one_mul, Nat.mul_assoc, Nat.mul_comm (2 ^ e), h52]
              have := Nat.two_pow_pos (51 - e)
              omega
            have hQ2 : Q < 2 * 2 ^ e + 1 := by rw [hQ]; exact (Nat.div_lt_iff_lt_mul hpq).2 hS2
            have : Q * 2 ^ (52 - e) ≤ 2 * 2 ^ e * 2 ^ (52 - e) := Nat.mul_le_mul_right _ (by omega)
            rw [Nat.mul_assoc, Nat.mul_comm (2 ^ e), h52] at this
            exact this
          rw [hmid]
          have hval : Q * 2 ^ (52 - e) * 2 ^ P = rndN (S * 2 ^ P) * oneV := by rw [hrn, Nat.mul_assoc, hone]
          have hP2 : P ≤ 1073 := by omega
          by_cases hfull : Q * 2 ^ (52 - e) = 9007199254740992
          · refine key _ 4503599627370496 (P + 1) (by rw [hfull]; omega) ?_ ?_
            · have := read_rung (sneg x) (P + 1) 4503599627370496 (by omega) (by omega) (by omega)
              rw [word_sneg x _ hx] at this
              rw [hfull, show P * 4503599627370496 + 9007199254740992 = (P + 1) * 4503599627370496 + 4503599627370496 by omega]
              exact this
            · rw [← hval, hfull, Nat.pow_succ, Nat.mul_comm (2 ^ P) 2, ← Nat.mul_assoc]
          · refine key _ (Q * 2 ^ (52 - e)) P (by omega) ?_ hval
            have := read_rung (sneg x) P (Q * 2 ^ (52 - e)) hQl (by omega) (by omega)
            rw [word_sneg x _ hx] at this
            exact this
        · rw [if_neg h3]
          refine key x S P hx hr ?_
          have hdiv : 2 ^ P = 2 ^ (P - fixE) * oneV := by unfold oneV; rw [← Nat.pow_add]; congr 1; omega
          have hrn : rndN (S * 2 ^ P) = S * 2 ^ (P - fixE) := by
            unfold rndN
            rw [hdiv, ← Nat.mul_assoc, Nat.add_comm, Nat.add_mul_div_right _ _ hpos, Nat.div_eq_of_lt (by rw [oneV_eq]; have := halfV_pos; omega), Nat.zero_add]
          rw [hrn, hdiv, Nat.mul_assoc]
end Go.Proofs.Ytbjaedmifacgaaa
