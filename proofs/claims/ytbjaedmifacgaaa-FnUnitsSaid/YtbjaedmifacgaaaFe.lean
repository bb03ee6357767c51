/- Plain facts on float64 words: how near a written number is; a whole number of thousandths, as a float, rounds to that number again. Nothing here speaks of the program. -/
import Derived.Test.YtbjaedmifacgaaaFy
namespace Go.Proofs.Ytbjaedmifacgaaa
open Go.RowKit Ieee

/-- A number cut to even is within one half. -/
theorem cut_near (neg : Bool) (n d : Nat) :
    2 * (Toward.even.cut neg n d * 2 ^ d) ≤ 2 * n + 2 ^ d ∧ 2 * n ≤ 2 * (Toward.even.cut neg n d * 2 ^ d) + 2 ^ d ∧ n / 2 ^ d ≤ Toward.even.cut neg n d ∧ Toward.even.cut neg n d ≤ n / 2 ^ d + 1 := by
  unfold Toward.cut
  simp only [Nat.shiftLeft_eq, Nat.one_mul]
  have hpd : 0 < 2 ^ d := Nat.two_pow_pos _
  rcases Nat.le_total d (n.log2 + 2) with h | h
  · rw [Nat.min_eq_left h]
    have hdm := Nat.div_add_mod n (2 ^ d)
    have hm := Nat.mod_lt n hpd
    rw [Nat.mul_comm] at hdm
    generalize n / 2 ^ d = q at *
    generalize n % 2 ^ d = r at *
    generalize 2 ^ d = g at *
    cases hb : (decide (g < 2 * r) || (g == 2 * r && q % 2 == 1))
    · simp only [Bool.or_eq_false_iff, decide_eq_false_iff_not] at hb
      simp only [Bool.toNat_false, Nat.add_zero]
      have := hb.1
      omega
    · have h2 : g ≤ 2 * r := by
        simp only [Bool.or_eq_true, decide_eq_true_eq, Bool.and_eq_true, beq_iff_eq] at hb
        omega
      simp only [Bool.toNat_true, Nat.add_mul, Nat.one_mul]
      omega
  · rw [Nat.min_eq_right h]
    have h1 : n < 2 ^ (n.log2 + 1) := Nat.lt_log2_self
    have e1 : 2 ^ (n.log2 + 2) = 2 * 2 ^ (n.log2 + 1) := by rw [show n.log2 + 2 = (n.log2 + 1) + 1 by omega, Nat.pow_succ, Nat.mul_comm]
    have h3 : 2 ^ (n.log2 + 2) ≤ 2 ^ d := Nat.pow_le_pow_right (by omega) h
    rw [Nat.div_eq_of_lt (by omega), Nat.mod_eq_of_lt (by omega), Nat.div_eq_of_lt (show n < 2 ^ d by omega)]
    generalize 2 ^ (n.log2 + 2) = g at *
    generalize 2 ^ d = g2 at *
    have hb : (decide (g < 2 * n) || (g == 2 * n && 0 % 2 == 1)) = false := by simp; omega
    rw [hb]
    simp only [Bool.toNat_false, Nat.add_zero, Nat.zero_mul]
    omega

theorem read_carry (neg : Bool) (k : Nat) (hk : k ≤ 2044) : f64.read (f64.word neg (k * 4503599627370496 + 9007199254740992)) = .number neg 4503599627370496 (-1074 + ((k + 1 : Nat) : Int)) := by
  rw [show k * 4503599627370496 + 9007199254740992 = (k + 1) * 4503599627370496 + 4503599627370496 by omega]
  exact read_rung neg (k + 1) 4503599627370496 (by omega) (by omega) (by omega)

set_option maxHeartbeats 1000000 in
/-- A number below 2 to the (K - 1074) is written to within 2 to the (K - 54 - 1074). -/
theorem write_near (neg : Bool) (mag : Nat) (place : Int) (K : Nat) (hp : -1074 ≤ place) (hK0 : 54 ≤ K) (hK1 : K ≤ 1900) (hA : mag * 2 ^ (place + 1074).toNat < 2 ^ K) (E : Nat) (hE : E = 2 ^ (K - 54)) :
    isNum (f64.write (.number neg mag place)) ∧ ∃ B : Nat, fval (f64.write (.number neg mag place)) = (if neg then -(B : Int) else (B : Int)) ∧
      B ≤ mag * 2 ^ (place + 1074).toNat + E ∧ mag * 2 ^ (place + 1074).toNat ≤ B + E := by
  show isNum (f64.nearest neg mag place) ∧ ∃ B : Nat, fval (f64.nearest neg mag place) = _ ∧ _
  by_cases h0 : mag = 0
  · have e : f64.nearest neg mag place = f64.word neg 0 := by unfold Format.nearest; rw [if_pos h0]
    rw [e]
    have r := read_low neg 0 (by omega)
    refine ⟨isNum_of r, 0, ?_, by omega, by rw [h0]; omega⟩
    unfold fval
    rw [r]
    show signed neg 0 _ = _
    rw [fl_signed_zero]
    cases neg <;> rfl
  · obtain ⟨last, hlast⟩ : ∃ last : Int, last = max (place + mag.log2 - 52) (-1074) := ⟨_, rfl⟩
    have e : f64.nearest neg mag place = f64.word neg (min ((last - -1074).toNat * 4503599627370496 + Toward.even.cut neg (mag <<< (place - last).toNat) (last - place).toNat) 9218868437227405312) := by
      unfold Format.nearest
      rw [if_neg h0]
      simp only [lp64, bin64, inf64]
      rw [hlast]; rfl
    have hlow : 2 ^ mag.log2 ≤ mag := Nat.log2_self_le h0
    have hhigh : mag < 2 ^ (mag.log2 + 1) := Nat.lt_log2_self
    have hlK : mag.log2 + (place + 1074).toNat < K := by
      have h1 : 2 ^ mag.log2 * 2 ^ (place + 1074).toNat ≤ mag * 2 ^ (place + 1074).toNat := Nat.mul_le_mul_right _ hlow
      rw [← Nat.pow_add] at h1
      exact (Nat.pow_lt_pow_iff_right (by omega : 1 < 2)).1 (Nat.lt_of_le_of_lt h1 hA)
    obtain ⟨kept, hkept⟩ : ∃ kept, kept = Toward.even.cut neg (mag <<< (place - last).toNat) (last - place).toNat := ⟨_, rfl⟩
    rw [← hkept] at e
    rw [Nat.shiftLeft_eq] at hkept
    obtain ⟨c1, c2, c3, c4⟩ := cut_near neg (mag * 2 ^ (place - last).toNat) (last - place).toNat
    rw [← hkept] at c1 c2 c3 c4
    -- the value kept is near
    have hnear : kept * 2 ^ (last + 1074).toNat ≤ mag * 2 ^ (place + 1074).toNat + E ∧ mag * 2 ^ (place + 1074).toNat ≤ kept * 2 ^ (last + 1074).toNat + E := by
      rcases Int.le_total last place with h | h
      · have hk : kept = mag * 2 ^ (place - last).toNat := by
          rw [show (last - place).toNat = 0 by omega, Nat.pow_zero] at c1 c2
          omega
        have : kept * 2 ^ (last + 1074).toNat = mag * 2 ^ (place + 1074).toNat := by
          rw [hk, Nat.mul_assoc, ← Nat.pow_add]; congr 2; omega
        rw [this]; omega
      · rw [show (place - last).toNat = 0 by omega, Nat.pow_zero, Nat.mul_one] at c1 c2
        have e2 : (last + 1074).toNat = (last - place).toNat + (place + 1074).toNat := by omega
        have s1 := Nat.mul_le_mul_right (2 ^ (place + 1074).toNat) c1
        have s2 := Nat.mul_le_mul_right (2 ^ (place + 1074).toNat) c2
        have e3 : kept * 2 ^ (last + 1074).toNat = kept * 2 ^ (last - place).toNat * 2 ^ (place + 1074).toNat := by rw [e2, Nat.pow_add, ← Nat.mul_assoc]
        have e4 : 2 ^ (last - place).toNat * 2 ^ (place + 1074).toNat = 2 ^ (last + 1074).toNat := by rw [e2, Nat.pow_add]
        simp only [Nat.add_mul, Nat.mul_assoc] at s1 s2
        rw [← Nat.mul_assoc kept, ← e3, e4] at s1 s2
        rcases Nat.eq_zero_or_pos (last + 1074).toNat with hz | hz
        · have hd : (last - place).toNat = 0 := by omega
          rw [hd, Nat.pow_zero] at c1 c2
          have hk : kept = mag := by omega
          have hp0 : (place + 1074).toNat = 0 := by omega
          rw [hz, hp0, hk]; omega
        · have e5 : 2 ^ (last + 1074).toNat = 2 * 2 ^ ((last + 1074).toNat - 1) := by
            rw [show (last + 1074).toNat = ((last + 1074).toNat - 1) + 1 by omega, Nat.pow_succ, Nat.mul_comm]; rfl
          have e6 : 2 ^ ((last + 1074).toNat - 1) ≤ E := by rw [hE]; exact Nat.pow_le_pow_right (by omega) (by omega)
          clear hE hkept c1 c2 c3 c4 e hlow hhigh hA hlast e2 e3 e4
          generalize kept * 2 ^ (last + 1074).toNat = X at *
          generalize mag * 2 ^ (place + 1074).toNat = Y at *
          rw [e5] at s1 s2
          generalize 2 ^ ((last + 1074).toNat - 1) = Z at *
          omega
    have hk1 : kept ≤ 9007199254740992 := by
      have hq : mag * 2 ^ (place - last).toNat / 2 ^ (last - place).toNat < 9007199254740992 := by
        rw [Nat.div_lt_iff_lt_mul (Nat.two_pow_pos _)]
        have e53 : (9007199254740992 : Nat) = 2 ^ 53 := rfl
        rw [e53, ← Nat.pow_add]
        have h1 : mag * 2 ^ (place - last).toNat < 2 ^ (mag.log2 + 1) * 2 ^ (place - last).toNat := Nat.mul_lt_mul_of_pos_right hhigh (Nat.two_pow_pos _)
        rw [← Nat.pow_add] at h1
        exact Nat.lt_of_lt_of_le h1 (Nat.pow_le_pow_right (by omega) (by omega))
      omega
    have hk0 : last ≠ -1074 → 4503599627370496 ≤ kept := fun hne => by
      refine Nat.le_trans ?_ c3
      rw [Nat.le_div_iff_mul_le (Nat.two_pow_pos _)]
      have e52 : (4503599627370496 : Nat) = 2 ^ 52 := rfl
      rw [e52, ← Nat.pow_add]
      have h1 : 2 ^ mag.log2 * 2 ^ (place - last).toNat ≤ mag * 2 ^ (place - last).toNat := Nat.mul_le_mul_right _ hlow
      rw [← Nat.pow_add] at h1
      exact Nat.le_trans (Nat.pow_le_pow_right (by omega) (by omega)) h1
    have hlu : last ≤ 900 := by omega
    have hll : -1074 ≤ last := by omega
    have hmin : min ((last - -1074).toNat * 4503599627370496 + kept) 9218868437227405312 = (last - -1074).toNat * 4503599627370496 + kept := Nat.min_eq_left (by omega)
    rw [hmin] at e
    have fin : ∀ (y q : Nat) (l : Int), f64.read y = .number neg q l → q * 2 ^ (l + 1074).toNat = kept * 2 ^ (last + 1074).toNat → isNum y ∧ ∃ B : Nat, fval y = (if neg then -(B : Int) else (B : Int)) ∧ B ≤ mag * 2 ^ (place + 1074).toNat + E ∧ mag * 2 ^ (place + 1074).toNat ≤ B + E := fun y q l r hv => by
      refine ⟨isNum_of r, kept * 2 ^ (last + 1074).toNat, ?_, hnear.1, hnear.2⟩
      unfold fval
      rw [r]
      show signed neg q (l + 1074).toNat = _
      rw [signed_eq, hv]
    rw [e]
    by_cases hc : kept = 9007199254740992
    · have r := read_carry neg (last - -1074).toNat (by omega)
      rw [hc]
      refine fin _ _ _ r ?_
      rw [hc, show (-1074 + (((last - -1074).toNat + 1 : Nat) : Int) + 1074).toNat = (last + 1074).toNat + 1 by omega, Nat.pow_succ, Nat.mul_comm (2 ^ _) 2, ← Nat.mul_assoc]
    · exact fin _ _ _ (read_kept neg kept last hll hlu (Nat.lt_of_le_of_ne hk1 hc) hk0) rfl
end Go.Proofs.Ytbjaedmifacgaaa
