/- Plain facts on float64 words: how far a rounded value lies from the exact one. Nothing here speaks of the program. -/
import Derived.Test.YtbjaedmifacgaaaFh
namespace Go.Proofs.Ytbjaedmifacgaaa
open Go.RowKit Ieee

theorem rep_nat {q k : Nat} (hq : q ≤ 9007199254740992) : Rep ((q * 2 ^ k : Nat) : Int) := ⟨q, k, hq, Int.natAbs_natCast _⟩

theorem near_err_pos {v : Int} {A D : Nat} (h : NearI v (A : Int) D) (hD : 0 < D) :
    4503599627370496 * (v * (D : Int) - (A : Int)) ≤ (A : Int) + 4503599627370496 * (D : Int) ∧ 4503599627370496 * ((A : Int) - v * (D : Int)) ≤ (A : Int) + 4503599627370496 * (D : Int) := by
  obtain ⟨n, hn⟩ : ∃ n, n = A / D := ⟨_, rfl⟩
  have hdm := Nat.div_add_mod A D
  have hml := Nat.mod_lt A hD
  rw [← hn] at hdm
  have n0 : n * D ≤ A := by rw [Nat.mul_comm]; omega
  have n1 : A < (n + 1) * D := by rw [Nat.add_mul, Nat.one_mul, Nat.mul_comm n D]; omega
  have key : ∀ q k : Nat, q < 9007199254740992 → q * 2 ^ k ≤ n → n + 1 ≤ (q + 1) * 2 ^ k → (4503599627370496 * 2 ^ k ≤ n ∨ k = 0) →
      4503599627370496 * (v * (D : Int) - (A : Int)) ≤ (A : Int) + 4503599627370496 * (D : Int) ∧ 4503599627370496 * ((A : Int) - v * (D : Int)) ≤ (A : Int) + 4503599627370496 * (D : Int) := fun q k hq h1 h2 h3 => by
    have l1 : q * 2 ^ k * D ≤ A := Nat.le_trans (Nat.mul_le_mul_right D h1) n0
    have l2 : A ≤ (q + 1) * 2 ^ k * D := Nat.le_of_lt (Nat.lt_of_lt_of_le n1 (Nat.mul_le_mul_right D h2))
    have r1 := (h _ (rep_nat (q := q) (k := k) (by omega))).1 (by exact_mod_cast l1)
    have r2 := (h _ (rep_nat (q := q + 1) (k := k) (by omega))).2 (by exact_mod_cast l2)
    have hDi : (0 : Int) ≤ (D : Int) := by omega
    have r1' := Int.mul_le_mul_of_nonneg_right r1 hDi
    have r2' := Int.mul_le_mul_of_nonneg_right r2 hDi
    rw [← Int.natCast_mul] at r1' r2'
    have e : (q + 1) * 2 ^ k * D = q * 2 ^ k * D + 2 ^ k * D := by rw [Nat.add_mul, Nat.one_mul, Nat.add_mul]
    rw [e] at r2' l2
    have l3 : 4503599627370496 * (2 ^ k * D) ≤ A ∨ 2 ^ k * D = D := by
      rcases h3 with h3 | rfl
      · left
        rw [← Nat.mul_assoc]
        exact Nat.le_trans (Nat.mul_le_mul_right D h3) n0
      · right; rw [Nat.pow_zero, Nat.one_mul]
    generalize v * (D : Int) = z at *
    generalize q * 2 ^ k * D = x at *
    generalize 2 ^ k * D = y at *
    omega
  rcases Nat.lt_or_ge n 9007199254740992 with hs | hs
  · exact key n 0 hs (by rw [Nat.pow_zero, Nat.mul_one]; exact Nat.le_refl _) (by rw [Nat.pow_zero, Nat.mul_one]; exact Nat.le_refl _) (.inr rfl)
  · have h0 : n ≠ 0 := by omega
    have h1 : 2 ^ n.log2 ≤ n := Nat.log2_self_le h0
    have h2 : n < 2 ^ (n.log2 + 1) := Nat.lt_log2_self
    have hl : 53 ≤ n.log2 := by
      rcases Nat.lt_or_ge n.log2 53 with h | h
      · have : 2 ^ (n.log2 + 1) ≤ 2 ^ 53 := Nat.pow_le_pow_right (by omega) (by omega)
        have : (2 : Nat) ^ 53 = 9007199254740992 := rfl
        omega
      · exact h
    obtain ⟨j, hj⟩ : ∃ j, n.log2 = 52 + j := ⟨n.log2 - 52, by omega⟩
    rw [hj] at h1 h2
    have e52 : (2 : Nat) ^ 52 = 4503599627370496 := rfl
    have e53 : (2 : Nat) ^ 53 = 9007199254740992 := rfl
    rw [Nat.pow_add, e52] at h1
    rw [show 52 + j + 1 = 53 + j by omega, Nat.pow_add, e53] at h2
    have hpj : 0 < 2 ^ j := Nat.two_pow_pos _
    refine key (n / 2 ^ j) j ((Nat.div_lt_iff_lt_mul hpj).2 h2) (Nat.div_mul_le_self n (2 ^ j)) ?_ (.inl h1)
    have := Nat.div_add_mod n (2 ^ j)
    have := Nat.mod_lt n hpj
    rw [Nat.add_mul, Nat.one_mul, Nat.mul_comm]
    omega

/-- A rounded value lies within a 2 to the 52nd part of the exact one, and a unit. -/
theorem near_err {v N : Int} {D : Nat} (h : NearI v N D) (hD : 0 < D) :
    4503599627370496 * (v * (D : Int) - N) ≤ (N.natAbs : Int) + 4503599627370496 * (D : Int) ∧ 4503599627370496 * (N - v * (D : Int)) ≤ (N.natAbs : Int) + 4503599627370496 * (D : Int) := by
  rcases Int.le_total 0 N with h0 | h0
  · obtain ⟨A, rfl⟩ : ∃ A : Nat, N = (A : Int) := ⟨N.toNat, by omega⟩
    rw [Int.natAbs_natCast]
    exact near_err_pos h hD
  · obtain ⟨A, rfl⟩ : ∃ A : Nat, N = -(A : Int) := ⟨(-N).toNat, by omega⟩
    have hn := near_int_neg h
    rw [Int.neg_neg] at hn
    obtain ⟨a, b⟩ := near_err_pos hn hD
    rw [Int.neg_mul] at a b
    rw [Int.natAbs_neg, Int.natAbs_natCast]
    generalize v * (D : Int) = z at *
    omega
end Go.Proofs.Ytbjaedmifacgaaa
