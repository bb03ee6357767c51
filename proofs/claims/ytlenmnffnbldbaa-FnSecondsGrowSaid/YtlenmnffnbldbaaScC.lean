/- Half of a way takes no more time: plain facts; the drawing; the walk of the law FnSecondsGrow. -/
import Derived.Test.YtlenmnffnbldbaaFq
import Derived.Test.YtlenmnffnbldbaaScB
import Derived.Test.YtlenmnffnbldbaaWk
namespace Go.Proofs.Ytlenmnffnbldbaa
open Go.RowKit Ieee
set_option linter.unusedVariables false
set_option linter.unusedSimpArgs false

theorem tw2_num : f64.read 4611686018427387904 = .number false 4503599627370496 (-51) := by kernel_rfl
theorem tw2_val : fval 4611686018427387904 = ((2 * oneV : Nat) : Int) := by
  have hf := fixE_eq
  unfold fval; rw [tw2_num]; show signed false 4503599627370496 (-51 + 1074 : Int).toNat = _
  rw [show (-51 + 1074 : Int).toNat = fixE - 51 by omega, signed_eq]
  show ((4503599627370496 * 2 ^ (fixE - 51) : Nat) : Int) = ((2 * oneV : Nat) : Int)
  have h : 2 * oneV = 4503599627370496 * 2 ^ (fixE - 51) := by
    unfold oneV; rw [show (4503599627370496 : Nat) = 2 ^ 52 from rfl, ← Nat.pow_add, show 2 * 2 ^ fixE = 2 ^ (fixE + 1) by rw [Nat.pow_succ, Nat.mul_comm]]
    exact congrArg (fun z => 2 ^ z) (by omega)
  rw [h]
theorem least_word {x : Nat} (hx : x < 18446744073709551616) (h : isNum x) (hv : fval x = 1) : x = 1 := by
  have hE := expo_of_num hx h
  obtain ⟨S, P, hr, hS, hcase⟩ := num_form x hx hE
  have e : fval x = signed (sneg x) S P := by
    unfold fval; rw [hr]; show signed (sneg x) S (-1074 + (P : Int) + 1074).toNat = _
    rw [show (-1074 + (P : Int) + 1074).toNat = P by omega]
  rw [e, signed_eq] at hv
  have hs : sneg x = false := by
    cases hs : sneg x
    · rfl
    · rw [hs] at hv; simp only [if_true] at hv; omega
  rw [hs] at hv
  simp only [Bool.false_eq_true, if_false] at hv
  have h1 : S * 2 ^ P = 1 := by omega
  have h2 := Nat.eq_one_of_mul_eq_one_right h1
  have h3 : x < 9223372036854775808 := by
    unfold sneg at hs
    have : x / 9223372036854775808 ≠ 1 := by simpa using hs
    omega
  rcases hcase with ⟨_, _, h4⟩ | ⟨_, h4, _⟩
  · unfold rung at h4; omega
  · omega
theorem half_least : floatBits .quo .f64 1 4611686018427387904 = some 0 := by kernel_rfl

/-- The half of a number from 0 on. -/
theorem hlf_op {m : Nat} (hml : m < 18446744073709551616) (hm : okM m) : ∃ h H M, floatBits .quo .f64 m 4611686018427387904 = some h ∧ h < 18446744073709551616 ∧ isNum h ∧ fval m = ((M : Nat) : Int) ∧ fval h = ((H : Nat) : Int) ∧ 2 * H ≤ M + 1 ∧ (M ≤ 1 → H = 0) := by
  obtain ⟨mn, m0, m1⟩ := hm
  have hE := fixE_eq
  have hone : 0 < oneV := Nat.two_pow_pos _
  have tn := isNum_of tw2_num
  have tv2 := tw2_val
  obtain ⟨M, hM⟩ : ∃ M : Nat, M = (fval m).natAbs := ⟨_, rfl⟩
  have hMv : fval m = (M : Int) := by omega
  obtain ⟨h, d1, d2, d3, s, t, R, v1, v2, v3, hnear⟩ := div_op mn tn (by
    rw [← hM, Nat.pow_add]
    show M < oneV * 2 ^ 200
    have : M ≤ 100000000 * oneV := by omega
    have h2 : 100000000 * oneV < oneV * 2 ^ 200 := by rw [Nat.mul_comm]; exact Nat.mul_lt_mul_of_pos_left (by decide) hone
    omega) (by
    rw [tv2, Int.natAbs_natCast]
    have : 2 ^ (fixE - 200) ≤ oneV := by unfold oneV; exact Nat.pow_le_pow_right (by omega) (by omega)
    omega)
  rw [← hM, tv2, Int.natAbs_natCast] at hnear
  have ht : t = false := by
    cases t
    · rfl
    · exfalso; rw [tv2] at v3; simp only [if_true] at v3; omega
  have hz : M = 0 → R = 0 := fun e => by
    have := (hnear 0 0 (by omega)).2.1 (by rw [e]; simp)
    simpa using this
  have hv : fval h = (R : Int) := by
    rw [v1, ht]
    cases s
    · rfl
    · rw [← hM] at v2
      simp only [if_true] at v2
      have := hz (by omega)
      subst this; rfl
  refine ⟨h, R, M, d1, d3, d2, hMv, hv, ?_, ?_⟩
  · rcases Nat.lt_or_ge M 9007199254740992 with hb | hb
    · have := (hnear ((M + 1) / 2) 0 (by omega)).2.1 (by
        rw [Nat.pow_zero, Nat.mul_one, ← Nat.mul_assoc]
        exact Nat.mul_le_mul_right _ (by omega))
      rw [Nat.pow_zero, Nat.mul_one] at this
      omega
    · rcases Nat.lt_or_ge M 18014398509481984 with hb2 | hb2
      · obtain ⟨q, k, hq, hqk⟩ := rep_num mn
        rw [← hM] at hqk
        cases k with
        | zero =>
          rw [Nat.pow_zero, Nat.mul_one] at hqk
          have := (hnear ((M + 1) / 2) 0 (by omega)).2.1 (by
            rw [Nat.pow_zero, Nat.mul_one, ← Nat.mul_assoc]
            exact Nat.mul_le_mul_right _ (by omega))
          rw [Nat.pow_zero, Nat.mul_one] at this
          omega
        | succ k =>
          have e : M = 2 * (q * 2 ^ k) := by rw [hqk, Nat.pow_succ, ← Nat.mul_assoc, Nat.mul_comm]
          have := (hnear q k hq).2.1 (by rw [e, Nat.mul_comm 2 (q * 2 ^ k), Nat.mul_assoc]; exact Nat.le_refl _)
          omega
      · obtain ⟨z, hz1, q, k, hq, hqk⟩ := rep_half (rep_num mn) (by omega)
        have e : M = 2 * (q * 2 ^ k) := by omega
        have := (hnear q k hq).2.1 (by rw [e, Nat.mul_comm 2 (q * 2 ^ k), Nat.mul_assoc]; exact Nat.le_refl _)
        omega
  · intro h1
    rcases Nat.eq_zero_or_pos M with h2 | h2
    · exact hz h2
    · have hm1 : m = 1 := least_word hml mn (by omega)
      subst hm1
      have e := half_least
      have e2 : some h = some 0 := d1.symm.trans e
      cases e2
      rw [nought_val] at hv
      omega

theorem sec_half {m h a : Nat} {n n' : Int} {t' : Bool} (hml : m < 18446744073709551616) (h1 : SecIs m a n true) (hh : floatBits .quo .f64 m 4611686018427387904 = some h) (h2 : SecIs h a n' t') : t' = true ∧ n' ≤ n := by
  rcases h1 with ⟨_, hm, ha, q, hq, hok, rfl⟩ | ⟨h, _⟩
  case inr => cases h
  obtain ⟨h9, H, M, e1, hl, hn, hMv, hHv, c1, c2⟩ := hlf_op hml hm
  rw [hh] at e1
  cases e1
  have hone : 0 < oneV := Nat.two_pow_pos _
  have hHM : H ≤ M := by omega
  have hokh : okM h := ⟨hn, by omega, by have := hm.2.2; omega⟩
  obtain ⟨G, hG⟩ : ∃ G : Nat, G = 1898 := ⟨_, rfl⟩
  obtain ⟨D, hD⟩ : ∃ D : Nat, D = (fval a).natAbs := ⟨_, rfl⟩
  have hDv : fval a = (D : Int) := by have := ha.2; omega
  have hD0 : 0 < D := by have := ha.2; omega
  have mA : (fval m).natAbs = M := by omega
  have hA : (fval h).natAbs = H := by omega
  obtain ⟨r, r1, r2, r3⟩ := div_gen G hG hm.1 ha.1 (by omega)
  have er : some r = some q := r1.symm.trans hq
  cases er
  rw [mA, ← hD] at r3
  rcases r3 with ⟨_, hno⟩ | ⟨hsm, rn, s, t, R, v1, v2, v3, hnear, z1, z2⟩
  · exact absurd hok hno
  obtain ⟨r', r1', r2', r3'⟩ := div_gen G hG hn ha.1 (by omega)
  rw [hA, ← hD] at r3'
  have hHo : H * oneV ≤ M * oneV := Nat.mul_le_mul_right _ hHM
  rcases r3' with ⟨hbig, _⟩ | ⟨hsm', rn', s', t2, R', v1', v2', v3', hnear', z1', z2'⟩
  · omega
  -- signs
  have ht : t = false := by
    cases t
    · rfl
    · exfalso; simp only [if_true] at v3; omega
  have ht2 : t2 = false := by
    cases t2
    · rfl
    · exfalso; simp only [if_true] at v3'; omega
  have hRv : fval q = (R : Int) := by
    have := hok.2.1
    rw [v1] at this ⊢
    cases hst : (s ^^ t)
    · rfl
    · rw [hst] at this; simp only [if_true] at this ⊢; omega
  have hRv' : fval r' = (R' : Int) := by
    rw [v1', ht2]
    cases s'
    · rfl
    · simp only [if_true] at v2'
      have hH0 : H = 0 := by omega
      have := z1' (by rw [hH0]; simpa using hD0)
      subst this; rfl
  obtain ⟨k, hk⟩ : ∃ k : Nat, (k : Int) = clI (fval q) := ⟨(clI (fval q)).toNat, by have := clI_nonneg hok.2.1; omega⟩
  have hk1 : (k : Int) ≤ 10000000 := by rw [hk]; exact clI_le hok.2.2
  have hRk : R ≤ k * oneV := by
    have := (clI_sides (fval q)).1
    rw [← hk, hRv, ← Int.natCast_mul] at this
    omega
  have hb : R' ≤ k * oneV := by
    rcases Nat.lt_or_ge (k * oneV * D) (H * oneV) with hc | hc
    · have hcD : k * D < H := by
        rw [Nat.mul_right_comm] at hc
        exact Nat.lt_of_mul_lt_mul_right hc
      by_cases hk0 : k = 0
      · subst hk0
        rw [Nat.zero_mul] at hRk hcD ⊢
        have hR0 : R = 0 := by omega
        have hz := z2 hR0
        have hM1 : ¬ M ≤ 1 := fun h => by have := c2 h; omega
        have := z1' (by
          have h3 : 2 * (H * oneV) ≤ (M + 1) * oneV := by rw [← Nat.mul_assoc]; exact Nat.mul_le_mul_right _ (by omega)
          have h4 : (M + 1) * oneV < (2 * M) * oneV := Nat.mul_lt_mul_of_pos_right (by omega) hone
          rw [Nat.mul_assoc] at h4
          omega)
        omega
      · exfalso
        have hM2 : (k + 1) * D ≤ M := by
          have h3 : D ≤ k * D := by have := Nat.mul_le_mul_right D (show 1 ≤ k by omega); omega
          rw [Nat.add_mul, Nat.one_mul]
          omega
        have h4 : (k + 1) * oneV ≤ R := by
          have := (hnear (k + 1) fixE (by omega)).1 (by
            show (k + 1) * oneV * D ≤ M * oneV
            rw [Nat.mul_right_comm]
            exact Nat.mul_le_mul_right _ hM2)
          exact this
        rw [Nat.add_mul] at h4
        omega
    · exact (hnear' k fixE (by omega)).2.1 hc
  have hokq : okQ r' := ⟨rn', by omega, by
    rw [hRv']
    have h3 : k * oneV ≤ 10000000 * oneV := Nat.mul_le_mul_right _ (by omega)
    omega⟩
  have hle : clI (fval r') ≤ (k : Int) := clI_le (by rw [hRv', ← Int.natCast_mul]; omega)
  rcases h2 with ⟨ht', _, _, q', hq', _, rfl⟩ | ⟨_, _, hno⟩
  · have e : some r' = some q' := r1'.symm.trans hq'
    cases e
    exact ⟨ht', by omega⟩
  · obtain ⟨q', hq', hnq⟩ := hno hokh ha
    have e : some r' = some q' := r1'.symm.trans hq'
    cases e
    exact absurd hokq hnq
end Go.Proofs.Ytlenmnffnbldbaa
