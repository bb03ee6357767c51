/- Plain facts on float64 words: a number less its whole part; the constants of thousandths. Nothing here speaks of the program. -/
import Derived.Test.YtbjaedmifacgaaaFw
namespace Go.Proofs.Ytbjaedmifacgaaa
open Go.RowKit Ieee

theorem rndN_eq (a : Nat) : rndN a = a / oneV + (if halfV ≤ a % oneV then 1 else 0) := by
  have hp : 0 < oneV := Nat.two_pow_pos _
  have hh := halfV_pos
  have h2 := oneV_eq
  unfold rndN
  have hm := Nat.mod_lt a hp
  have e : a + halfV = (a % oneV + halfV) + a / oneV * oneV := by have := Nat.div_add_mod a oneV; rw [Nat.mul_comm] at this; omega
  rw [e, Nat.add_mul_div_right _ _ hp]
  generalize a % oneV = r at *
  split
  · have : (r + halfV) / oneV = 1 := Nat.div_eq_of_lt_le (by omega) (by omega)
    omega
  · have : (r + halfV) / oneV = 0 := Nat.div_eq_of_lt (by omega)
    omega

/-- The constants: a thousand million, that and a half, one half. -/
theorem c9_num : f64.read 4741671816366391296 = .number false 8388608000000000 (-23) := by kernel_rfl
theorem c95_num : f64.read 4741671816370585600 = .number false 8388608004194304 (-23) := by kernel_rfl
theorem c95n_num : f64.read 13965043853225361408 = .number true 8388608004194304 (-23) := by kernel_rfl
theorem ch_num : f64.read 4602678819172646912 = .number false 4503599627370496 (-53) := by kernel_rfl
theorem chn_num : f64.read 13826050856027422720 = .number true 4503599627370496 (-53) := by kernel_rfl
theorem c9_val : fval 4741671816366391296 = 1000000000 * (oneV : Int) := by
  have hf := fixE_eq
  unfold fval; rw [c9_num]; show signed false 8388608000000000 (-23 + 1074 : Int).toNat = _
  rw [show (-23 + 1074 : Int).toNat = fixE - 23 by omega, signed_eq]
  have e := pow_exp 23 (fixE - 23) (by omega)
  have e2 : (8388608000000000 : Nat) = 1000000000 * 2 ^ 23 := rfl
  rw [e2, Nat.mul_assoc, e]; exact Int.natCast_mul 1000000000 oneV
theorem c95_pow : 8388608004194304 * 2 ^ (fixE - 23) = 2000000001 * halfV := by
  have hf := fixE_eq
  have e := pow_half 22 (fixE - 23) (by omega)
  have e2 : (8388608004194304 : Nat) = 2000000001 * 2 ^ 22 := rfl
  rw [e2, Nat.mul_assoc, e]
theorem c95_val : fval 4741671816370585600 = 2000000001 * (halfV : Int) ∧ fval 13965043853225361408 = -(2000000001 * (halfV : Int)) := by
  have hf := fixE_eq
  refine ⟨?_, ?_⟩
  · unfold fval; rw [c95_num]; show signed false 8388608004194304 (-23 + 1074 : Int).toNat = _
    rw [show (-23 + 1074 : Int).toNat = fixE - 23 by omega, signed_eq, c95_pow]; exact Int.natCast_mul 2000000001 halfV
  · unfold fval; rw [c95n_num]; show signed true 8388608004194304 (-23 + 1074 : Int).toNat = _
    rw [show (-23 + 1074 : Int).toNat = fixE - 23 by omega, signed_eq, c95_pow]; exact congrArg (fun z : Int => -z) (Int.natCast_mul 2000000001 halfV)
theorem ch_pow : 4503599627370496 * 2 ^ (fixE - 53) = halfV := by
  have hf := fixE_eq
  have e := pow_half 52 (fixE - 53) (by omega)
  exact e
theorem ch_val : fval 4602678819172646912 = (halfV : Int) ∧ fval 13826050856027422720 = -(halfV : Int) := by
  have hf := fixE_eq
  refine ⟨?_, ?_⟩
  · unfold fval; rw [ch_num]; show signed false 4503599627370496 (-53 + 1074 : Int).toNat = _
    rw [show (-53 + 1074 : Int).toNat = fixE - 53 by omega, signed_eq, ch_pow]; rfl
  · unfold fval; rw [chn_num]; show signed true 4503599627370496 (-53 + 1074 : Int).toNat = _
    rw [show (-53 + 1074 : Int).toNat = fixE - 53 by omega, signed_eq, ch_pow]; rfl

/-- A whole number up to 2 to the 53, as a float. -/
theorem ofInt_val (n : Int) (h0 : -9007199254740992 < n) (h1 : n < 9007199254740992) : isNum (floatOfInt .f64 n) ∧ fval (floatOfInt .f64 n) = n * (oneV : Int) := by
  have hf := fixE_eq
  obtain ⟨a, b⟩ := write_exact (n < 0) n.natAbs 0 n.natAbs 0 (by rw [Nat.pow_zero, Nat.mul_one]) (by omega) (by omega) (by omega)
  refine ⟨a, ?_⟩
  show fval (f64.write (.number (n < 0) n.natAbs 0)) = _
  rw [b, show ((0 : Int) + 1074).toNat = fixE by omega, signed_eq]
  show (if (decide (n < 0)) = true then -((n.natAbs * oneV : Nat) : Int) else ((n.natAbs * oneV : Nat) : Int)) = _
  by_cases h : n < 0
  · rw [if_pos (by simpa using h)]
    push_cast
    rw [show ((n.natAbs : Nat) : Int) = -n by omega, Int.neg_mul, Int.neg_neg]
  · rw [if_neg (by simpa using h)]
    push_cast
    rw [show ((n.natAbs : Nat) : Int) = n by omega]

theorem signed_not (t : Bool) (k u : Nat) : signed (!t) k u = -signed t k u := by
  rw [signed_eq, signed_eq]; cases t <;> simp

/-- A number not too great less its whole part is exact. -/
theorem sub_trunc (p : Nat) (hp : isNum p) (n : Int) (hn : n = (fval p).tdiv (oneV : Int)) (h0 : -9007199254740992 < n) (h1 : n < 9007199254740992) (hb : (fval p).natAbs < 4000000000 * oneV) :
    ∃ f, floatBits .sub .f64 p (floatOfInt .f64 n) = some f ∧ isNum f ∧ fval f = fval p - n * (oneV : Int) := by
  have hf := fixE_eq
  have hpos : 0 < oneV := Nat.two_pow_pos _
  obtain ⟨hg, hgv⟩ := ofInt_val n h0 h1
  obtain ⟨s, m, i, ep, hi, hm⟩ := hp
  obtain ⟨t, k, j, eg, hj, hk⟩ := hg
  have hvp : fval p = signed s m (i + 1074).toNat := by unfold fval; rw [ep]; rfl
  have hvg : fval (floatOfInt .f64 n) = signed t k (j + 1074).toNat := by unfold fval; rw [eg]; rfl
  obtain ⟨base, hbase⟩ : ∃ base : Int, base = min i j := ⟨_, rfl⟩
  obtain ⟨total, ht⟩ : ∃ total : Int, total = signed s m (i - base).toNat + signed (!t) k (j - base).toNat := ⟨_, rfl⟩
  obtain ⟨sg, hsg⟩ : ∃ sg : Bool, sg = (if total = 0 then s && !t else decide (total < 0)) := ⟨_, rfl⟩
  have hsub : floatBits .sub .f64 p (floatOfInt .f64 n) = some (f64.write (.number sg total.natAbs base)) := by
    show f64.sub p (floatOfInt .f64 n) = _
    unfold Format.sub
    rw [ep, eg, hsg, ht, hbase]
    rfl
  -- the sum's value
  have hscale : total * ((2 ^ (base + 1074).toNat : Nat) : Int) = fval p - n * (oneV : Int) := by
    rw [← hgv, hvp, hvg, ht, signed_not, Int.add_mul, Int.neg_mul, ← signed_shift, ← signed_shift]
    rw [show (i - base).toNat + (base + 1074).toNat = (i + 1074).toNat by omega, show (j - base).toNat + (base + 1074).toNat = (j + 1074).toNat by omega]
    omega
  -- the amount left over
  obtain ⟨hva, hvs⟩ := val_amount s m (i + 1074).toNat
  rw [← hvp] at hva hvs
  have hleft : (fval p - n * (oneV : Int)).natAbs = (fval p).natAbs % oneV := by
    rw [hn]
    generalize fval p = v
    have e : v - v.tdiv (oneV : Int) * (oneV : Int) = v.tmod (oneV : Int) := by
      have := Int.mul_tdiv_add_tmod v (oneV : Int)
      rw [Int.mul_comm] at this
      omega
    rw [e]
    exact Int.natAbs_tmod v (oneV : Int)
  have hT : total.natAbs * 2 ^ (base + 1074).toNat = (m * 2 ^ (i + 1074).toNat) % oneV := by
    rw [← hva, ← hleft, ← hscale, Int.natAbs_mul]; rfl
  have hq : ∃ q t' : Nat, total.natAbs = q * 2 ^ t' ∧ q < 9007199254740992 ∧ (t' : Int) + base ≤ 900 := by
    have hpb : 0 < 2 ^ (base + 1074).toNat := Nat.two_pow_pos _
    by_cases hi0 : 0 ≤ i
    · refine ⟨0, 0, ?_, by omega, ?_⟩
      · have e : m * 2 ^ (i + 1074).toNat = (m * 2 ^ i.toNat) * oneV := by
          unfold oneV; rw [Nat.mul_assoc, ← Nat.pow_add]; congr 2; omega
        rw [e, Nat.mul_mod_left] at hT
        rcases Nat.mul_eq_zero.1 hT with h | h
        · rw [h]
        · omega
      · -- a number of that amount has no great exponent
        have hj2 : base ≤ i := by omega
        rcases Nat.eq_zero_or_pos m with hm0 | hm0
        · -- a zero reads at the least place
          have hx : i = -1074 := by
            have ep' := ep
            rw [hm0] at ep'
            unfold Format.read at ep'
            simp only [lp64, bin64, inf64, sgn64] at ep'
            split at ep'
            · injection ep' with _ _ h3; omega
            · split at ep'
              · injection ep' with _ h2 _; omega
              · split at ep' <;> cases ep'
          omega
        · have hle : 2 ^ i.toNat * oneV ≤ (fval p).natAbs := by
            rw [hva, show (i + 1074).toNat = i.toNat + fixE by omega, Nat.pow_add]
            exact Nat.le_mul_of_pos_left _ hm0
          have hlt : 2 ^ i.toNat * oneV < 2 ^ 32 * oneV := by
            have e32 : (2 : Nat) ^ 32 = 4294967296 := rfl
            rw [e32]
            exact Nat.lt_of_le_of_lt hle (Nat.lt_of_lt_of_le hb (Nat.mul_le_mul_right _ (by omega)))
          have := Nat.lt_of_mul_lt_mul_right hlt
          have h32 := (Nat.pow_lt_pow_iff_right (by omega : 1 < 2)).1 this
          omega
    · refine ⟨m % 2 ^ (-i).toNat, (i - base).toNat, ?_, Nat.lt_of_le_of_lt (Nat.mod_le _ _) hm, by omega⟩
      have e : oneV = 2 ^ (-i).toNat * 2 ^ (i + 1074).toNat := by unfold oneV; rw [← Nat.pow_add]; congr 1; omega
      rw [e, Nat.mul_mod_mul_right] at hT
      rw [show (i + 1074).toNat = (i - base).toNat + (base + 1074).toNat by omega, Nat.pow_add, ← Nat.mul_assoc] at hT
      exact Nat.eq_of_mul_eq_mul_right hpb hT
  obtain ⟨q, t', hq1, hq2, hq3⟩ := hq
  obtain ⟨w1, w2⟩ := write_exact sg total.natAbs base q t' hq1 hq2 (by omega) hq3
  refine ⟨_, hsub, w1, ?_⟩
  rw [w2, ← hscale, signed_eq]
  by_cases ht0 : total = 0
  · rw [ht0]; simp
  · rw [if_neg ht0] at hsg
    rw [hsg]
    by_cases hneg : total < 0
    · rw [if_pos (by simpa using hneg)]
      push_cast
      rw [show ((total.natAbs : Nat) : Int) = -total by omega, Int.neg_mul, Int.neg_neg]
    · rw [if_neg (by simpa using hneg)]
      push_cast
      rw [show ((total.natAbs : Nat) : Int) = total by omega]
end Go.Proofs.Ytbjaedmifacgaaa
