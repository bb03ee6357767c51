/- Plain facts on float64 words: what rounding to thousandths asks of a product. Nothing here speaks of the program. -/
import Derived.Test.YtbjaedmifacgaaaFx
namespace Go.Proofs.Ytbjaedmifacgaaa
open Go.RowKit Ieee

theorem num_of_expo {x : Nat} (hx : x < 18446744073709551616) (hE : expo x < 2047) : isNum x := by
  obtain ⟨S, P, hr, _⟩ := num_form x hx hE
  exact isNum_of hr
theorem expo_le (x : Nat) : expo x ≤ 2047 := by unfold expo; omega
/-- A word whose exponent field is full: an infinity or no number. -/
theorem read_full {x : Nat} (hx : x < 18446744073709551616) (hE : expo x = 2047) : f64.read x = .infinity (sneg x) ∨ ∃ b, f64.read x = .nan (sneg x) b := by
  have he := expo_rung x hx
  have e := fl_read_word f64 (sneg x) (rung x) (by rw [sgn64]; unfold rung; omega)
  rw [word_self x hx, bin64, inf64, if_neg (by omega), if_neg (by omega)] at e
  split at e
  · exact .inl e
  · exact .inr ⟨_, e⟩
theorem order_nan {x : Nat} {a : Bool} {b : Nat} (h : f64.read x = .nan a b) (y : Nat) : f64.order x y = none := by
  unfold Format.order; rw [h]; cases f64.read y <;> rfl
theorem order_inf {x : Nat} {a : Bool} (h : f64.read x = .infinity a) {y : Nat} (hy : isNum y) : f64.order x y = some (if a then .lt else .gt) := by
  obtain ⟨s, m, i, e, _⟩ := hy
  unfold Format.order; rw [h, e]; cases a <;> rfl
theorem abs_rung (x : Nat) : f64.word false (x % 9223372036854775808) = x % 9223372036854775808 := by
  unfold Format.word; simp
theorem abs_num {x : Nat} (hx : x < 18446744073709551616) (h : isNum x) : isNum (x % 9223372036854775808) ∧ fval (x % 9223372036854775808) = ((fval x).natAbs : Int) := by
  have hE := expo_of_num hx h
  obtain ⟨S, P, hr, hS, hc⟩ := num_form x hx hE
  have hr' : f64.read (x % 9223372036854775808) = .number false S (-1074 + (P : Int)) := by
    rw [← abs_rung x]
    rcases hc with ⟨_, h1, h2⟩ | ⟨h1, h2, h3⟩
    · have hl : rung x < 4503599627370496 := by have := expo_rung x hx; omega
      have := read_low false (rung x) hl
      rw [h1, h2]; exact this
    · have := read_rung false P S h2 hS (by omega)
      rw [← h3] at this
      exact this
  refine ⟨isNum_of hr', ?_⟩
  unfold fval
  rw [hr, hr']
  show signed false S _ = ((signed (sneg x) S _).natAbs : Int)
  rw [(val_amount (sneg x) S _).1, signed_eq]
  rfl
theorem abs_full {x : Nat} (hE : expo x = 2047) : f64.read (x % 9223372036854775808) = .infinity false ∨ ∃ b, f64.read (x % 9223372036854775808) = .nan false b := by
  have h := read_full (x := x % 9223372036854775808) (by omega) (by unfold expo at *; omega)
  have hs : sneg (x % 9223372036854775808) = false := by unfold sneg; rw [show x % 9223372036854775808 / 9223372036854775808 = 0 by omega]; rfl
  rw [hs] at h
  exact h
theorem rndW_full {x : Nat} (hE : expo x = 2047) : rndW x = x := by
  unfold rndW; rw [if_neg (by omega), if_neg (by omega), if_neg (by omega)]

theorem c9_isNum : isNum 4741671816366391296 := isNum_of c9_num
theorem c95_isNum : isNum 4741671816370585600 := isNum_of c95_num
theorem c95n_isNum : isNum 13965043853225361408 := isNum_of c95n_num
theorem ch_isNum : isNum 4602678819172646912 := isNum_of ch_num
theorem chn_isNum : isNum 13826050856027422720 := isNum_of chn_num

/-- A number that converts: cut towards zero. -/
theorem conv_val {p : Nat} (hp : isNum p) (n : Int) (hn : (fval p).tdiv (oneV : Int) = n) (h0 : -1000000001 ≤ n) (h1 : n ≤ 1000000001) : floatToIntVal .f64 p .i64 = some n := by
  unfold floatToIntVal
  have e : (FloatKind.f64.decode p).toInt .zero = some n := by
    have := toInt_val hp
    rw [hn] at this
    exact this
  rw [e]
  show (if IntKind.i64.min ≤ n ∧ n ≤ IntKind.i64.max then some n else none) = some n
  have e1 : IntKind.i64.min = -9223372036854775808 := by kernel_rfl
  have e2 : IntKind.i64.max = 9223372036854775807 := by kernel_rfl
  rw [e1, e2, if_pos (by omega)]

theorem rndN_range (a : Nat) : rndN a ≤ 1000000000 ↔ a < 2000000001 * halfV := by
  have hp : 0 < oneV := Nat.two_pow_pos _
  have h2 := oneV_eq
  unfold rndN
  constructor
  · intro h
    have := (Nat.div_lt_iff_lt_mul hp).1 (Nat.lt_succ_of_le h)
    have e : (Nat.succ 1000000000) * oneV = 2000000002 * halfV := by rw [h2]; omega
    rw [e] at this
    omega
  · intro h
    apply Nat.le_of_lt_succ
    apply (Nat.div_lt_iff_lt_mul hp).2
    have e : (Nat.succ 1000000000) * oneV = 2000000002 * halfV := by rw [h2]; omega
    rw [e]
    omega
theorem rndI_abs (v : Int) : (rndI v).natAbs = rndN v.natAbs := by
  unfold rndI; split
  · rw [Int.natAbs_neg]; rfl
  · rfl

/-- The sums of the two ways of rounding: what is in range, how great it is, which side of one half the rest is. -/
theorem round_ways (v n f : Int) (hb : v.natAbs < 2000000001 * halfV) (en : n = v.tdiv (oneV : Int)) (ef : f = v - n * (oneV : Int)) :
    -1000000000 ≤ n ∧ n ≤ 1000000000 ∧ -1000000000 ≤ rndI v ∧ rndI v ≤ 1000000000 ∧
    (((halfV : Int) ≤ f ∧ rndI v = n + 1) ∨ (f ≤ -(halfV : Int) ∧ rndI v = n - 1) ∨ (f < (halfV : Int) ∧ -(halfV : Int) < f ∧ rndI v = n)) := by
  have hp : 0 < oneV := Nat.two_pow_pos _
  have hh := halfV_pos
  have h2 := oneV_eq
  have hr := (rndN_range v.natAbs).2 hb
  have hq : v.natAbs / oneV ≤ 1000000000 := by
    have := rndN_eq v.natAbs
    omega
  have he := rndN_eq v.natAbs
  have hm := Nat.mod_lt v.natAbs hp
  have hdm := Nat.div_add_mod v.natAbs oneV
  obtain ⟨q, hq'⟩ : ∃ q, v.natAbs / oneV = q := ⟨_, rfl⟩
  obtain ⟨r, hr'⟩ : ∃ r, v.natAbs % oneV = r := ⟨_, rfl⟩
  rw [hq', hr'] at he hdm
  rw [hr'] at hm
  rw [hq'] at hq
  by_cases hv : 0 ≤ v
  · have hn : n = (q : Int) := by
      rw [en, Int.tdiv_eq_ediv_of_nonneg hv, ← hq']
      conv => lhs; rw [show v = (v.natAbs : Int) by omega]
      exact (Int.natCast_ediv _ _).symm
    have hf : f = (r : Int) := by
      rw [ef, hn]
      have e : ((oneV * q + r : Nat) : Int) = (v.natAbs : Int) := by rw [hdm]
      rw [Int.natCast_add, Int.natCast_mul, Int.mul_comm] at e
      omega
    have hI : rndI v = (rndN v.natAbs : Int) := by unfold rndI; rw [if_neg (by omega)]
    rw [hn, hf, hI]
    split at he <;> omega
  · have hn : n = -(q : Int) := by
      rw [en, show v = -(v.natAbs : Int) by omega, Int.neg_tdiv, Int.tdiv_eq_ediv_of_nonneg (by omega), ← hq']
      rw [show (v.natAbs : Int) / (oneV : Int) = ((v.natAbs / oneV : Nat) : Int) from (Int.natCast_ediv _ _).symm]
    have hf : f = -(r : Int) := by
      rw [ef, hn]
      have e : ((oneV * q + r : Nat) : Int) = (v.natAbs : Int) := by rw [hdm]
      rw [Int.natCast_add, Int.natCast_mul, Int.mul_comm] at e
      rw [Int.neg_mul]
      omega
    have hI : rndI v = -(rndN v.natAbs : Int) := by unfold rndI; rw [if_pos (by omega)]
    rw [hn, hf, hI]
    split at he <;> omega
end Go.Proofs.Ytbjaedmifacgaaa
