/- spec.ToFixed and impl.ToFixed answer alike; the walk of the law FnExactToFixed. -/
import Derived.Test.YtciebalkfeoabaaFz
namespace Go.Proofs.Ytciebalkfeoabaa
open Go.RowKit Ieee

abbrev Tf (n : Nat) (x : Nat) (k : Int) (b : Bool) : Prop :=
  ∀ w : World, Calls Try.prog n #[.float .f64 x] w fun e w' => e = .returned (.tuple #[.int .i64 k, .bool b]) ∧ Below w.heap.size w w'

theorem below_of_eq {w w' : World} (h : w' = w) : Below w.heap.size w w' := by subst h; exact Below.refl _ _
theorem below_of_drew {w w' : World} (h : w' = w.drew) : Below w.heap.size w w' := by subst h; exact (Below.refl _ _).drew

/-- A product in range: both answer its value rounded at the point. -/
theorem tf_in (x p : Nat) (hm : floatBits .mul .f64 x 4652007308841189376 = some p) (hn : isNum p) (hb : (fval p).natAbs < 2000000001 * halfV) :
    Tf 21 x (rndI (fval p)) true ∧ Tf 15 x (rndI (fval p)) true := by
  have hp := mul_lt hm
  have hh := halfV_pos
  have h2 := oneV_eq
  have hpos : 0 < oneV := Nat.two_pow_pos _
  obtain ⟨n, en⟩ : ∃ n, n = (fval p).tdiv (oneV : Int) := ⟨_, rfl⟩
  obtain ⟨n0, n1, k0, k1, hk⟩ := round_ways (fval p) n _ hb en rfl
  obtain ⟨f, hs, hf, hfv⟩ := sub_trunc p hn n en (by omega) (by omega) (by rw [h2]; omega)
  rw [← hfv] at hk
  constructor
  · intro w
    refine (s_tf_in x p f n (rndI (fval p)) w hm ?_ ?_ (conv_val hn n en.symm (by omega) (by omega)) n0 n1 hs ?_).mono fun e w' ⟨a, b⟩ => ⟨a, below_of_eq b⟩
    · rw [show FloatKind.f64.format.order p 13965043853225361408 = some (compare (fval p) (fval 13965043853225361408)) from order_val hn c95n_isNum, c95_val.2]
      exact congrArg some (Int.compare_eq_gt.2 (by omega))
    · rw [show FloatKind.f64.format.order p 4741671816370585600 = some (compare (fval p) (fval 4741671816370585600)) from order_val hn c95_isNum, c95_val.1]
      exact congrArg some (Int.compare_eq_lt.2 (by omega))
    · rw [show FloatKind.f64.format.order f 4602678819172646912 = some (compare (fval f) (fval 4602678819172646912)) from order_val hf ch_isNum, ch_val.1,
        show FloatKind.f64.format.order f 13826050856027422720 = some (compare (fval f) (fval 13826050856027422720)) from order_val hf chn_isNum, ch_val.2]
      rcases hk with ⟨h, e⟩ | ⟨h, e⟩ | ⟨h, h', e⟩
      · refine .inl ⟨?_, congrArg some (Int.compare_eq_gt.2 (by omega)), e⟩
        rcases Int.lt_or_eq_of_le h with h | h
        · exact .inl (congrArg some (Int.compare_eq_gt.2 h))
        · exact .inr (congrArg some (Int.compare_eq_eq.2 h.symm))
      · refine .inr (.inl ⟨congrArg some (Int.compare_eq_lt.2 (by omega)), ?_, e⟩)
        rcases Int.lt_or_eq_of_le h with h | h
        · exact .inl (congrArg some (Int.compare_eq_lt.2 h))
        · exact .inr (congrArg some (Int.compare_eq_eq.2 h))
      · exact .inr (.inr ⟨congrArg some (Int.compare_eq_lt.2 h), congrArg some (Int.compare_eq_gt.2 h'), e⟩)
  · intro w
    obtain ⟨y0, yn, yv⟩ := rnd_val p hp (expo_of_num hp hn)
    obtain ⟨an, av⟩ := abs_num y0 yn
    have ha : (fval (rndW p)).natAbs = rndN (fval p).natAbs * oneV := by rw [yv, Int.natAbs_mul, rndI_abs]; rfl
    have hr := (rndN_range (fval p).natAbs).2 hb
    refine (i_tf_in x p (rndI (fval p)) w hm y0 ?_ (conv_val yn _ ?_ (by omega) (by omega))).mono fun e w' ⟨a, b⟩ => ⟨a, below_of_eq b⟩
    · rw [show FloatKind.f64.format.order (rndW p % 9223372036854775808) 4741671816366391296 = some (compare (fval (rndW p % 9223372036854775808)) (fval 4741671816366391296)) from order_val an c9_isNum, av, c9_val, ha]
      have hle : rndN (fval p).natAbs * oneV ≤ 1000000000 * oneV := Nat.mul_le_mul_right _ hr
      have e1 : ((1000000000 * oneV : Nat) : Int) = 1000000000 * (oneV : Int) := Int.natCast_mul _ _
      rw [← e1]
      rcases Nat.lt_or_eq_of_le hle with h | h
      · exact .inl (congrArg some (Int.compare_eq_lt.2 (by omega)))
      · exact .inr (congrArg some (Int.compare_eq_eq.2 (by rw [h])))
    · rw [yv]; exact Int.mul_tdiv_cancel _ (by omega)

/-- A product out of range, or none: both refuse. -/
theorem tf_out (x p : Nat) (hm : floatBits .mul .f64 x 4652007308841189376 = some p) (ho : isNum p → 2000000001 * halfV ≤ (fval p).natAbs) :
    Tf 21 x 0 false ∧ Tf 15 x 0 false := by
  have hp := mul_lt hm
  have hh := halfV_pos
  have h2 := oneV_eq
  have hpos : 0 < oneV := Nat.two_pow_pos _
  by_cases hE : expo p < 2047
  · have hn := num_of_expo hp hE
    have hb := ho hn
    constructor
    · intro w
      have e1 : FloatKind.f64.format.order p 13965043853225361408 = some (compare (fval p) (fval 13965043853225361408)) := order_val hn c95n_isNum
      have e2 : FloatKind.f64.format.order p 4741671816370585600 = some (compare (fval p) (fval 4741671816370585600)) := order_val hn c95_isNum
      rw [c95_val.2] at e1
      rw [c95_val.1] at e2
      rcases Int.lt_trichotomy (fval p) 0 with h | h | h
      · refine (s_tf_low x p w hm ?_).mono fun e w' ⟨a, b⟩ => ⟨a, below_of_eq b⟩
        rw [e1]
        rcases Int.lt_or_eq_of_le (show fval p ≤ -(2000000001 * (halfV : Int)) by omega) with h | h
        · rw [Int.compare_eq_lt.2 h]; rfl
        · rw [Int.compare_eq_eq.2 h]; rfl
      · omega
      · refine (s_tf_high x p w hm ?_ ?_).mono fun e w' ⟨a, b⟩ => ⟨a, below_of_eq b⟩
        · rw [e1, Int.compare_eq_gt.2 (by omega)]
        · rw [e2]
          rcases Int.lt_or_eq_of_le (show 2000000001 * (halfV : Int) ≤ fval p by omega) with h | h
          · rw [Int.compare_eq_gt.2 h]; rfl
          · rw [Int.compare_eq_eq.2 h.symm]; rfl
    · intro w
      obtain ⟨y0, yn, yv⟩ := rnd_val p hp hE
      obtain ⟨an, av⟩ := abs_num y0 yn
      have ha : (fval (rndW p)).natAbs = rndN (fval p).natAbs * oneV := by rw [yv, Int.natAbs_mul, rndI_abs]; rfl
      have hr : 1000000001 ≤ rndN (fval p).natAbs := by
        rcases Nat.lt_or_ge (rndN (fval p).natAbs) 1000000001 with h | h
        · have := (rndN_range (fval p).natAbs).1 (by omega); omega
        · exact h
      refine (i_tf_out x p w hm y0 (.inl ?_)).mono fun e w' ⟨a, b⟩ => ⟨a, below_of_eq b⟩
      rw [show FloatKind.f64.format.order (rndW p % 9223372036854775808) 4741671816366391296 = some (compare (fval (rndW p % 9223372036854775808)) (fval 4741671816366391296)) from order_val an c9_isNum, av, c9_val, ha]
      have hle : 1000000001 * oneV ≤ rndN (fval p).natAbs * oneV := Nat.mul_le_mul_right _ hr
      exact congrArg some (Int.compare_eq_gt.2 (by omega))
  · have hE2 : expo p = 2047 := by have := expo_le p; omega
    constructor
    · intro w
      rcases read_full hp hE2 with h | ⟨b, h⟩
      · have e1 : FloatKind.f64.format.order p 13965043853225361408 = _ := order_inf h c95n_isNum
        have e2 : FloatKind.f64.format.order p 4741671816370585600 = _ := order_inf h c95_isNum
        cases hs : sneg p
        · rw [hs] at e1 e2
          exact (s_tf_high x p w hm e1 (by rw [e2]; rfl)).mono fun e w' ⟨a, b⟩ => ⟨a, below_of_eq b⟩
        · rw [hs] at e1
          exact (s_tf_low x p w hm (by rw [e1]; rfl)).mono fun e w' ⟨a, b⟩ => ⟨a, below_of_eq b⟩
      · have e1 : FloatKind.f64.format.order p 13965043853225361408 = _ := order_nan h _
        exact (s_tf_low x p w hm (by rw [e1]; rfl)).mono fun e w' ⟨a, b⟩ => ⟨a, below_of_eq b⟩
    · intro w
      have hw := rndW_full hE2
      refine (i_tf_out x p w hm (by rw [hw]; exact hp) ?_).mono fun e w' ⟨a, b⟩ => ⟨a, below_of_eq b⟩
      rw [hw]
      rcases abs_full hE2 with h | ⟨b, h⟩
      · exact .inl (order_inf h c9_isNum)
      · exact .inr (order_nan h _)

theorem tf_both (x : Nat) : ∃ k b, -1000000000 ≤ k ∧ k ≤ 1000000000 ∧ Tf 21 x k b ∧ Tf 15 x k b := by
  cases hm : floatBits .mul .f64 x 4652007308841189376 with
  | none => exact ⟨0, false, by omega, by omega, fun w => (s_tf_nan x w hm).mono fun e w' ⟨a, b⟩ => ⟨a, below_of_drew b⟩, fun w => (i_tf_nan x w hm).mono fun e w' ⟨a, b⟩ => ⟨a, below_of_drew b⟩⟩
  | some p =>
    by_cases h : isNum p ∧ (fval p).natAbs < 2000000001 * halfV
    · obtain ⟨a, b⟩ := tf_in x p hm h.1 h.2
      obtain ⟨_, _, k0, k1, _⟩ := round_ways (fval p) _ _ h.2 rfl rfl
      exact ⟨_, true, k0, k1, a, b⟩
    · obtain ⟨a, b⟩ := tf_out x p hm (fun hn => by
        rcases Nat.lt_or_ge (fval p).natAbs (2000000001 * halfV) with h' | h'
        · exact absurd ⟨hn, h'⟩ h
        · exact h')
      exact ⟨_, false, by omega, by omega, a, b⟩

set_option maxHeartbeats 400000 in
theorem w_FnExactToFixed (x : Nat) (w : World) (_ : (Lit.float .f64 x).wf = true) :
    Calls Try.prog 8 #[.float .f64 x] w fun e w' => e = .returned (.bool true) ∧ Below w.heap.size w w' := by
  obtain ⟨k, b, k0, k1, hs, hi⟩ := tf_both x
  have hs' := fun w => hs w
  have hi' := fun w => hi w
  clear hs hi
  cases b
  all_goals
    go_enter Try.func8, Try.ntmps8
    go_wp2_with (first
      | (go_at_call 21; ((with_reducible refine (hs' _).mono ?_); rintro e w1 ⟨rfl, b1⟩))
      | (go_at_call 15; ((with_reducible refine (hi' _).mono ?_); rintro e w2 ⟨rfl, b2⟩)))
    go_ret
    exact ⟨rfl, b1.trans (b2.mono b1.size)⟩
end Go.Proofs.Ytciebalkfeoabaa
