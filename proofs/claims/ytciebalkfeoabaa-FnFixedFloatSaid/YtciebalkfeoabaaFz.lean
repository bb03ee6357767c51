/- The walks of spec.ToFixed and impl.ToFixed, and of the law FnExactToFixed. -/
import Derived.Test.YtciebalkfeoabaaRows
import Derived.Test.YtciebalkfeoabaaFy
import Derived.WalkKit
import Derived.WalkSpells
import Derived.WalkLawsBesides
import Derived.Lib.Hide
namespace Go.Proofs.Ytciebalkfeoabaa
open Go.RowKit Ieee

/-- math.Round at any word. -/
theorem rnd_any (x : Nat) (w : World) (hx : x < 18446744073709551616) :
    Calls Try.prog 30 #[.float .f64 x] w fun e w' => e = .returned (.float .f64 (rndW x)) ∧ w = w' := by
  unfold rndW
  by_cases h1 : expo x < 1022
  · rw [if_pos h1]; exact rnd_small x w hx h1
  · rw [if_neg h1]
    by_cases h2 : expo x = 1022
    · rw [if_pos h2]; exact rnd_half x w hx h2
    · rw [if_neg h2]
      by_cases h3 : expo x < 1075
      · rw [if_pos h3]; exact rnd_mid x (expo x - 1023) w hx (by omega) (by omega)
      · rw [if_neg h3]; exact rnd_big x w hx (by omega)

theorem nan_cut (x y t u : Nat) (hu : (Question.nanBits .f64 x y).cut t = u) :
    u < 18446744073709551616 ∧ expo u = 2047 ∧ (∀ z, FloatKind.f64.format.order u z = none) ∧ ∀ z, FloatKind.f64.format.order (u % 9223372036854775808) z = none := by
  simp only [Question.cut, Nat.reducePow, Nat.reduceSub] at hu
  have hs : t % 2 = 0 ∨ t % 2 = 1 := by omega
  have hd : t / 2 % 4503599627370495 < 4503599627370495 := Nat.mod_lt _ (by omega)
  generalize t / 2 % 4503599627370495 = d at *
  generalize t % 2 = sg at *
  have hf : ∃ z, (z = 0 ∨ z = 1) ∧ u = z * 9223372036854775808 + (9218868437227405312 + (1 + d)) := ⟨sg, hs, by omega⟩
  clear hu hs
  obtain ⟨z, hz, hu⟩ := hf
  have h1 : u < 18446744073709551616 := by omega
  have h2 : expo u = 2047 := by unfold expo; rcases hz with rfl | rfl <;> omega
  have hr : 9218868437227405312 < rung u := by unfold rung; rcases hz with rfl | rfl <;> omega
  have hl : rung u < f64.signWeight := by rw [sgn64]; unfold rung; omega
  refine ⟨h1, h2, fun z => ?_, fun z => ?_⟩
  · have e := fl_read_word f64 (sneg u) (rung u) hl
    rw [word_self u h1, bin64, inf64, if_neg (by omega), if_neg (by omega), if_neg (by omega)] at e
    exact order_nan e z
  · have e := fl_read_word f64 false (rung u) hl
    rw [show f64.word false (rung u) = rung u from abs_rung u, bin64, inf64, if_neg (by omega), if_neg (by omega), if_neg (by omega)] at e
    exact order_nan e z

/-- An operation without a value: a word drawn that is no number. -/
theorem run_nan (op : BinOp) (hop : op = .add ∨ op = .sub ∨ op = .mul ∨ op = .quo) (x y : Nat) (h : floatBits op .f64 x y = none) :
    ∃ nb : World → Nat, (∀ w, (binOp op 28 (.float .f64 x) (.float .f64 y)).run Try.prog w = .ok (.float .f64 (nb w)) w.drew) ∧ ∀ w, nb w < 18446744073709551616 ∧ expo (nb w) = 2047 ∧ (∀ z, FloatKind.f64.format.order (nb w) z = none) ∧ ∀ z, FloatKind.f64.format.order (nb w % 9223372036854775808) z = none := by
  refine ⟨fun w => (Question.nanBits .f64 x y).cut (w.tape w.drawn (.nanBits .f64 x y)), ?_, fun w => nan_cut x y _ _ rfl⟩
  intro w
  unfold floatBits at h
  rcases hop with rfl | rfl | rfl | rfl <;> simp only at h <;> simp [binOp, Op.floatArith, h, Question.forced]

theorem mul_lt {x y p : Nat} (h : floatBits .mul .f64 x y = some p) : p < 18446744073709551616 := FloatKind.f64.format.mul_lt h

set_option maxHeartbeats 400000 in
theorem s_tf_nan (x : Nat) (w : World) (h : floatBits .mul .f64 x 4652007308841189376 = none) :
    Calls Try.prog 21 #[.float .f64 x] w fun e w' => e = .returned (.tuple #[.int .i64 0, .bool false]) ∧ w' = w.drew := by
  obtain ⟨nb, hq, hn⟩ := run_nan .mul (by simp) x _ h
  have o1 := fun w => (hn w).2.2.1 13965043853225361408
  clear hn h
  go_enter Try.func21, Try.ntmps21
  go_wp2
  go_ret2
  exact ⟨rfl, rfl⟩
set_option maxHeartbeats 400000 in
theorem s_tf_low (x p : Nat) (w : World) (hm : floatBits .mul .f64 x 4652007308841189376 = some p) (o1 : (FloatKind.f64.format.order p 13965043853225361408 == some .gt) = false) :
    Calls Try.prog 21 #[.float .f64 x] w fun e w' => e = .returned (.tuple #[.int .i64 0, .bool false]) ∧ w' = w := by
  have hq := fun w => run_float_arith (P := Try.prog) w .mul 28 .f64 _ _ p hm
  clear hm
  go_enter Try.func21, Try.ntmps21
  go_wp2
  go_ret2
  exact ⟨rfl, rfl⟩
set_option maxHeartbeats 400000 in
theorem s_tf_high (x p : Nat) (w : World) (hm : floatBits .mul .f64 x 4652007308841189376 = some p) (o1 : FloatKind.f64.format.order p 13965043853225361408 = some .gt) (o2 : (FloatKind.f64.format.order p 4741671816370585600 == some .lt) = false) :
    Calls Try.prog 21 #[.float .f64 x] w fun e w' => e = .returned (.tuple #[.int .i64 0, .bool false]) ∧ w' = w := by
  have hq := fun w => run_float_arith (P := Try.prog) w .mul 28 .f64 _ _ p hm
  clear hm
  go_enter Try.func21, Try.ntmps21
  go_wp2
  go_ret2
  exact ⟨rfl, rfl⟩

set_option maxHeartbeats 400000 in
theorem s_tf_in (x p f : Nat) (n k : Int) (w : World) (hm : floatBits .mul .f64 x 4652007308841189376 = some p) (o1 : FloatKind.f64.format.order p 13965043853225361408 = some .gt) (o2 : FloatKind.f64.format.order p 4741671816370585600 = some .lt)
    (hc : floatToIntVal .f64 p .i64 = some n) (h0 : -1000000000 ≤ n) (h1 : n ≤ 1000000000) (hs : floatBits .sub .f64 p (floatOfInt .f64 n) = some f)
    (hk : ((FloatKind.f64.format.order f 4602678819172646912 = some .gt ∨ FloatKind.f64.format.order f 4602678819172646912 = some .eq) ∧ FloatKind.f64.format.order f 13826050856027422720 = some .gt ∧ k = n + 1)
      ∨ (FloatKind.f64.format.order f 4602678819172646912 = some .lt ∧ (FloatKind.f64.format.order f 13826050856027422720 = some .lt ∨ FloatKind.f64.format.order f 13826050856027422720 = some .eq) ∧ k = n - 1)
      ∨ (FloatKind.f64.format.order f 4602678819172646912 = some .lt ∧ FloatKind.f64.format.order f 13826050856027422720 = some .gt ∧ k = n)) :
    Calls Try.prog 21 #[.float .f64 x] w fun e w' => e = .returned (.tuple #[.int .i64 k, .bool true]) ∧ w' = w := by
  have hq := fun w => run_float_arith (P := Try.prog) w .mul 28 .f64 _ _ p hm
  have hv := fun w => run_convert_float_int (P := Try.prog) w 28 3 .f64 .i64 p n (by rw [Try.underlying28]; rfl) Try.underlying3 hc
  have hb := fun w => run_float_arith (P := Try.prog) w .sub 28 .f64 _ _ f hs
  clear hm hc hs
  rcases hk with ⟨h | h, h', rfl⟩ | ⟨h, h' | h', rfl⟩ | ⟨h, h', rfl⟩
  all_goals
    go_enter Try.func21, Try.ntmps21
    go_wp2
    go_ret2
    exact ⟨rfl, rfl⟩

set_option maxHeartbeats 400000 in
theorem i_tf_nan (x : Nat) (w : World) (h : floatBits .mul .f64 x 4652007308841189376 = none) :
    Calls Try.prog 15 #[.float .f64 x] w fun e w' => e = .returned (.tuple #[.int .i64 0, .bool false]) ∧ w' = w.drew := by
  obtain ⟨nb, hq, hn⟩ := run_nan .mul (by simp) x _ h
  have hl := fun w => (hn w).1
  have hw : ∀ w, rndW (nb w) = nb w := fun w => rndW_full (hn w).2.1
  have o1 : ∀ w, FloatKind.f64.format.order (nb w % 9223372036854775808) 4741671816366391296 = none := fun w => (hn w).2.2.2 _
  clear hn h
  go_enter Try.func15, Try.ntmps15
  go_wp2_with (first
    | (go_at_call 30; ((with_reducible refine (rnd_any _ _ (hl _)).mono ?_); rintro e w' ⟨rfl, rfl⟩; rw [hw]))
    | (go_at_call 31; ((with_reducible refine (abs_any _ _ (hl _)).mono ?_); rintro e w' ⟨rfl, rfl⟩)))
  go_ret2
  exact ⟨rfl, rfl⟩
set_option maxHeartbeats 400000 in
theorem i_tf_out (x p : Nat) (w : World) (hm : floatBits .mul .f64 x 4652007308841189376 = some p) (hy : rndW p < 18446744073709551616) (o1 : FloatKind.f64.format.order (rndW p % 9223372036854775808) 4741671816366391296 = some .gt ∨ FloatKind.f64.format.order (rndW p % 9223372036854775808) 4741671816366391296 = none) :
    Calls Try.prog 15 #[.float .f64 x] w fun e w' => e = .returned (.tuple #[.int .i64 0, .bool false]) ∧ w' = w := by
  have hp := mul_lt hm
  have hq := fun w => run_float_arith (P := Try.prog) w .mul 28 .f64 _ _ p hm
  clear hm
  rcases o1 with o1 | o1
  all_goals
    go_enter Try.func15, Try.ntmps15
    go_wp2_with (first
      | (go_at_call 30; ((with_reducible refine (rnd_any _ _ hp).mono ?_); rintro e w' ⟨rfl, rfl⟩))
      | (go_at_call 31; ((with_reducible refine (abs_any _ _ hy).mono ?_); rintro e w' ⟨rfl, rfl⟩)))
    go_ret2
    exact ⟨rfl, rfl⟩
set_option maxHeartbeats 400000 in
theorem i_tf_in (x p : Nat) (k : Int) (w : World) (hm : floatBits .mul .f64 x 4652007308841189376 = some p) (hy : rndW p < 18446744073709551616) (o1 : FloatKind.f64.format.order (rndW p % 9223372036854775808) 4741671816366391296 = some .lt ∨ FloatKind.f64.format.order (rndW p % 9223372036854775808) 4741671816366391296 = some .eq)
    (hc : floatToIntVal .f64 (rndW p) .i64 = some k) :
    Calls Try.prog 15 #[.float .f64 x] w fun e w' => e = .returned (.tuple #[.int .i64 k, .bool true]) ∧ w' = w := by
  have hp := mul_lt hm
  have hq := fun w => run_float_arith (P := Try.prog) w .mul 28 .f64 _ _ p hm
  have hv := fun w => run_convert_float_int (P := Try.prog) w 28 3 .f64 .i64 _ k (by rw [Try.underlying28]; rfl) Try.underlying3 hc
  clear hm hc
  rcases o1 with o1 | o1
  all_goals
    go_enter Try.func15, Try.ntmps15
    go_wp2_with (first
      | (go_at_call 30; ((with_reducible refine (rnd_any _ _ hp).mono ?_); rintro e w' ⟨rfl, rfl⟩))
      | (go_at_call 31; ((with_reducible refine (abs_any _ _ hy).mono ?_); rintro e w' ⟨rfl, rfl⟩)))
    go_ret2
    exact ⟨rfl, rfl⟩
end Go.Proofs.Ytciebalkfeoabaa
