/- The walks of spec.FromFixed and impl.FromFixed, and of the law FnExactFromFixed. -/
import Derived.Test.YtciebalkfeoabaaRows
import Derived.Test.YtciebalkfeoabaaFl
import Derived.Test.YtciebalkfeoabaaSame
import Derived.WalkKit
import Derived.WalkLawsBesides
import Derived.Lib.Hide
namespace Go.Proofs.Ytciebalkfeoabaa
open Go.RowKit

/-- The float of a number of thousandths. -/
def fromBits (n : Int) : Nat := if -1000000000 ≤ n ∧ n ≤ 1000000000 then (FloatKind.f64.format.div (floatOfInt .f64 n) 4652007308841189376).getD 0 else 0
theorem from_some (n : Int) : ∃ r, FloatKind.f64.format.div (floatOfInt .f64 n) 4652007308841189376 = some r :=
  fl_div_some _ _ _ (fl_nearest_nan _ _ _ _) (s := false) (m := 8796093022208000) (i := -43) (by kernel_rfl) (by omega)

set_option maxHeartbeats 400000 in
theorem s_from (n : Int) (w : World) :
    Calls Try.prog 22 #[.int .i64 n] w fun e w' => e = .returned (.float .f64 (fromBits n)) ∧ w = w' := by
  by_cases h1 : -1000000000 ≤ n
  · by_cases h2 : n ≤ 1000000000
    · obtain ⟨r, hr⟩ := from_some n
      rw [show fromBits n = r by unfold fromBits; rw [if_pos ⟨h1, h2⟩, hr]; rfl]
      have hq := fun w => run_float_arith (P := Try.prog) w .quo 28 .f64 _ _ r hr
      clear hr
      go_enter Try.func22, Try.ntmps22
      go_wp2
      go_ret
      exact ⟨rfl, rfl⟩
    · rw [show fromBits n = 0 by unfold fromBits; rw [if_neg (by omega)]]
      go_enter Try.func22, Try.ntmps22
      go_wp2
      go_ret
      exact ⟨rfl, rfl⟩
  · rw [show fromBits n = 0 by unfold fromBits; rw [if_neg (by omega)]]
    go_enter Try.func22, Try.ntmps22
    go_wp2
    go_ret
    exact ⟨rfl, rfl⟩

set_option maxHeartbeats 400000 in
theorem i_from (n : Int) (w : World) :
    Calls Try.prog 14 #[.int .i64 n] w fun e w' => e = .returned (.float .f64 (fromBits n)) ∧ w = w' := by
  by_cases h1 : -1000000000 ≤ n
  · by_cases h2 : n ≤ 1000000000
    · obtain ⟨r, hr⟩ := from_some n
      rw [show fromBits n = r by unfold fromBits; rw [if_pos ⟨h1, h2⟩, hr]; rfl]
      have hq := fun w => run_float_arith (P := Try.prog) w .quo 28 .f64 _ _ r hr
      clear hr
      go_enter Try.func14, Try.ntmps14
      go_wp2
      go_ret
      exact ⟨rfl, rfl⟩
    · rw [show fromBits n = 0 by unfold fromBits; rw [if_neg (by omega)]]
      go_enter Try.func14, Try.ntmps14
      go_wp2
      go_ret
      exact ⟨rfl, rfl⟩
  · rw [show fromBits n = 0 by unfold fromBits; rw [if_neg (by omega)]]
    go_enter Try.func14, Try.ntmps14
    go_wp2
    go_ret
    exact ⟨rfl, rfl⟩

set_option maxHeartbeats 400000 in
theorem w_FnExactFromFixed (n : Int) (w : World) (_ : (Lit.int .i64 n).wf = true) :
    Calls Try.prog 9 #[.int .i64 n] w fun e w' => e = .returned (.bool true) ∧ Below w.heap.size w w' := by
  go_enter Try.func9, Try.ntmps9
  go_wp2_with (first
    | (go_at_call 22; ((with_reducible refine (s_from _ _).mono ?_); rintro e w' ⟨rfl, rfl⟩))
    | (go_at_call 14; ((with_reducible refine (i_from _ _).mono ?_); rintro e w' ⟨rfl, rfl⟩))
    | (go_at_call 23; ((with_reducible refine (same_float _ _).mono ?_); rintro e w' ⟨rfl, rfl⟩)))
  go_ret
  exact ⟨rfl, Below.refl _ _⟩
end Go.Proofs.Ytciebalkfeoabaa
