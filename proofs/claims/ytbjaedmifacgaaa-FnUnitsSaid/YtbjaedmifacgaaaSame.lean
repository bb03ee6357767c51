/- The walk of laws.sameFloat at one and the same float. -/
import Derived.Test.YtbjaedmifacgaaaRows
import Derived.Test.YtbjaedmifacgaaaFl
import Derived.WalkKit
import Derived.WalkLawsBesides
import Derived.Lib.Hide
namespace Go.Proofs.Ytbjaedmifacgaaa
open Go.RowKit

set_option maxHeartbeats 400000 in
theorem same_float (x : Nat) (w : World) :
    Calls Try.prog 31 #[.float .f64 x, .float .f64 x] w fun e w' => e = .returned (.bool true) ∧ w = w' := by
  have hs := fl_order_self FloatKind.f64.format x
  by_cases hn : (FloatKind.f64.format.read x).isNaN = true
  · rw [if_pos hn] at hs
    clear hn
    go_enter Try.func31, Try.ntmps31
    go_wp2
    go_ret
    exact ⟨rfl, rfl⟩
  · rw [if_neg hn] at hs
    clear hn
    by_cases hz : (FloatKind.f64.format.order x 0 == some .eq) = true
    · obtain ⟨t, j, hx⟩ := fl_order_zero (f := FloatKind.f64.format) (x := x) (z := 0) (s := false) (i := -1074) (by kernel_rfl) (by simpa using hz)
      obtain ⟨r, hr⟩ := fl_div_zero_some (f := FloatKind.f64.format) (x := 4607182418800017408) (y := x) (s := false) (m := 4503599627370496) (i := -52) (by kernel_rfl) (by omega) hx
      have hq := fun w => run_float_arith (P := Try.prog) w .quo 26 .f64 4607182418800017408 x r hr
      clear hx hr
      go_enter Try.func31, Try.ntmps31
      go_wp2
      go_ret
      exact ⟨rfl, rfl⟩
    · have hz' : (FloatKind.f64.format.order x 0 == some .eq) = false := by simpa using hz
      clear hz
      go_enter Try.func31, Try.ntmps31
      go_wp2
      go_ret
      exact ⟨rfl, rfl⟩
end Go.Proofs.Ytbjaedmifacgaaa
