/- The walks of spec.Clamp and impl.Clamp, and of the law FnExactClamp. -/
import Derived.Test.YtlliiecdadiagaaRows
import Derived.WalkKit
import Derived.WalkLawsBesides
import Derived.Lib.Hide
namespace Go.Proofs.Ytlliiecdadiagaa
open Go.RowKit

def clampOf (n a b : Int) : Int := if b < a ∨ n < a then a else if b < n then b else n

set_option maxHeartbeats 400000 in
theorem s_clamp (n a b : Int) (w : World) :
    Calls Try.prog 77 #[.int .i64 n, .int .i64 a, .int .i64 b] w fun e w' => e = .returned (.int .i64 (clampOf n a b)) ∧ w = w' := by
  by_cases h1 : b < a
  · rw [show clampOf n a b = a by unfold clampOf; rw [if_pos (Or.inl h1)]]
    go_enter Try.func77, Try.ntmps77
    go_wp2
    go_ret
    exact ⟨rfl, rfl⟩
  · by_cases h2 : n < a
    · rw [show clampOf n a b = a by unfold clampOf; rw [if_pos (Or.inr h2)]]
      go_enter Try.func77, Try.ntmps77
      go_wp2
      go_ret
      exact ⟨rfl, rfl⟩
    · by_cases h3 : b < n
      · rw [show clampOf n a b = b by unfold clampOf; rw [if_neg (by omega), if_pos h3]]
        go_enter Try.func77, Try.ntmps77
        go_wp2
        go_ret
        exact ⟨rfl, rfl⟩
      · rw [show clampOf n a b = n by unfold clampOf; rw [if_neg (by omega), if_neg h3]]
        go_enter Try.func77, Try.ntmps77
        go_wp2
        go_ret
        exact ⟨rfl, rfl⟩

theorem ret_i64 {a b : Int} (h : a = b) : Ending.returned (.int .i64 a) = .returned (.int .i64 b) := by rw [h]


end Go.Proofs.Ytlliiecdadiagaa
