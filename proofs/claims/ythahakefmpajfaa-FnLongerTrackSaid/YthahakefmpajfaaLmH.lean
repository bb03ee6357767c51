/- The walk of FnLongerTrack, with the contracts of the program's functions. -/
import Derived.Test.YthahakefmpajfaaLmD
import Derived.Test.YthahakefmpajfaaLkS
namespace Go.Proofs.Ythahakefmpajfaa
open Go.RowKit
set_option linter.unusedVariables false

theorem w_FnLongerTrack (a0 : Option Addr) (len cap : Nat) (zs : List Int) (w : World) (hr : IsRow .u8 w a0 len cap zs) :
    Calls Try.prog 4 #[.slice a0 len cap] w fun e w' => e = .returned (.bool true) ∧ Below w.heap.size w w' := wo_FnLongerTrack i_ro a0 len cap zs w hr
end Go.Proofs.Ythahakefmpajfaa
