/- The walk of FnProgressRises, with the contracts of the program's functions. -/
import Derived.Test.YthahakefmpajfaaLmE
import Derived.Test.YthahakefmpajfaaLkT
namespace Go.Proofs.Ythahakefmpajfaa
open Go.RowKit
set_option linter.unusedVariables false

theorem w_FnProgressRises (a0 : Option Addr) (len cap : Nat) (zs : List Int) (w : World) (hr : IsRow .u8 w a0 len cap zs) :
    Calls Try.prog 5 #[.slice a0 len cap] w fun e w' => e = .returned (.bool true) ∧ Below w.heap.size w w' := wo_FnProgressRises i_ro i_pg a0 len cap zs w hr
end Go.Proofs.Ythahakefmpajfaa
