/- The law FnFitsBoth, walked. -/
import Derived.Test.YtlliiecdadiagaaLpZ
import Derived.Test.YtlliiecdadiagaaLpX
import Derived.Test.YtlliiecdadiagaaLrD
namespace Go.Proofs.Ytlliiecdadiagaa
open Go.RowKit
set_option linter.unusedVariables false

theorem w_FnFitsBoth (a0 : Option Addr) (len cap : Nat) (zs : List Int) (w : World) (hr : IsRow .u8 w a0 len cap zs) :
    Calls Try.prog 5 #[.slice a0 len cap] w fun e w' => e = .returned (.bool true) ∧ Below w.heap.size w w' := wo_FnFitsBoth (fun w B g len cap A hc => d_sails w B g len cap A hc) (fun f A g o n cap w a b c d e => i_so f A g o n cap w a b c d e) (fun f m A g o n cap w a b c d e h => i_best f m A g o n cap w a b c d e h) (fun s m w a b => i_fit s m w a b) (fun s m w a b => i_wide s m w a b) a0 len cap zs w hr
end Go.Proofs.Ytlliiecdadiagaa
