/- The law FnKept, walked. -/
import Derived.Test.YtlliiecdadiagaaLqA
import Derived.Test.YtlliiecdadiagaaLpX
import Derived.Test.YtlliiecdadiagaaLrE
namespace Go.Proofs.Ytlliiecdadiagaa
open Go.RowKit
set_option linter.unusedVariables false

theorem w_FnKept (a0 : Option Addr) (len cap : Nat) (zs : List Int) (w : World) (hr : IsRow .u8 w a0 len cap zs) :
    Calls Try.prog 4 #[.slice a0 len cap] w fun e w' => e = .returned (.bool true) ∧ Below w.heap.size w w' := wo_FnKept (fun w B g len cap A hc => d_sails w B g len cap A hc) (fun f m A g o n cap w a b c d e h => i_best f m A g o n cap w a b c d e h) (fun s m w a b => i_wide s m w a b) (fun f a ms A g o n cap TA tg tO nm tcap w a1 a2 a3 a4 a5 a6 a7 a8 a9 => i_run f a ms A g o n cap TA tg tO nm tcap w a1 a2 a3 a4 a5 a6 a7 a8 a9) a0 len cap zs w hr
end Go.Proofs.Ytlliiecdadiagaa
