/- The law FnNodesNear, walked. -/
import Derived.Test.YtibkhmdnfloemaaMaF
import Derived.Test.YtibkhmdnfloemaaMbD
namespace Go.Proofs.Ytibkhmdnfloemaa
open Go.RowKit
set_option linter.unusedVariables false

theorem w_FnNodesNear (a0 : Option Addr) (len cap : Nat) (zs : List Int) (w : World) (hr : IsRow .u8 w a0 len cap zs) :
    Calls Try.prog 3 #[.slice a0 len cap] w fun e w' => e = .returned (.bool true) ∧ Below w.heap.size w w' := wo_FnNodesNear (fun F n w hw h _ => i_natV F n w hw h) (fun F n t w hw h _ _ => i_wnaV F n t w hw h) (fun F k w hw h hF hk => i_near12 F k w hw h hF hk) a0 len cap zs w hr
end Go.Proofs.Ytibkhmdnfloemaa
