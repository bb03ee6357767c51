/- The law FnExactFewestChanges, walked. -/
import Derived.Test.YtlliiecdadiagaaLpT
import Derived.Test.YtlliiecdadiagaaLrG
namespace Go.Proofs.Ytlliiecdadiagaa
open Go.RowKit
set_option linter.unusedVariables false

theorem w_FnExactFewestChanges (x : Option Addr × Nat × Nat × (Nat → Sl)) (y : Option Addr × Nat × Nat × (Nat → Mm)) (w : World) (hx : SlsArg w x.1 x.2.1 x.2.2.2) (hy : MmsArg w y.1 y.2.1 y.2.2.2) :
    Calls Try.prog 14 #[.slice x.1 x.2.1 x.2.2.1, .slice y.1 y.2.1 y.2.2.1] w fun e w' => e = .returned (.bool true) ∧ Below w.heap.size w w' := wo_FnExactFewestChanges (fun f ms A g o n cap TA tg tO nm tcap w a1 a2 a3 a4 a5 a6 b6 a7 a8 a9 => i_few f ms A g o n cap TA tg tO nm tcap w a1 a2 a3 a4 a5 a6 b6 a7 a8 a9) x y w hx hy
end Go.Proofs.Ytlliiecdadiagaa
