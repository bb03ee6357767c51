/- The law FnFewest, walked. -/
import Derived.Test.YtlliiecdadiagaaLqC
import Derived.Test.YtlliiecdadiagaaLpX
import Derived.Test.YtlliiecdadiagaaLrG
namespace Go.Proofs.Ytlliiecdadiagaa
open Go.RowKit
set_option linter.unusedVariables false

theorem w_FnFewest (a0 : Option Addr) (len cap : Nat) (zs : List Int) (w : World) (hr : IsRow .u8 w a0 len cap zs) :
    Calls Try.prog 3 #[.slice a0 len cap] w fun e w' => e = .returned (.bool true) ∧ Below w.heap.size w w' := wo_FnFewest (fun w len cap A h => d_planS (fun w B g len cap A hc => d_sails w B g len cap A hc) w len cap A h) (fun f ms A g o n cap TA tg tO nm tcap w a1 a2 a3 a4 a5 a6 b6 a7 a8 a9 => i_few f ms A g o n cap TA tg tO nm tcap w a1 a2 a3 a4 a5 a6 b6 a7 a8 a9) (fun f ms p A g o n cap TA tg tO nm tcap PA pg pO np pcap w a1 a2 a3 a4 a5 a6 a7 a8 a9 b1 b2 b3 => i_plan f ms p A g o n cap TA tg tO nm tcap PA pg pO np pcap w a1 a2 a3 a4 a5 a6 a7 a8 a9 b1 b2 b3) (fun p PA pg pO np pcap w a b c => i_chg p PA pg pO np pcap w a b c) a0 len cap zs w hr
end Go.Proofs.Ytlliiecdadiagaa
