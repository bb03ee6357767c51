/- The laws FnExactRunSails, FnExactPlanOk, FnExactChanges, walked. -/
import Derived.Test.YtlliiecdadiagaaLpS
import Derived.Test.YtlliiecdadiagaaLrE
namespace Go.Proofs.Ytlliiecdadiagaa
open Go.RowKit
set_option linter.unusedVariables false

theorem w_FnExactChanges (PA : Option Addr) (np pcap : Nat) (zs : List Int) (w : World) (hx : IsRow .i64 w PA np pcap zs) :
    Calls Try.prog 13 #[.slice PA np pcap] w fun e w' => e = .returned (.bool true) ∧ Below w.heap.size w w' := wo_FnExactChanges (fun p PA pg pO np pcap w a b c => i_chg p PA pg pO np pcap w a b c) PA np pcap zs w hx
theorem w_FnExactPlanOk (x : Option Addr × Nat × Nat × (Nat → Sl)) (y : Option Addr × Nat × Nat × (Nat → Mm)) (PA : Option Addr) (np pcap : Nat) (zs : List Int) (w : World) (hx : SlsArg w x.1 x.2.1 x.2.2.2) (hy : MmsArg w y.1 y.2.1 y.2.2.2) (hz : IsRow .i64 w PA np pcap zs) :
    Calls Try.prog 12 #[.slice x.1 x.2.1 x.2.2.1, .slice y.1 y.2.1 y.2.2.1, .slice PA np pcap] w fun e w' => e = .returned (.bool true) ∧ Below w.heap.size w w' := wo_FnExactPlanOk (fun f ms p A g o n cap TA tg tO nm tcap PA pg pO np pcap w a1 a2 a3 a4 a5 a6 a7 a8 a9 b1 b2 b3 => i_plan f ms p A g o n cap TA tg tO nm tcap PA pg pO np pcap w a1 a2 a3 a4 a5 a6 a7 a8 a9 b1 b2 b3) x y PA np pcap zs w hx hy hz
theorem w_FnExactRunSails (x : Option Addr × Nat × Nat × (Nat → Sl)) (a : Int) (y : Option Addr × Nat × Nat × (Nat → Mm)) (w : World) (hx : SlsArg w x.1 x.2.1 x.2.2.2) (h_5 : (Lit.int .i64 a).wf = true) (hy : MmsArg w y.1 y.2.1 y.2.2.2) :
    Calls Try.prog 11 #[.slice x.1 x.2.1 x.2.2.1, .int .i64 a, .slice y.1 y.2.1 y.2.2.1] w fun e w' => e = .returned (.bool true) ∧ Below w.heap.size w w' := wo_FnExactRunSails (fun f a ms A g o n cap TA tg tO nm tcap w a1 a2 a3 a4 a5 a6 a7 a8 a9 => i_run f a ms A g o n cap TA tg tO nm tcap w a1 a2 a3 a4 a5 a6 a7 a8 a9) x a y w hx h_5 hy
end Go.Proofs.Ytlliiecdadiagaa
