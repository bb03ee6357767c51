/- The laws FnExactSailsOk, FnExactBestSail, FnExactKeepSail, walked. -/
import Derived.Test.YtlliiecdadiagaaLpQ
import Derived.Test.YtlliiecdadiagaaLrD
namespace Go.Proofs.Ytlliiecdadiagaa
open Go.RowKit
set_option linter.unusedVariables false

theorem w_FnExactSailsOk (x : Option Addr × Nat × Nat × (Nat → Sl)) (w : World) (hx : SlsArg w x.1 x.2.1 x.2.2.2) :
    Calls Try.prog 6 #[.slice x.1 x.2.1 x.2.2.1] w fun e w' => e = .returned (.bool true) ∧ Below w.heap.size w w' := wo_FnExactSailsOk (fun f A g o n cap w hn hc hA hw hf => i_so f A g o n cap w hn hc hA hw hf) x w hx
theorem w_FnExactBestSail (x : Option Addr × Nat × Nat × (Nat → Sl)) (m : Mm) (w : World) (hx : SlsArg w x.1 x.2.1 x.2.2.2) (hm : MmWf m) :
    Calls Try.prog 9 #[.slice x.1 x.2.1 x.2.2.1, .agg #[.float .f32 m.1, .int .i64 m.2]] w fun e w' => e = .returned (.bool true) ∧ Below w.heap.size w w' := wo_FnExactBestSail (fun f m A g o n cap w hn hc hA hw hf hm => i_best f m A g o n cap w hn hc hA hw hf hm) x m w hx hm
theorem w_FnExactKeepSail (x : Option Addr × Nat × Nat × (Nat → Sl)) (a : Int) (m : Mm) (w : World) (hx : SlsArg w x.1 x.2.1 x.2.2.2) (h_5 : (Lit.int .i64 a).wf = true) (hm : MmWf m) :
    Calls Try.prog 10 #[.slice x.1 x.2.1 x.2.2.1, .int .i64 a, .agg #[.float .f32 m.1, .int .i64 m.2]] w fun e w' => e = .returned (.bool true) ∧ Below w.heap.size w w' := wo_FnExactKeepSail (fun f a m A g o n cap w hn hc hA hw hf hm => i_keep f a m A g o n cap w hn hc hA hw hf hm) x a m w hx h_5 hm
end Go.Proofs.Ytlliiecdadiagaa
