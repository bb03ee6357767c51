/- The laws FnExactFits, FnExactFitsWide, walked. -/
import Derived.Test.YtlliiecdadiagaaLpO
import Derived.Test.YtlliiecdadiagaaLrB
namespace Go.Proofs.Ytlliiecdadiagaa
open Go.RowKit
set_option linter.unusedVariables false

theorem w_FnExactFits (s : Sl) (m : Mm) (w : World) (hs1 : SlWf s) (hm1 : MmWf m) :
    Calls Try.prog 7 #[.agg #[.string s.nm, .float .f32 s.lo, .float .f32 s.hi, .int .i64 s.fr, .int .i64 s.to], .agg #[.float .f32 m.1, .int .i64 m.2]] w fun e w' => e = .returned (.bool true) ∧ Below w.heap.size w w' := wo_FnExactFits (fun s m w a b => i_fit s m w a b) s m w hs1 hm1
theorem w_FnExactFitsWide (s : Sl) (m : Mm) (w : World) (hs1 : SlWf s) (hm1 : MmWf m) :
    Calls Try.prog 8 #[.agg #[.string s.nm, .float .f32 s.lo, .float .f32 s.hi, .int .i64 s.fr, .int .i64 s.to], .agg #[.float .f32 m.1, .int .i64 m.2]] w fun e w' => e = .returned (.bool true) ∧ Below w.heap.size w w' := wo_FnExactFitsWide (fun s m w a b => i_wide s m w a b) s m w hs1 hm1
end Go.Proofs.Ytlliiecdadiagaa
