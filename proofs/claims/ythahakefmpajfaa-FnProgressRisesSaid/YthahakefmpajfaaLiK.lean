/- The drawing of what is asked of starts: DrawStartTime. -/
import Derived.Test.YthahakefmpajfaaLiJ
namespace Go.Proofs.Ythahakefmpajfaa
open Go.RowKit
set_option linter.unusedVariables false
set_option linter.unusedSimpArgs false

end Go.Proofs.Ythahakefmpajfaa
