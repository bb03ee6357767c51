/- The walk of the law FnExactSplitFields. -/
import Derived.Test.YtbjaedmifacgaaaDoorFlds2
namespace Go.Proofs.YtbjaedmifacgaaaDoor
open Go.RowKit

set_option maxRecDepth 100000 in
set_option maxHeartbeats 1000000 in
theorem s_sp (s : ByteArray) (w : World) (hs : s.size ≤ 1048576) :
    Calls Tryd.prog 7 #[.string s] w fun e w' => SpOutS s w' e ∧ Below w.heap.size w w' := by
  by_cases h6 : s.size ≤ 600
  · exact s_sp_loop s w h6
  · have HS := Lib.hid (show ¬ spOk s from fun h => h6 h.1)
    go_enter Tryd.func7, Tryd.ntmps7
    go_wp2
    go_ret2
    exact ⟨SpOutS.no HS.out _ _ _, (Below.refl _ _).alloc (Nat.le_refl _) _⟩


abbrev Tabs_FnExactSplitFields (w : World) : Prop := TabS w
end Go.Proofs.YtbjaedmifacgaaaDoor
