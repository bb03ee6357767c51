/- The drawing of degrees: l02Degrees, DrawBetween, DrawAside, DrawTurn; the walk of the law FnBetweenAside. -/
import Derived.Test.YtibkhmdnfloemaaDr2
import Derived.Test.YtibkhmdnfloemaaDeg
namespace Go.Proofs.Ytibkhmdnfloemaa
open Go.RowKit

theorem tdiv_two (x : Int) (x0 : -9223372036854775808 ≤ x) (x1 : x ≤ 9223372036854775807) : -4611686018427387904 ≤ x.tdiv 2 ∧ x.tdiv 2 ≤ 4611686018427387903 := by
  rcases Int.le_total 0 x with h | h
  · rw [Int.tdiv_eq_ediv_of_nonneg h]; omega
  · obtain ⟨m, rfl⟩ : ∃ m, x = -m := ⟨-x, by omega⟩
    rw [Int.neg_tdiv, Int.tdiv_eq_ediv_of_nonneg (by omega)]; omega


end Go.Proofs.Ytibkhmdnfloemaa
