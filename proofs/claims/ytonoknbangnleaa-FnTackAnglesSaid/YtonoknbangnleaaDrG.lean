/- The drawing of degrees: l02Degrees, DrawBetween, DrawAside, DrawTurn; the walk of the law FnBetweenAside. -/
import Derived.Test.YtonoknbangnleaaDr2
import Derived.Test.YtonoknbangnleaaDeg
namespace Go.Proofs.Ytonoknbangnleaa
open Go.RowKit

theorem tdiv_two (x : Int) (x0 : -9223372036854775808 ≤ x) (x1 : x ≤ 9223372036854775807) : -4611686018427387904 ≤ x.tdiv 2 ∧ x.tdiv 2 ≤ 4611686018427387903 := by
  rcases Int.le_total 0 x with h | h
  · rw [Int.tdiv_eq_ediv_of_nonneg h]; omega
  · obtain ⟨m, rfl⟩ : ∃ m, x = -m := ⟨-x, by omega⟩
    rw [Int.neg_tdiv, Int.tdiv_eq_ediv_of_nonneg (by omega)]; omega

set_option maxRecDepth 100000 in
set_option maxHeartbeats 1000000 in
theorem d_degrees (w : World) (B g len cap : Nat) (A : Option Addr) (hc : Cur w B g A len cap) :
    Calls Try.prog 43 #[.pointer (some ⟨g, 0, none⟩)] w fun e w' => ∃ x : Int, -4611686018427390000 ≤ x ∧ x ≤ 4611686018427390000 ∧ e = .returned (.int .i64 x) ∧ Cur w' B g A len cap ∧ w.grownBy w' (some g) := by
  go_enter Try.func43, Try.ntmps43
  go_wp2_with fail
  refine (d_once _ _ _ g len cap A hc (by omega)).mono ?_
  rintro e w1 ⟨t, rfl, cur1, gr1⟩
  cases t
  · go_wp2_with fail
    refine (d_below _ _ _ g len cap A cur1 (by omega)).mono ?_
    rintro e w2 ⟨x, x0, x1, x2, rfl, cur2, gr2⟩
    have x3 := x1 (by omega)
    clear x1 x2
    go_wp2
    go_ret
    exact ⟨x, by omega, by omega, rfl, cur2, grown_trans gr1 gr2⟩
  · go_wp2_with fail
    refine (d_number _ _ g len cap A cur1).mono ?_
    rintro e w2 ⟨x, x0, x1, rfl, cur2, gr2⟩
    obtain ⟨y0, y1⟩ := tdiv_two x x0 x1
    go_wp2
    go_ret
    exact ⟨x.tdiv 2 - 200, by omega, by omega, rfl, cur2, grown_trans gr1 gr2⟩

end Go.Proofs.Ytonoknbangnleaa
