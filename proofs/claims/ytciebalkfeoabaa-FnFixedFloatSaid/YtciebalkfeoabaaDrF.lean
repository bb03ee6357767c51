/- The walk of spec.DrawFormatFixed. -/
import Derived.Test.YtciebalkfeoabaaDr2
namespace Go.Proofs.Ytciebalkfeoabaa
open Go.RowKit

set_option maxRecDepth 100000 in
set_option maxHeartbeats 1000000 in
theorem d_fmtfix (w : World) (len cap : Nat) (A : Option Addr) (hcode : Code w w.heap.size A len) :
    Calls Try.prog 28 #[.slice A len cap] w fun e w' => ∃ n : Int, -9223372036854775808 ≤ n ∧ n ≤ 9223372036854775807 ∧ e = .returned (.int .i64 n) ∧ Below w.heap.size w w' := by
  go_enter Try.func28, Try.ntmps28
  go_wp2_with fail
  refine (d_new w w.heap.size len cap A (Nat.le_refl _) hcode).mono ?_
  rintro e w1 ⟨g, rfl, cur1, b1⟩
  go_wp2_with fail
  refine (d_below _ _ _ g len cap A cur1 (by omega)).mono ?_
  rintro e w2 ⟨x, x0, x1, x2, rfl, cur2, gr2⟩
  have x3 := x1 (by omega)
  clear x1 x2
  have b2 := below_cur b1 (Nat.le_refl _) gr2 cur2.1
  by_cases hx0 : x = 0
  · subst hx0
    go_wp2_with fail
    refine (d_number _ _ g len cap A cur2).mono ?_
    rintro e w3 ⟨y, y0, y1, rfl, cur3, gr3⟩
    go_wp2
    go_ret
    exact ⟨y, y0, y1, rfl, below_cur b2 (Nat.le_refl _) gr3 cur2.1⟩
  · by_cases hx1 : x = 1
    · subst hx1
      go_wp2_with fail
      have hlt := cur2.lt
      refine (d_pickint _ _ g len cap w2.heap.size 7 7 A 3 [1000000000, 1000000001, -1000000000, -1000000001, 999, 1000, -1] (cur2.alloc _) rfl (by omega) (by omega) (by omega) (by intro x hx; simp at hx; omega) (heap_alloc_new w2 _)).mono ?_
      rintro e w3 ⟨y, y0, y1, rfl, cur3, gr3⟩
      go_wp2
      go_ret
      exact ⟨y, y0, y1, rfl, below_cur b2 (Nat.le_refl _) (grown_trans (World.grownBy_alloc w2 _ _) gr3) cur2.1⟩
    · have e0 : (x == 0) = false := by simpa using hx0
      have e1 : (x == 1) = false := by simpa using hx1
      go_wp2_with fail
      refine (d_below _ _ _ g len cap A cur2 (by omega)).mono ?_
      rintro e w3 ⟨y, y0, y1, y2, rfl, cur3, gr3⟩
      have y3 := y1 (by omega)
      clear y1 y2
      go_wp2
      go_ret
      exact ⟨y - 2000000, by omega, by omega, rfl, below_cur b2 (Nat.le_refl _) gr3 cur2.1⟩
end Go.Proofs.Ytciebalkfeoabaa
