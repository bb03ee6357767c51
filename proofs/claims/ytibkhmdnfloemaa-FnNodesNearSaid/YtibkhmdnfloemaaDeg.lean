/- Degrees: the walks of degreesOf, l02Mod, mod, clockwise, Between and Aside, and of the laws FnExactBetween and FnExactAside. -/
import Derived.Test.YtibkhmdnfloemaaRows
import Derived.WalkKit
import Derived.WalkLawsBesides
import Derived.Lib.Hide
namespace Go.Proofs.Ytibkhmdnfloemaa
open Go.RowKit

theorem tmod360 (n : Int) : (n.tmod 360 + 360).tmod 360 = n % 360 ∧ -360 < n.tmod 360 ∧ n.tmod 360 < 360 := by
  have h : -360 < n.tmod 360 ∧ n.tmod 360 < 360 ∧ (n.tmod 360 - n) % 360 = 0 := by
    rcases Int.le_total 0 n with h | h
    · rw [Int.tmod_eq_emod_of_nonneg h]; omega
    · obtain ⟨m, rfl⟩ : ∃ m, n = -m := ⟨-n, by omega⟩
      rw [Int.neg_tmod, Int.tmod_eq_emod_of_nonneg (by omega)]; omega
  rw [Int.tmod_eq_emod_of_nonneg (by omega)]
  omega
/-- Between and Aside. -/
def btw (a b : Int) : Int := if 180 < (b - a) % 360 then 360 - (b - a) % 360 else (b - a) % 360
def asd (a b : Int) : Int := if 180 < (b - a) % 360 then (b - a) % 360 - 360 else (b - a) % 360
theorem ret_i {a b : Int} (h : a = b) : Ending.returned (.int .i64 a) = .returned (.int .i64 b) := by rw [h]

theorem i64_bd {n : Int} (h : (Lit.int .i64 n).wf = true) : -9223372036854775808 ≤ n ∧ n ≤ 9223372036854775807 := by
  have h2 := h
  simp [Lit.wf] at h2
  exact ⟨h2.1, h2.2⟩
end Go.Proofs.Ytibkhmdnfloemaa
