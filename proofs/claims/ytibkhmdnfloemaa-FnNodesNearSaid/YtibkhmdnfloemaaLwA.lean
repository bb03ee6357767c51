/- Wind sides and leeway: the walks of l01In, WindSide and Leeway (impl and spec), of the drawing, and of the laws FnExactWindSide, FnExactLeeway and FnLeeward. -/
import Derived.Test.YtibkhmdnfloemaaDrG
namespace Go.Proofs.Ytibkhmdnfloemaa
open Go.RowKit
set_option linter.unusedVariables false
set_option linter.unusedSimpArgs false

theorem s_in (n a b : Int) (t : Bool) (w : World) (ht : t = decide (a ≤ n ∧ n ≤ b)) :
    Calls Try.prog 21 #[.int .i64 n, .int .i64 a, .int .i64 b] w fun e w' => e = .returned (.bool t) ∧ w = w' := by
  by_cases h1 : a ≤ n
  · by_cases h2 : n ≤ b
    · obtain rfl : t = true := by rw [ht]; exact decide_eq_true ⟨h1, h2⟩
      clear ht
      go_enter Try.func21, Try.ntmps21
      go_wp2
      go_ret
      exact ⟨rfl, rfl⟩
    · obtain rfl : t = false := by rw [ht]; exact decide_eq_false (fun h => h2 h.2)
      clear ht
      go_enter Try.func21, Try.ntmps21
      go_wp2
      go_ret
      exact ⟨rfl, rfl⟩
  · obtain rfl : t = false := by rw [ht]; exact decide_eq_false (fun h => h1 h.1)
    clear ht
    go_enter Try.func21, Try.ntmps21
    go_wp2
    go_ret
    exact ⟨rfl, rfl⟩

/-- The side of the wind. -/
def wsd (h f : Int) : Int := if asd h f < 0 then -1 else if asd h f = 0 ∨ asd h f = 180 then 0 else 1
theorem asd_bd (a b : Int) : -179 ≤ asd a b ∧ asd a b ≤ 180 := by unfold asd; split <;> omega
theorem wsd_bd (a b : Int) : -1 ≤ wsd a b ∧ wsd a b ≤ 1 := by unfold wsd; split; omega; split <;> omega



/-- The heading that leeway makes. -/
def lwy (h f n : Int) : Int := (h % 360 - n * wsd h f) % 360
def LwOk (n : Int) : Prop := 0 ≤ n ∧ n ≤ 30
theorem lw_mul {n s : Int} (hn : LwOk n) (hs : -1 ≤ s ∧ s ≤ 1) : -30 ≤ n * s ∧ n * s ≤ 30 := by
  obtain ⟨n0, n1⟩ := hn
  obtain rfl | rfl | rfl : s = -1 ∨ s = 0 ∨ s = 1 := by omega
  all_goals omega




end Go.Proofs.Ytibkhmdnfloemaa
