/- Wind sides and leeway: the walks of l01In, WindSide and Leeway (impl and spec), of the drawing, and of the laws FnExactWindSide, FnExactLeeway and FnLeeward. -/
import Derived.Test.YtonoknbangnleaaDrG
namespace Go.Proofs.Ytonoknbangnleaa
open Go.RowKit
set_option linter.unusedVariables false
set_option linter.unusedSimpArgs false

theorem s_in (n a b : Int) (t : Bool) (w : World) (ht : t = decide (a ≤ n ∧ n ≤ b)) :
    Calls Try.prog 49 #[.int .i64 n, .int .i64 a, .int .i64 b] w fun e w' => e = .returned (.bool t) ∧ w = w' := by
  by_cases h1 : a ≤ n
  · by_cases h2 : n ≤ b
    · obtain rfl : t = true := by rw [ht]; exact decide_eq_true ⟨h1, h2⟩
      clear ht
      go_enter Try.func49, Try.ntmps49
      go_wp2
      go_ret
      exact ⟨rfl, rfl⟩
    · obtain rfl : t = false := by rw [ht]; exact decide_eq_false (fun h => h2 h.2)
      clear ht
      go_enter Try.func49, Try.ntmps49
      go_wp2
      go_ret
      exact ⟨rfl, rfl⟩
  · obtain rfl : t = false := by rw [ht]; exact decide_eq_false (fun h => h1 h.1)
    clear ht
    go_enter Try.func49, Try.ntmps49
    go_wp2
    go_ret
    exact ⟨rfl, rfl⟩

/-- The side of the wind. -/
def wsd (h f : Int) : Int := if asd h f < 0 then -1 else if asd h f = 0 ∨ asd h f = 180 then 0 else 1
theorem asd_bd (a b : Int) : -179 ≤ asd a b ∧ asd a b ≤ 180 := by unfold asd; split <;> omega
theorem wsd_bd (a b : Int) : -1 ≤ wsd a b ∧ wsd a b ≤ 1 := by unfold wsd; split; omega; split <;> omega

set_option maxHeartbeats 800000 in
theorem i_wsd (h f : Int) (w : World) :
    Calls Try.prog 14 #[.int .i64 h, .int .i64 f] w fun e w' => e = .returned (.int .i64 (wsd h f)) ∧ w = w' := by
  obtain ⟨d, hd⟩ : ∃ d, asd h f = d := ⟨_, rfl⟩
  obtain ⟨s, hs⟩ : ∃ s, wsd h f = s := ⟨_, rfl⟩
  have ca := fun w => i_asd h f w
  have hb := asd_bd h f
  have hw : s = if d < 0 then -1 else if d = 0 ∨ d = 180 then 0 else 1 := by rw [← hs, ← hd]; rfl
  rw [hs]
  rw [hd] at ca hb
  clear hd hs
  by_cases h0 : d < 0
  · rw [if_pos h0] at hw
    subst hw
    go_enter Try.func14, Try.ntmps14
    go_wp2_with (go_at_call 40; ((with_reducible refine (ca _).mono ?_); rintro e w' ⟨rfl, rfl⟩))
    go_ret
    exact ⟨rfl, rfl⟩
  · rw [if_neg h0] at hw
    have h00 : 0 ≤ d := by omega
    by_cases h1 : d = 0
    · rw [if_pos (.inl h1)] at hw
      subst hw h1
      clear h0
      go_enter Try.func14, Try.ntmps14
      go_wp2_with (go_at_call 40; ((with_reducible refine (ca _).mono ?_); rintro e w' ⟨rfl, rfl⟩))
      go_ret
      exact ⟨rfl, rfl⟩
    · by_cases h2 : d = 180
      · rw [if_pos (.inr h2)] at hw
        subst hw h2
        clear h0 h1
        go_enter Try.func14, Try.ntmps14
        go_wp2_with (go_at_call 40; ((with_reducible refine (ca _).mono ?_); rintro e w' ⟨rfl, rfl⟩))
        go_ret
        exact ⟨rfl, rfl⟩
      · rw [if_neg (by omega)] at hw
        subst hw
        have e1 : (d == 0) = false := by simpa using h1
        have e2 : (d == 180) = false := by simpa using h2
        clear h0
        go_enter Try.func14, Try.ntmps14
        go_wp2_with (go_at_call 40; ((with_reducible refine (ca _).mono ?_); rintro e w' ⟨rfl, rfl⟩))
        go_ret
        exact ⟨rfl, rfl⟩


/-- The heading that leeway makes. -/
def lwy (h f n : Int) : Int := (h % 360 - n * wsd h f) % 360
def LwOk (n : Int) : Prop := 0 ≤ n ∧ n ≤ 30
theorem lw_mul {n s : Int} (hn : LwOk n) (hs : -1 ≤ s ∧ s ≤ 1) : -30 ≤ n * s ∧ n * s ≤ 30 := by
  obtain ⟨n0, n1⟩ := hn
  obtain rfl | rfl | rfl : s = -1 ∨ s = 0 ∨ s = 1 := by omega
  all_goals omega




end Go.Proofs.Ytonoknbangnleaa
