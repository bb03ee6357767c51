/- The walks of boatSpeedOk, velocityOn, Velocity, OverGround, Cross, AlongTrack and OffTrack (impl and spec), and of the law FnExactVelocity. -/
import Derived.Test.YtonoknbangnleaaGvA
import Derived.Test.YtonoknbangnleaaTnA
namespace Go.Proofs.Ytonoknbangnleaa
open Go.RowKit Ieee
set_option linter.unusedVariables false
set_option linter.unusedSimpArgs false

set_option maxHeartbeats 400000 in
theorem i_boatB (k : Nat) (w : World) (hk : k < 4294967296) :
    Calls Try.prog 97 #[.float .f32 k] w fun e w' => ∃ t, (t = true ↔ okBs k) ∧ e = .returned (.bool t) ∧ w = w' := by
  obtain ⟨t, u, h, f1, f2, f3⟩ := speed_flag k hk
  have H := Lib.hid h
  clear h f2
  cases t <;> cases u
  all_goals
    go_enter Try.func97, Try.ntmps97
    go_wp2
    go_ret
    exact ⟨_, H.out, rfl, rfl⟩
theorem i_boat_is (k : Nat) (t : Bool) (w : World) (hk : k < 4294967296) (ht : t = true ↔ okBs k) :
    Calls Try.prog 97 #[.float .f32 k] w fun e w' => e = .returned (.bool t) ∧ w = w' :=
  (i_boatB k w hk).mono fun e w' ⟨t', h, he, hw⟩ => by
    have : t' = t := by cases t <;> cases t' <;> simp_all
    subst this
    exact ⟨he, hw⟩


/-- The heading's turn. -/
def dg (h : Int) : Nat := (h % 360).toNat
theorem dg_lt (h : Int) : dg h < 360 := by unfold dg; omega



end Go.Proofs.Ytonoknbangnleaa
