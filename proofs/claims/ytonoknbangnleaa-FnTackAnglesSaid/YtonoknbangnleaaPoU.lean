/- SpeedAt, MadeUp (impl). -/
import Derived.Test.YtonoknbangnleaaPoT
import Derived.Test.YtonoknbangnleaaTnA
namespace Go.Proofs.Ytonoknbangnleaa
open Go.RowKit Ieee
set_option linter.unusedSimpArgs false
set_option linter.unusedVariables false

/-- A number that is told, or none. -/
def Told (v : Prop) (r : Nat) (w : World) (e : Ending) (w' : World) : Prop :=
  Below w.heap.size w w' ∧ ((v ∧ e = .returned (.tuple #[.float .f32 r, .bool true])) ∨ (¬ v ∧ e = .returned (.tuple #[.float .f32 0, .bool false])))
theorem Told.yes {v : Prop} {r : Nat} {w : World} {e : Ending} {w' : World} (h : v) (he : e = .returned (.tuple #[.float .f32 r, .bool true])) (b : Below w.heap.size w w') : Told v r w e w' := ⟨b, .inl ⟨h, he⟩⟩
theorem Told.no {v : Prop} {r : Nat} {w : World} {e : Ending} {w' : World} (h : ¬ v) (he : e = .returned (.tuple #[.float .f32 0, .bool false])) (b : Below w.heap.size w w') : Told v r w e w' := ⟨b, .inr ⟨h, he⟩⟩
/-- What can be asked of a polar. -/
def AskOk (P : Pol) (x : Nat) (a : Int) : Prop := PolOk P ∧ okA x ∧ 0 ≤ a ∧ a ≤ 180

set_option maxHeartbeats 400000 in
theorem i_windward (k : Nat) (w : World) (hk : k < 360) :
    Calls Try.prog 35 #[.complex .f64 (trn k).1 (trn k).2] w fun e w' => e = .returned (.float .f32 (cosW k)) ∧ w = w' := by
  have hs : (Try.prog.underlying 43).isSome = true := by rw [Try.underlying43]; rfl
  have hc := fun w => run_convert_float_float (P := Try.prog) w 43 37 .f64 .f32 _ _ hs Try.underlying37 (cos_ok k hk).1
  generalize cosW k = c at *
  generalize trn k = t at *
  clear hs
  go_enter Try.func35, Try.ntmps35
  go_wp2
  go_ret
  exact ⟨rfl, rfl⟩
end Go.Proofs.Ytonoknbangnleaa
