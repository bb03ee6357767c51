/- The drawing of winds: l03Single, l03Air, l03Part; DrawApparent, DrawFromOf, DrawVeer, DrawDamp. -/
import Derived.Test.YtnpgppenkpkfnaaWd
import Derived.Test.YtnpgppenkpkfnaaDrR
namespace Go.Proofs.Ytnpgppenkpkfnaa
open Go.RowKit Ieee

theorem cur_drew {w w' : World} {B g len cap : Nat} {A : Option Addr} (hc : Cur w' B g A len cap) (hg : w.grownBy w' (some g)) : Cur w'.drew B g A len cap ∧ w.grownBy w'.drew (some g) :=
  ⟨hc.grown_far (row := none) ⟨rfl, rfl, rfl, Nat.le_refl _, fun _ _ _ => rfl⟩ (by simp) (fun _ h => by cases h), grown_trans hg ⟨rfl, rfl, rfl, Nat.le_refl _, fun _ _ _ => rfl⟩⟩
theorem ofInt_lt (n : Int) : floatOfInt .f32 n < 4294967296 := S.f32.nearest_lt _ _ _
theorem quo_part (n : Int) : ∃ r, floatBits .quo .f32 (floatOfInt .f32 n) 1132462080 = some r ∧ r < 4294967296 := by
  obtain ⟨r, hr⟩ := fl_div_some FloatKind.f32.format (floatOfInt .f32 n) 1132462080 (fl_nearest_nan FloatKind.f32.format _ _ _) (s := false) (m := 8388608) (i := -15) (by kernel_rfl) (by omega)
  exact ⟨r, hr, FloatKind.f32.format.div_lt hr⟩

end Go.Proofs.Ytnpgppenkpkfnaa
