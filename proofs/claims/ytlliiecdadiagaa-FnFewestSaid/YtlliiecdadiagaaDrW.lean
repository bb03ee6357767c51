/- The drawing of winds: l03Single, l03Air, l03Part; DrawApparent, DrawFromOf, DrawVeer, DrawDamp. -/
import Derived.Test.YtlliiecdadiagaaWd
import Derived.Test.YtlliiecdadiagaaDrR
namespace Go.Proofs.Ytlliiecdadiagaa
open Go.RowKit Ieee

theorem cur_drew {w w' : World} {B g len cap : Nat} {A : Option Addr} (hc : Cur w' B g A len cap) (hg : w.grownBy w' (some g)) : Cur w'.drew B g A len cap ∧ w.grownBy w'.drew (some g) :=
  ⟨hc.grown_far (row := none) ⟨rfl, rfl, rfl, Nat.le_refl _, fun _ _ _ => rfl⟩ (by simp) (fun _ h => by cases h), grown_trans hg ⟨rfl, rfl, rfl, Nat.le_refl _, fun _ _ _ => rfl⟩⟩
theorem ofInt_lt (n : Int) : floatOfInt .f32 n < 4294967296 := S.f32.nearest_lt _ _ _
theorem quo_part (n : Int) : ∃ r, floatBits .quo .f32 (floatOfInt .f32 n) 1132462080 = some r ∧ r < 4294967296 := by
  obtain ⟨r, hr⟩ := fl_div_some FloatKind.f32.format (floatOfInt .f32 n) 1132462080 (fl_nearest_nan FloatKind.f32.format _ _ _) (s := false) (m := 8388608) (i := -15) (by kernel_rfl) (by omega)
  exact ⟨r, hr, FloatKind.f32.format.div_lt hr⟩

set_option maxRecDepth 100000 in
set_option maxHeartbeats 1000000 in
theorem d_single (n : Int) (w : World) (B g len cap : Nat) (A : Option Addr) (hc : Cur w B g A len cap) (n0 : 0 ≤ n) (n1 : n ≤ 1000000000) :
    Calls Try.prog 75 #[.pointer (some ⟨g, 0, none⟩), .int .i64 n] w fun e w' => ∃ x : Nat, x < 4294967296 ∧ e = .returned (.float .f32 x) ∧ Cur w' B g A len cap ∧ w.grownBy w' (some g) := by
  have hs : (Try.prog.underlying 109).isSome = true := by rw [Try.underlying109]; rfl
  go_enter Try.func75, Try.ntmps75
  go_wp2_with fail
  refine (d_real n _ _ g len cap A hc n0 n1).mono ?_
  rintro e w1 ⟨x, xl, rfl, cur1, gr1⟩
  rcases nar_any 109 38 hs Try.underlying38 x with ⟨r, hr, q⟩ | ⟨nb, hr, q⟩
  · go_wp2
    go_ret
    exact ⟨r, hr, rfl, cur1, gr1⟩
  · go_wp2
    go_ret
    exact ⟨_, hr _, rfl, (cur_drew cur1 gr1).1, (cur_drew cur1 gr1).2⟩
end Go.Proofs.Ytlliiecdadiagaa
