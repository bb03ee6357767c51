/- The drawing of winds: l03Single, l03Air, l03Part; DrawApparent, DrawFromOf, DrawVeer, DrawDamp. -/
import Derived.Test.YtdhdefhllleeiaaWd
import Derived.Test.YtdhdefhllleeiaaDrR
namespace Go.Proofs.Ytdhdefhllleeiaa
open Go.RowKit Ieee

theorem cur_drew {w w' : World} {B g len cap : Nat} {A : Option Addr} (hc : Cur w' B g A len cap) (hg : w.grownBy w' (some g)) : Cur w'.drew B g A len cap ∧ w.grownBy w'.drew (some g) :=
  ⟨hc.grown_far (row := none) ⟨rfl, rfl, rfl, Nat.le_refl _, fun _ _ _ => rfl⟩ (by simp) (fun _ h => by cases h), grown_trans hg ⟨rfl, rfl, rfl, Nat.le_refl _, fun _ _ _ => rfl⟩⟩
theorem ofInt_lt (n : Int) : floatOfInt .f32 n < 4294967296 := S.f32.nearest_lt _ _ _
theorem quo_part (n : Int) : ∃ r, floatBits .quo .f32 (floatOfInt .f32 n) 1132462080 = some r ∧ r < 4294967296 := by
  obtain ⟨r, hr⟩ := fl_div_some FloatKind.f32.format (floatOfInt .f32 n) 1132462080 (fl_nearest_nan FloatKind.f32.format _ _ _) (s := false) (m := 8388608) (i := -15) (by kernel_rfl) (by omega)
  exact ⟨r, hr, FloatKind.f32.format.div_lt hr⟩

set_option maxRecDepth 100000 in
set_option maxHeartbeats 1000000 in
theorem d_single (n : Int) (w : World) (B g len cap : Nat) (A : Option Addr) (hc : Cur w B g A len cap) (n0 : 0 ≤ n) (n1 : n ≤ 1000000000) :
    Calls Try.prog 53 #[.pointer (some ⟨g, 0, none⟩), .int .i64 n] w fun e w' => ∃ x : Nat, x < 4294967296 ∧ e = .returned (.float .f32 x) ∧ Cur w' B g A len cap ∧ w.grownBy w' (some g) := by
  have hs : (Try.prog.underlying 48).isSome = true := by rw [Try.underlying48]; rfl
  go_enter Try.func53, Try.ntmps53
  go_wp2_with fail
  refine (d_real n _ _ g len cap A hc n0 n1).mono ?_
  rintro e w1 ⟨x, xl, rfl, cur1, gr1⟩
  rcases nar_any 48 31 hs Try.underlying31 x with ⟨r, hr, q⟩ | ⟨nb, hr, q⟩
  · go_wp2
    go_ret
    exact ⟨r, hr, rfl, cur1, gr1⟩
  · go_wp2
    go_ret
    exact ⟨_, hr _, rfl, (cur_drew cur1 gr1).1, (cur_drew cur1 gr1).2⟩
set_option maxRecDepth 100000 in
set_option maxHeartbeats 1000000 in
theorem d_part (w : World) (B g len cap : Nat) (A : Option Addr) (hc : Cur w B g A len cap) :
    Calls Try.prog 54 #[.pointer (some ⟨g, 0, none⟩)] w fun e w' => ∃ x : Nat, x < 4294967296 ∧ e = .returned (.float .f32 x) ∧ Cur w' B g A len cap ∧ w.grownBy w' (some g) := by
  go_enter Try.func54, Try.ntmps54
  go_wp2_with fail
  refine (d_below _ _ _ g len cap A hc (by omega)).mono ?_
  rintro e w1 ⟨x, x0, x1, x2, rfl, cur1, gr1⟩
  clear x1 x2
  by_cases c0 : x = 0
  · subst c0
    go_wp2_with fail
    refine (d_single 2 _ _ g len cap A cur1 (by omega) (by omega)).mono ?_
    rintro e w2 ⟨y, yl, rfl, cur2, gr2⟩
    go_wp2
    go_ret
    exact ⟨y, yl, rfl, cur2, grown_trans gr1 gr2⟩
  · by_cases c1 : x = 1
    · subst c1
      go_wp2
      go_ret
      exact ⟨_, by omega, rfl, cur1, gr1⟩
    · by_cases c2 : x = 2
      · subst c2
        go_wp2
        go_ret
        exact ⟨_, by omega, rfl, cur1, gr1⟩
      · go_wp2_with fail
        refine (d_below _ _ _ g len cap A cur1 (by omega)).mono ?_
        rintro e w2 ⟨y, y0, y1, y2, rfl, cur2, gr2⟩
        clear y1 y2
        obtain ⟨r, hr, hl⟩ := quo_part y
        have q := fun w => run_float_arith (P := Try.prog) w .quo 31 .f32 _ _ _ hr
        clear hr
        go_wp2
        go_ret
        exact ⟨r, hl, rfl, cur2, grown_trans gr1 gr2⟩
end Go.Proofs.Ytdhdefhllleeiaa
