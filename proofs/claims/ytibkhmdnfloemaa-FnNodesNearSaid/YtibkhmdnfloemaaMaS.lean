/- Winds that are alike (laws): sameAir. -/
import Derived.Test.YtibkhmdnfloemaaMaE
import Derived.Test.YtibkhmdnfloemaaWk
import Derived.Test.YtibkhmdnfloemaaFA
namespace Go.Proofs.Ytibkhmdnfloemaa
open Go.RowKit Ieee
set_option linter.unusedSimpArgs false
set_option linter.unusedVariables false
attribute [local go_sem] st_cplx

theorem fl_div_zero_inf12 {f : Format} {x y : Nat} {s t : Bool} {m : Nat} {i j : Int} (hx : f.read x = .number s m i) (hm : m ≠ 0) (hy : f.read y = .number t 0 j) : ∃ b, f.div x y = some (f.write (.infinity b)) := by
  unfold Format.div
  rw [hx, hy]
  simp only [Datum.quotient, if_pos, if_neg hm, Option.map_some]
  exact ⟨_, rfl⟩
theorem inf_self12 (b : Bool) : FloatKind.f64.format.order (FloatKind.f64.format.write (.infinity b)) (FloatKind.f64.format.write (.infinity b)) = some .eq := by cases b <;> kernel_rfl
set_option maxHeartbeats 800000 in
theorem l_same64m (x : Nat) (w : World) (hx : isNum x) :
    Calls Try.prog 42 #[.float .f64 x, .float .f64 x] w fun e w' => e = .returned (.bool true) ∧ w = w' := by
  have hs : FloatKind.f64.format.order x x = some .eq := by
    rw [show FloatKind.f64.format.order x x = some (compare (fval x) (fval x)) from order_val hx hx, Int.compare_eq_eq.2 rfl]
  clear hx
  by_cases hz : (FloatKind.f64.format.order x 0 == some .eq) = true
  · obtain ⟨t, j, hx⟩ := fl_order_zero (f := FloatKind.f64.format) (x := x) (z := 0) (s := false) (i := -1074) (by kernel_rfl) (by simpa using hz)
    obtain ⟨b, hr⟩ := fl_div_zero_inf12 (f := FloatKind.f64.format) (x := 4607182418800017408) (y := x) (s := false) (m := 4503599627370496) (i := -52) (by kernel_rfl) (by omega) hx
    have hi := inf_self12 b
    generalize FloatKind.f64.format.write (.infinity b) = r at *
    have hq := fun w => run_float_arith (P := Try.prog) w .quo 53 .f64 4607182418800017408 x r hr
    have hz2 : FloatKind.f64.format.order x 0 = some .eq := by simpa using hz
    clear hx hr
    go_enter Try.func42, Try.ntmps42
    go_wp2
    go_ret
    exact ⟨rfl, rfl⟩
  · have hz' : (FloatKind.f64.format.order x 0 == some .eq) = false := by simpa using hz
    have hz2 : ¬ FloatKind.f64.format.order x 0 = some .eq := by simpa using hz
    clear hz
    go_enter Try.func42, Try.ntmps42
    go_wp2
    go_ret
    exact ⟨rfl, rfl⟩

theorem same_order12 {x : Nat} (hx : isNum x) : (FloatKind.f64.format.order x x == some .eq) = true := by
  rw [show FloatKind.f64.format.order x x = some (compare (fval x) (fval x)) from order_val hx hx, Int.compare_eq_eq.2 rfl]; rfl
set_option maxHeartbeats 800000 in
theorem l_samem (x y : Nat) (w : World) (hx : isNum x) (hy : isNum y) :
    Calls Try.prog 28 #[.complex .f64 x y, .complex .f64 x y] w fun e w' => e = .returned (.bool true) ∧ w = w' := by
  have s1 := fun w => l_same64m x w hx
  have s2 := fun w => l_same64m y w hy
  clear hx hy
  go_enter Try.func28, Try.ntmps28
  go_wp2_with (go_at_call 42; (first | ((with_reducible refine (s1 _).mono ?_); rintro e w' ⟨rfl, rfl⟩) | ((with_reducible refine (s2 _).mono ?_); rintro e w' ⟨rfl, rfl⟩)))
  go_ret
  exact ⟨rfl, rfl⟩
set_option maxHeartbeats 800000 in
theorem l_sameAir12 (a b : Nat) (w : World) (h : okV a b) :
    Calls Try.prog 10 #[.complex .f32 a b, .complex .f32 a b] w fun e w' => e = .returned (.bool true) ∧ w = w' := by
  have ha := wid_num h.1.1 h.2.1.1
  have hb := wid_num h.1.2 h.2.2.1
  have hs : (Try.prog.underlying 32).isSome = true := by rw [Try.underlying32]; rfl
  have q := fun w => run_convert_complex (P := Try.prog) w 32 29 .f32 .f64 a b (wid a) (wid b) hs Try.underlying29 (by unfold cConvBits; rw [ha.1, hb.1]; rfl)
  have s1 := fun w => l_samem (wid a) (wid b) w ha.2.1 hb.2.1
  clear ha hb hs h
  go_enter Try.func10, Try.ntmps10
  go_wp2_with (go_at_call 28; (with_reducible refine (s1 _).mono ?_); rintro e w' ⟨rfl, rfl⟩)
  go_ret
  exact ⟨rfl, rfl⟩
end Go.Proofs.Ytibkhmdnfloemaa
