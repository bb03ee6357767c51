/- The drawing of speeds, streams, tracks and passages; the laws' amount; the walk of the law FnSteerLeast. -/
import Derived.Test.YtlenmnffnbldbaaGvF
import Derived.Test.YtlenmnffnbldbaaGvG
import Derived.Test.YtlenmnffnbldbaaDrW
import Derived.Test.YtlenmnffnbldbaaDrG
namespace Go.Proofs.Ytlenmnffnbldbaa
open Go.RowKit Ieee
set_option linter.unusedVariables false
set_option linter.unusedSimpArgs false

theorem res_tmp4 {fn : Func} {t u v x : Tmp} (h : fn.results = #[.tmp t, .tmp u, .tmp v, .tmp x]) (tmps : Array Value) (P : Program) (w : World) :
    (results fn tmps).run P w = .ok (.tuple #[tmps.getD t undef, tmps.getD u undef, tmps.getD v undef, tmps.getD x undef]) w := by
  simp [results, h]
theorem quo_sixt (n : Int) : ∃ r, floatBits .quo .f32 (floatOfInt .f32 n) 1098907648 = some r ∧ r < 4294967296 := by
  obtain ⟨r, hr⟩ := fl_div_some FloatKind.f32.format (floatOfInt .f32 n) 1098907648 (fl_nearest_nan FloatKind.f32.format _ _ _) (s := false) (m := 8388608) (i := -19) (by kernel_rfl) (by omega)
  exact ⟨r, hr, FloatKind.f32.format.div_lt hr⟩

set_option maxRecDepth 100000 in
set_option maxHeartbeats 1000000 in
theorem d_speed (w : World) (B g len cap : Nat) (A : Option Addr) (hc : Cur w B g A len cap) :
    Calls Try.prog 49 #[.pointer (some ⟨g, 0, none⟩)] w fun e w' => ∃ x : Nat, x < 4294967296 ∧ e = .returned (.float .f32 x) ∧ Cur w' B g A len cap ∧ w.grownBy w' (some g) := by
  go_enter Try.func49, Try.ntmps49
  go_wp2_with fail
  refine (d_below 16 _ _ g len cap A hc (by omega)).mono ?_
  rintro e w1 ⟨k, k0, k1, k2, rfl, cur1, gr1⟩
  clear k1 k2
  have hcase : k = 0 ∨ k = 1 ∨ k = 2 ∨ 3 ≤ k := by omega
  rcases hcase with rfl | rfl | rfl | h3
  · go_wp2_with fail
    refine (d_single 60 _ _ g len cap A cur1 (by omega) (by omega)).mono ?_
    rintro e w2 ⟨x, xl, rfl, cur2, gr2⟩
    go_wp2
    go_ret
    exact ⟨x, xl, rfl, cur2, grown_trans gr1 gr2⟩
  · go_wp2
    go_ret
    exact ⟨_, by decide, rfl, cur1, gr1⟩
  · go_wp2
    go_ret
    exact ⟨_, by decide, rfl, cur1, gr1⟩
  · have e0 : (k == 0) = false := by simp; omega
    have e1 : (k == 1) = false := by simp; omega
    have e2 : (k == 2) = false := by simp; omega
    go_wp2_with fail
    refine (d_below 161 _ _ g len cap A cur1 (by omega)).mono ?_
    rintro e w2 ⟨i, i0, i1, i2, rfl, cur2, gr2⟩
    clear i1 i2
    obtain ⟨r, hr, hrl⟩ := quo_sixt i
    have q := fun w => run_float_arith (P := Try.prog) w .quo 24 .f32 _ _ _ hr
    clear hr
    go_wp2
    go_ret
    exact ⟨r, hrl, rfl, cur2, grown_trans gr1 gr2⟩

set_option maxRecDepth 100000 in
set_option maxHeartbeats 1000000 in
theorem d_stream (w : World) (B g len cap : Nat) (A : Option Addr) (hc : Cur w B g A len cap) :
    Calls Try.prog 50 #[.pointer (some ⟨g, 0, none⟩)] w fun e w' => ∃ x y : Nat, x < 4294967296 ∧ y < 4294967296 ∧ e = .returned (.complex .f32 x y) ∧ Cur w' B g A len cap ∧ w.grownBy w' (some g) := by
  go_enter Try.func50, Try.ntmps50
  go_wp2_with fail
  refine (d_below 12 _ _ g len cap A hc (by omega)).mono ?_
  rintro e w1 ⟨k, k0, k1, k2, rfl, cur1, gr1⟩
  clear k1 k2
  have hcase : k = 0 ∨ k = 1 ∨ 2 ≤ k := by omega
  rcases hcase with rfl | rfl | h3
  · go_wp2_with fail
    refine (d_air _ _ g len cap A cur1).mono ?_
    rintro e w2 ⟨x, y, xl, yl, rfl, cur2, gr2⟩
    go_wp2
    go_ret
    exact ⟨x, y, xl, yl, rfl, cur2, grown_trans gr1 gr2⟩
  · go_wp2
    go_ret
    exact ⟨_, _, by decide, by decide, rfl, cur1, gr1⟩
  · have e0 : (k == 0) = false := by simp; omega
    have e1 : (k == 1) = false := by simp; omega
    go_wp2_with fail
    refine (d_below 65 _ _ g len cap A cur1 (by omega)).mono ?_
    rintro e w2 ⟨i, i0, i1, i2, rfl, cur2, gr2⟩
    have i3 := i1 (by omega)
    clear i1 i2
    obtain ⟨r, hr, hrl⟩ := quo_sixt (i - 32)
    have q := fun w => run_float_arith (P := Try.prog) w .quo 24 .f32 _ _ _ hr
    clear hr
    go_wp2_with fail
    clear q
    refine (d_below 65 _ _ g len cap A cur2 (by omega)).mono ?_
    rintro e w3 ⟨i', j0, j1, j2, rfl, cur3, gr3⟩
    have j3 := j1 (by omega)
    clear j1 j2
    obtain ⟨r', hr', hrl'⟩ := quo_sixt (i' - 32)
    have q' := fun w => run_float_arith (P := Try.prog) w .quo 24 .f32 _ _ _ hr'
    clear hr'
    go_wp2
    go_ret
    exact ⟨r, r', hrl, hrl', rfl, cur3, grown_trans (grown_trans gr1 gr2) gr3⟩

set_option maxRecDepth 100000 in
set_option maxHeartbeats 1000000 in
theorem d_along (w : World) (len cap : Nat) (A : Option Addr) (hcode : Code w w.heap.size A len) :
    Calls Try.prog 16 #[.slice A len cap] w fun e w' => ∃ (t h : Int) (s u v : Nat), s < 4294967296 ∧ u < 4294967296 ∧ v < 4294967296 ∧ e = .returned (.tuple #[.int .i64 t, .int .i64 h, .float .f32 s, .complex .f32 u v]) ∧ Below w.heap.size w w' := by
  go_enter Try.func16, Try.ntmps16
  go_wp2_with fail
  refine (d_new w w.heap.size len cap A (Nat.le_refl _) hcode).mono ?_
  rintro e w1 ⟨g, rfl, cur1, b1⟩
  go_wp2_with fail
  refine (d_degrees _ _ g len cap A cur1).mono ?_
  rintro e w2 ⟨a, a0, a1, rfl, cur2, gr2⟩
  have b2 := below_cur b1 (Nat.le_refl _) gr2 cur1.1
  go_wp2_with fail
  refine (d_degrees _ _ g len cap A cur2).mono ?_
  rintro e w3 ⟨b, c0, c1, rfl, cur3, gr3⟩
  have b3 := below_cur b2 (Nat.le_refl _) gr3 cur1.1
  go_wp2_with fail
  refine (d_speed _ _ g len cap A cur3).mono ?_
  rintro e w4 ⟨s, sl, rfl, cur4, gr4⟩
  have b4 := below_cur b3 (Nat.le_refl _) gr4 cur1.1
  go_wp2_with fail
  refine (d_stream _ _ g len cap A cur4).mono ?_
  rintro e w5 ⟨u, v, ul, vl, rfl, cur5, gr5⟩
  have b5 := below_cur b4 (Nat.le_refl _) gr5 cur1.1
  go_wp2
  refine bodyPost_ret (res_tmp4 rfl _ _ _) rfl ?_
  exact ⟨a, b, s, u, v, sl, ul, vl, rfl, b5⟩

set_option maxRecDepth 100000 in
set_option maxHeartbeats 1000000 in
theorem d_over (w : World) (len cap : Nat) (A : Option Addr) (hcode : Code w w.heap.size A len) :
    Calls Try.prog 35 #[.slice A len cap] w fun e w' => ∃ (h : Int) (s u v : Nat), s < 4294967296 ∧ u < 4294967296 ∧ v < 4294967296 ∧ e = .returned (.tuple #[.int .i64 h, .float .f32 s, .complex .f32 u v]) ∧ Below w.heap.size w w' := by
  go_enter Try.func35, Try.ntmps35
  go_wp2_with fail
  refine (d_new w w.heap.size len cap A (Nat.le_refl _) hcode).mono ?_
  rintro e w1 ⟨g, rfl, cur1, b1⟩
  go_wp2_with fail
  refine (d_degrees _ _ g len cap A cur1).mono ?_
  rintro e w2 ⟨a, a0, a1, rfl, cur2, gr2⟩
  have b2 := below_cur b1 (Nat.le_refl _) gr2 cur1.1
  go_wp2_with fail
  refine (d_speed _ _ g len cap A cur2).mono ?_
  rintro e w4 ⟨s, sl, rfl, cur4, gr4⟩
  have b4 := below_cur b2 (Nat.le_refl _) gr4 cur1.1
  go_wp2_with fail
  refine (d_stream _ _ g len cap A cur4).mono ?_
  rintro e w5 ⟨u, v, ul, vl, rfl, cur5, gr5⟩
  have b5 := below_cur b4 (Nat.le_refl _) gr5 cur1.1
  go_wp2
  go_ret3
  exact ⟨a, s, u, v, sl, ul, vl, rfl, b5⟩
set_option maxRecDepth 100000 in
set_option maxHeartbeats 1000000 in
theorem d_steer (w : World) (len cap : Nat) (A : Option Addr) (hcode : Code w w.heap.size A len) :
    Calls Try.prog 13 #[.slice A len cap] w fun e w' => ∃ (h : Int) (s u v : Nat), s < 4294967296 ∧ u < 4294967296 ∧ v < 4294967296 ∧ e = .returned (.tuple #[.int .i64 h, .float .f32 s, .complex .f32 u v]) ∧ Below w.heap.size w w' := by
  go_enter Try.func13, Try.ntmps13
  go_wp2_with fail
  refine (d_over _ len cap A hcode).mono ?_
  rintro e w1 ⟨h, s, u, v, sl, ul, vl, rfl, b1⟩
  go_wp2
  go_ret3
  exact ⟨h, s, u, v, sl, ul, vl, rfl, b1⟩

set_option maxHeartbeats 400000 in
theorem l_amount (x : Nat) (w : World) (hx : x < 18446744073709551616) :
    Calls Try.prog 20 #[.float .f64 x] w fun e w' => e = .returned (.float .f64 (amtW x)) ∧ w = w' := by
  unfold amtW
  by_cases h : f64.order x 0 = some .lt
  · have hneg : ∀ w, (Op.unary .neg (.float .f64 x)).run Try.prog w = .ok (.float .f64 (x % 9223372036854775808)) w := fun w => by
      show (pure (.float .f64 (Op.negFloat .f64 x)) : Sem Value).run Try.prog w = _
      rw [neg_word hx h]; rfl
    rw [if_pos h]
    have h' : FloatKind.f64.format.order x 0 = some .lt := h
    clear h
    go_enter Try.func20, Try.ntmps20
    go_wp2
    go_ret
    exact ⟨rfl, rfl⟩
  · rw [if_neg h]
    have h' : (FloatKind.f64.format.order x 0 == some .lt) = false := by simpa using h
    clear h
    go_enter Try.func20, Try.ntmps20
    go_wp2
    go_ret
    exact ⟨rfl, rfl⟩
end Go.Proofs.Ytlenmnffnbldbaa
