/- Winds, nodes and times drawn: l08Wind, l12Node2, l12Time. -/
import Derived.Test.YtibkhmdnfloemaaMaB
import Derived.Test.YtibkhmdnfloemaaDrW
namespace Go.Proofs.Ytibkhmdnfloemaa
open Go.RowKit Ieee
set_option linter.unusedVariables false
set_option linter.unusedSimpArgs false

theorem quo_eight12 (n : Int) : ∃ r, floatBits .quo .f32 (floatOfInt .f32 n) 1090519040 = some r ∧ r < 4294967296 := by
  obtain ⟨r, hr⟩ := fl_div_some FloatKind.f32.format (floatOfInt .f32 n) 1090519040 (fl_nearest_nan FloatKind.f32.format _ _ _) (s := false) (m := 8388608) (i := -20) (by kernel_rfl) (by omega)
  exact ⟨r, hr, FloatKind.f32.format.div_lt hr⟩
set_option maxRecDepth 100000 in
set_option maxHeartbeats 1000000 in
theorem d_wind12 (w : World) (B g len cap : Nat) (A : Option Addr) (hc : Cur w B g A len cap) :
    Calls Try.prog 30 #[.pointer (some ⟨g, 0, none⟩)] w fun e w' => ∃ x y : Nat, x < 4294967296 ∧ y < 4294967296 ∧ e = .returned (.complex .f32 x y) ∧ Cur w' B g A len cap ∧ w.grownBy w' (some g) := by
  go_enter Try.func30, Try.ntmps30
  go_wp2_with fail
  refine (d_once 12 _ _ g len cap A hc (by omega)).mono ?_
  rintro e w1 ⟨t, rfl, cur1, gr1⟩
  cases t
  · go_wp2_with fail
    refine (d_below 129 _ _ g len cap A cur1 (by omega)).mono ?_
    rintro e w2 ⟨i, i0, i1, i2, rfl, cur2, gr2⟩
    have i3 := i1 (by omega)
    clear i1 i2
    obtain ⟨r, hr, hrl⟩ := quo_eight12 (i - 64)
    have q := fun w => run_float_arith (P := Try.prog) w .quo 69 .f32 _ _ _ hr
    clear hr
    go_wp2_with fail
    clear q
    refine (d_below 129 _ _ g len cap A cur2 (by omega)).mono ?_
    rintro e w3 ⟨i', j0, j1, j2, rfl, cur3, gr3⟩
    have j3 := j1 (by omega)
    clear j1 j2
    obtain ⟨r', hr', hrl'⟩ := quo_eight12 (i' - 64)
    have q' := fun w => run_float_arith (P := Try.prog) w .quo 69 .f32 _ _ _ hr'
    clear hr'
    go_wp2
    go_ret
    exact ⟨r, r', hrl, hrl', rfl, cur3, grown_trans (grown_trans gr1 gr2) gr3⟩
  · go_wp2_with fail
    refine (d_air _ _ g len cap A cur1).mono ?_
    rintro e w2 ⟨x, y, xl, yl, rfl, cur2, gr2⟩
    go_wp2
    go_ret
    exact ⟨x, y, xl, yl, rfl, cur2, grown_trans gr1 gr2⟩
set_option maxRecDepth 100000 in
set_option maxHeartbeats 1000000 in
theorem d_time12 (w : World) (B g len cap : Nat) (A : Option Addr) (hc : Cur w B g A len cap) :
    Calls Try.prog 14 #[.pointer (some ⟨g, 0, none⟩)] w fun e w' => ∃ x : Int, In64 x ∧ e = .returned (.int .i64 x) ∧ Cur w' B g A len cap ∧ w.grownBy w' (some g) := by
  go_enter Try.func14, Try.ntmps14
  go_wp2_with fail
  refine (d_once 15 _ B g len cap A hc (by omega)).mono ?_
  rintro e w1 ⟨t, rfl, cu, gr⟩
  have H1 := Lib.hid (And.intro cu gr)
  clear cu gr hc
  cases t
  · go_wp2_with fail
    refine (d_below 9000 _ B g len cap A H1.out.1 (by omega)).mono ?_
    rintro e w2 ⟨x, x0, x1, _, rfl, cu, gr⟩
    have x2 := x1 (by omega)
    have H2 := Lib.hid (And.intro cu (grown_trans H1.out.2 gr))
    clear cu gr x1
    go_wp2
    go_ret
    exact ⟨x, ⟨by omega, by omega⟩, rfl, H2.out⟩
  · have hne : w1.heap.size ≠ g := by have := H1.out.1.lt; omega
    have HP := Lib.hid (d_pickint (w1.alloc (.cells #[.int .i64 (-1), .int .i64 0, .int .i64 10000000, .int .i64 10000001, .int .i64 9999500] 3)) B g len cap w1.heap.size 5 5 A 3 [-1, 0, 10000000, 10000001, 9999500] (H1.out.1.alloc _) rfl (by omega) (by omega) hne (fun x hx => by
      simp only [List.mem_cons, List.not_mem_nil, or_false] at hx
      rcases hx with rfl | rfl | rfl | rfl | rfl <;> omega) (heap_alloc_new w1 _))
    clear hne
    go_wp2_with fail
    refine HP.out.mono ?_
    rintro e w2 ⟨x, x0, x1, rfl, cu, gr⟩
    have H2 := Lib.hid (And.intro cu (grown_trans H1.out.2 (gr_alloc gr)))
    clear cu gr HP
    go_wp2
    go_ret
    exact ⟨x, ⟨x0, x1⟩, rfl, H2.out⟩
set_option maxRecDepth 100000 in
set_option maxHeartbeats 1000000 in
theorem d_node12 (w : World) (B g len cap : Nat) (A : Option Addr) (wd hi me : Int) (HA : Option Addr) (nh ch : Nat) (hn : nh ≤ 1048576) (hc : Cur w B g A len cap) :
    Calls Try.prog 13 #[.pointer (some ⟨g, 0, none⟩), .agg #[.int .i64 wd, .int .i64 hi, .int .i64 me, .slice HA nh ch]] w fun e w' => ∃ x : Int, In64 x ∧ e = .returned (.int .i64 x) ∧ Cur w' B g A len cap ∧ w.grownBy w' (some g) := by
  have hb0 := heap_alloc_new w (.cells #[.int .i64 wd, .int .i64 hi, .int .i64 me, .slice HA nh ch] 26)
  have hc1 := hc.alloc (.cells #[.int .i64 wd, .int .i64 hi, .int .i64 me, .slice HA nh ch] 26)
  have hgl := hc.lt
  have z0 : ((nh : Nat) : Int) * 0 = 0 := Int.mul_zero _
  have HB := Lib.hid (And.intro hb0 hc1)
  clear hb0 hc1 hc
  go_enter Try.func13, Try.ntmps13
  go_wp2_with fail
  refine (d_once 25 _ B g len cap A HB.out.2 (by omega)).mono ?_
  rintro e w1 ⟨t, rfl, cu, gr⟩
  have hbx := box_far HB.out.1 gr (fun e => by cases e; omega)
  obtain ⟨_, _, _, k3⟩ := cells4f hbx
  have H1 := Lib.hid (And.intro cu (gr_alloc gr))
  clear cu gr hbx HB
  cases t
  · go_wp2_with fail
    refine (d_below 4 _ B g len cap A H1.out.1 (by omega)).mono ?_
    rintro e w2 ⟨x, x0, x1, _, rfl, cu, gr⟩
    have x2 := x1 (by omega)
    have H2 := Lib.hid (And.intro cu (grown_trans H1.out.2 gr))
    clear cu gr x1 k3
    go_wp2
    go_ret
    exact ⟨x, ⟨by omega, by omega⟩, rfl, H2.out⟩
  · have hne : w1.heap.size ≠ g := by have := H1.out.1.lt; omega
    have HP := Lib.hid (d_pickint (w1.alloc (.cells #[.int .i64 (-1), .int .i64 9223372036854775807, .int .i64 4, .int .i64 6, .int .i64 9] 3)) B g len cap w1.heap.size 5 5 A 3 [-1, 9223372036854775807, 4, 6, 9] (H1.out.1.alloc _) rfl (by omega) (by omega) hne (fun x hx => by
      simp only [List.mem_cons, List.not_mem_nil, or_false] at hx
      rcases hx with rfl | rfl | rfl | rfl | rfl <;> omega) (heap_alloc_new w1 _))
    clear hne k3
    go_wp2_with fail
    refine HP.out.mono ?_
    rintro e w2 ⟨x, x0, x1, rfl, cu, gr⟩
    have H2 := Lib.hid (And.intro cu (grown_trans H1.out.2 (gr_alloc gr)))
    clear cu gr HP
    go_wp2
    go_ret
    exact ⟨x, ⟨x0, x1⟩, rfl, H2.out⟩
end Go.Proofs.Ytibkhmdnfloemaa
