/- The drawing of legs: l06Speed, l06Stream, l07Leg, l07Some, DrawRunLegs. -/
import Derived.Test.YtonfenekjocopaaRkC
import Derived.Test.YtonfenekjocopaaDrW
import Derived.Test.YtonfenekjocopaaDrG
import Derived.Test.YtonfenekjocopaaTdG
namespace Go.Proofs.Ytonfenekjocopaa
open Go.RowKit Ieee
set_option linter.unusedVariables false
set_option linter.unusedSimpArgs false
attribute [local go_sem] st_cplx

theorem quo_sixt (n : Int) : ∃ r, floatBits .quo .f32 (floatOfInt .f32 n) 1098907648 = some r ∧ r < 4294967296 := by
  obtain ⟨r, hr⟩ := fl_div_some FloatKind.f32.format (floatOfInt .f32 n) 1098907648 (fl_nearest_nan FloatKind.f32.format _ _ _) (s := false) (m := 8388608) (i := -19) (by kernel_rfl) (by omega)
  exact ⟨r, hr, FloatKind.f32.format.div_lt hr⟩

set_option maxRecDepth 100000 in
set_option maxHeartbeats 1000000 in
theorem d_speed (w : World) (B g len cap : Nat) (A : Option Addr) (hc : Cur w B g A len cap) :
    Calls Try.prog 98 #[.pointer (some ⟨g, 0, none⟩)] w fun e w' => ∃ x : Nat, x < 4294967296 ∧ e = .returned (.float .f32 x) ∧ Cur w' B g A len cap ∧ w.grownBy w' (some g) := by
  go_enter Try.func98, Try.ntmps98
  go_wp2_with fail
  refine (d_below 16 _ _ g len cap A hc (by omega)).mono ?_
  rintro e w1 ⟨k, k0, k1, k2, rfl, cur1, gr1⟩
  clear k1 k2
  have hcase : k = 0 ∨ k = 1 ∨ k = 2 ∨ 3 ≤ k := by omega
  rcases hcase with rfl | rfl | rfl | h3
  · go_wp2_with fail
    refine (d_single 60 _ _ g len cap A cur1 (by omega) (by omega)).mono ?_
    rintro e w2 ⟨x, xl, rfl, cur2, gr2⟩
    go_wp2
    go_ret
    exact ⟨x, xl, rfl, cur2, grown_trans gr1 gr2⟩
  · go_wp2
    go_ret
    exact ⟨_, by decide, rfl, cur1, gr1⟩
  · go_wp2
    go_ret
    exact ⟨_, by decide, rfl, cur1, gr1⟩
  · have e0 : (k == 0) = false := by simp; omega
    have e1 : (k == 1) = false := by simp; omega
    have e2 : (k == 2) = false := by simp; omega
    go_wp2_with fail
    refine (d_below 161 _ _ g len cap A cur1 (by omega)).mono ?_
    rintro e w2 ⟨i, i0, i1, i2, rfl, cur2, gr2⟩
    clear i1 i2
    obtain ⟨r, hr, hrl⟩ := quo_sixt i
    have q := fun w => run_float_arith (P := Try.prog) w .quo 35 .f32 _ _ _ hr
    clear hr
    go_wp2
    go_ret
    exact ⟨r, hrl, rfl, cur2, grown_trans gr1 gr2⟩

set_option maxRecDepth 100000 in
set_option maxHeartbeats 1000000 in
theorem d_stream (w : World) (B g len cap : Nat) (A : Option Addr) (hc : Cur w B g A len cap) :
    Calls Try.prog 35 #[.pointer (some ⟨g, 0, none⟩)] w fun e w' => ∃ x y : Nat, x < 4294967296 ∧ y < 4294967296 ∧ e = .returned (.complex .f32 x y) ∧ Cur w' B g A len cap ∧ w.grownBy w' (some g) := by
  go_enter Try.func35, Try.ntmps35
  go_wp2_with fail
  refine (d_below 12 _ _ g len cap A hc (by omega)).mono ?_
  rintro e w1 ⟨k, k0, k1, k2, rfl, cur1, gr1⟩
  clear k1 k2
  have hcase : k = 0 ∨ k = 1 ∨ 2 ≤ k := by omega
  rcases hcase with rfl | rfl | h3
  · go_wp2_with fail
    refine (d_air _ _ g len cap A cur1).mono ?_
    rintro e w2 ⟨x, y, xl, yl, rfl, cur2, gr2⟩
    go_wp2
    go_ret
    exact ⟨x, y, xl, yl, rfl, cur2, grown_trans gr1 gr2⟩
  · go_wp2
    go_ret
    exact ⟨_, _, by decide, by decide, rfl, cur1, gr1⟩
  · have e0 : (k == 0) = false := by simp; omega
    have e1 : (k == 1) = false := by simp; omega
    go_wp2_with fail
    refine (d_below 65 _ _ g len cap A cur1 (by omega)).mono ?_
    rintro e w2 ⟨i, i0, i1, i2, rfl, cur2, gr2⟩
    have i3 := i1 (by omega)
    clear i1 i2
    obtain ⟨r, hr, hrl⟩ := quo_sixt (i - 32)
    have q := fun w => run_float_arith (P := Try.prog) w .quo 35 .f32 _ _ _ hr
    clear hr
    go_wp2_with fail
    clear q
    refine (d_below 65 _ _ g len cap A cur2 (by omega)).mono ?_
    rintro e w3 ⟨i', j0, j1, j2, rfl, cur3, gr3⟩
    have j3 := j1 (by omega)
    clear j1 j2
    obtain ⟨r', hr', hrl'⟩ := quo_sixt (i' - 32)
    have q' := fun w => run_float_arith (P := Try.prog) w .quo 35 .f32 _ _ _ hr'
    clear hr'
    go_wp2
    go_ret
    exact ⟨r, r', hrl, hrl', rfl, cur3, grown_trans (grown_trans gr1 gr2) gr3⟩
set_option maxRecDepth 100000 in
set_option maxHeartbeats 2000000 in
theorem d_leg (w : World) (B g len cap : Nat) (A : Option Addr) (hc : Cur w B g A len cap) :
    Calls Try.prog 73 #[.pointer (some ⟨g, 0, none⟩)] w fun e w' => ∃ (hd : Int) (s : Nat) (n : Int), s < 4294967296 ∧ e = .returned (.agg #[.int .i64 hd, .float .f32 s, .int .i64 n]) ∧ Cur w' B g A len cap ∧ w.grownBy w' (some g) := by
  have hgl := hc.lt
  have hBg := hc.1
  have g0 := World.grownBy_alloc w (.cells #[.int .i64 0, .float .f32 0, .int .i64 0] 45) (some g)
  have hb := heap_alloc_new w (.cells #[.int .i64 0, .float .f32 0, .int .i64 0] 45)
  have cu0 := hc.alloc (.cells #[.int .i64 0, .float .f32 0, .int .i64 0] 45)
  go_enter Try.func73, Try.ntmps73
  go_wp2_with fail
  refine (d_degrees _ B g len cap A cu0).mono ?_
  rintro e w1 ⟨hd, h0, h1, rfl, cu1, gr1⟩
  have gr01 := grown_trans g0 gr1
  have hb1 := box_far hb gr1 (fun e => by cases e; omega)
  clear h0 h1 gr1 g0 cu0 hb
  go_wp2_with fail
  refine (d_speed _ B g len cap A cu1).mono ?_
  rintro e w2 ⟨s, sl, rfl, cu2, gr2⟩
  have gr02 := grown_trans gr01 gr2
  have hb2 := box_far hb1 gr2 (fun e => by cases e; omega)
  clear gr01 gr2 cu1 hb1
  go_wp2_with fail
  refine (d_below 4000 _ B g len cap A cu2 (by omega)).mono ?_
  rintro e w3 ⟨n, n0, n1, n2, rfl, cu3, gr3⟩
  have gr03 := grown_trans gr02 gr3
  have hb3 := box_far hb2 gr3 (fun e => by cases e; omega)
  have hz3 := block_lt hb3
  have a1 := fun (x y z : Value) => st_new Try.prog w3 x y z (.float .f32 s) 45 1 (by omega) rfl
  have a2 := fun (x y z : Value) => st_new Try.prog w3 x y z (.int .i64 n) 45 2 (by omega) rfl
  clear n0 n1 n2 gr02 gr3 cu2 hb2
  go_wp2_with fail
  clear a1 a2
  have hq4 := heap_alloc_new w3 (.cells #[.int .i64 hd, .float .f32 s, .int .i64 n] 45)
  have hb4 := (Below.heap_alloc w3 (.cells #[.int .i64 hd, .float .f32 s, .int .i64 n] 45) _ hz3).trans hb3
  have gr04 := grown_trans gr03 (World.grownBy_alloc w3 (.cells #[.int .i64 hd, .float .f32 s, .int .i64 n] 45) (some g))
  have cu4 := cu3.alloc (.cells #[.int .i64 hd, .float .f32 s, .int .i64 n] 45)
  have hgz := cu3.lt
  generalize w3.heap.size = q at *
  refine (d_below 14 _ B g len cap A cu4 (by omega)).mono ?_
  rintro e w5 ⟨k, k0, k1, k2, rfl, cu5, gr5⟩
  have gr05 := grown_trans gr04 gr5
  have hq5 := box_far hq4 gr5 (fun e => by cases e; omega)
  have hb5 := box_far hb4 gr5 (fun e => by cases e; omega)
  clear k1 k2 gr04 gr5 cu3 cu4 gr03 hq4 hb4 hb3
  have hcase : k = 0 ∨ k = 1 ∨ 2 ≤ k := by omega
  rcases hcase with rfl | rfl | h2
  · go_wp2_with fail
    have ca := cu5.alloc (.cells #[.int .i64 (-1), .int .i64 0, .int .i64 600, .int .i64 100000, .int .i64 100001] 3)
    have gra := grown_trans gr05 (World.grownBy_alloc w5 (.cells #[.int .i64 (-1), .int .i64 0, .int .i64 600, .int .i64 100000, .int .i64 100001] 3) (some g))
    have hqa := (Below.heap_alloc w5 (.cells #[.int .i64 (-1), .int .i64 0, .int .i64 600, .int .i64 100000, .int .i64 100001] 3) _ (block_lt hq5)).trans hq5
    have hba := (Below.heap_alloc w5 (.cells #[.int .i64 (-1), .int .i64 0, .int .i64 600, .int .i64 100000, .int .i64 100001] 3) _ (block_lt hb5)).trans hb5
    have hg5 := cu5.lt
    refine (d_pickint _ B g len cap w5.heap.size 5 5 A 3 [-1, 0, 600, 100000, 100001] ca rfl (by omega) (by omega) (by omega) (by intro x hx; simp at hx; omega) (heap_alloc_new w5 _)).mono ?_
    rintro e w6 ⟨x, x0, x1, rfl, cu6, gr6⟩
    have gr06 := grown_trans gra gr6
    have hq6 := box_far hqa gr6 (fun e => by cases e; omega)
    have hb6 := box_far hba gr6 (fun e => by cases e; omega)
    clear ca gra hqa hba gr6 cu5 gr05 hq5 hb5
    obtain ⟨_, x9, f9⟩ := cell_at hq6 (k := 2) rfl (show 2 < 3 by omega)
    have hqq := heap_set_self (k := 2) hq6 (.int .i64 x)
    have hb0 := (Below.heap_setCell w6 ⟨q, 2, none⟩ (.int .i64 x) w.heap.size (show w.heap.size ≠ q by omega)).trans hb6
    have cuW := cu6.grown_far (grown_set w6 q 2 (.int .i64 x)) (fun e => by cases e; omega) (fun j e => by cases e; omega)
    have grW := gr_new gr06 (grown_set w6 q 2 (.int .i64 x)) (fun j e => .inr (by cases e; omega))
    clear cu6 gr06 hq6 hb6
    obtain ⟨_, x0, y0⟩ := cell_at hb0 (k := 0) rfl (by simp)
    have p1 := heap_set_self (k := 0) hb0 (.int .i64 hd)
    have st1 := store_at (P := Try.prog) p1 (k := 1) rfl (show 1 < 3 by omega) (.float .f32 s) rfl
    have p2 := heap_set_self (k := 1) p1 (.float .f32 s)
    obtain ⟨_, x2, y2⟩ := cell_at p2 (k := 2) rfl (show 2 < 3 by omega)
    have p3 := heap_set_self (k := 2) p2 (.int .i64 x)
    have l0 := cell_of_row _ _ 0 _ _ _ hqq
    have l1 := cell_of_row _ _ 1 _ _ _ hqq
    have l2 := cell_of_row _ _ 2 _ _ _ hqq
    have g3 := grown_trans (grown_trans (grown_set (w6.setCell ⟨q, 2, none⟩ (.int .i64 x)) w.heap.size 0 (.int .i64 hd)) (grown_set _ w.heap.size 1 (.float .f32 s))) (grown_set _ w.heap.size 2 (.int .i64 x))
    have cuF := cuW.grown_far g3 (fun e => by cases e; omega) (fun j e => by cases e; omega)
    have grF := gr_new grW g3 (fun j e => .inr (by cases e; exact Nat.le_refl _))
    have HF := Lib.hid (And.intro (And.intro p3 sl) (And.intro cuF grF))
    clear p1 p2 p3 g3 cuF grF cuW grW
    go_wp2_with fail
    exact bodyPost_ret (v := .agg #[.int .i64 hd, .float .f32 s, .int .i64 x]) (results_cell_row (p := 2) (ty := 45) (by rfl) _ _ w.heap.size _ #[.int .i64 hd, .float .f32 s, .int .i64 x] (0, 0) _ (by rfl) HF.out.1.1 Try.underlying45 rfl Try.infoLg) rfl
      ⟨hd, s, x, HF.out.1.2, rfl, HF.out.2.1, HF.out.2.2⟩
  · go_wp2_with fail
    refine (d_below 5 _ B g len cap A cu5 (by omega)).mono ?_
    rintro e w6 ⟨x, x0, x1, x2, rfl, cu6, gr6⟩
    have x3 := x1 (by omega)
    have gr06 := grown_trans gr05 gr6
    have hg5 := cu5.lt
    have hq6 := box_far hq5 gr6 (fun e => by cases e; omega)
    have hb6 := box_far hb5 gr6 (fun e => by cases e; omega)
    have hx9 : wrap64 (600 * x) = 600 * x := by unfold wrap64; omega
    clear x1 x2 gr6 cu5 gr05 hq5 hb5
    obtain ⟨_, x9, f9⟩ := cell_at hq6 (k := 2) rfl (show 2 < 3 by omega)
    have hqq := heap_set_self (k := 2) hq6 (.int .i64 (600 * x))
    have hb0 := (Below.heap_setCell w6 ⟨q, 2, none⟩ (.int .i64 (600 * x)) w.heap.size (show w.heap.size ≠ q by omega)).trans hb6
    have cuW := cu6.grown_far (grown_set w6 q 2 (.int .i64 (600 * x))) (fun e => by cases e; omega) (fun j e => by cases e; omega)
    have grW := gr_new gr06 (grown_set w6 q 2 (.int .i64 (600 * x))) (fun j e => .inr (by cases e; omega))
    clear cu6 gr06 hq6 hb6
    obtain ⟨_, x0, y0⟩ := cell_at hb0 (k := 0) rfl (by simp)
    have p1 := heap_set_self (k := 0) hb0 (.int .i64 hd)
    have st1 := store_at (P := Try.prog) p1 (k := 1) rfl (show 1 < 3 by omega) (.float .f32 s) rfl
    have p2 := heap_set_self (k := 1) p1 (.float .f32 s)
    obtain ⟨_, x2, y2⟩ := cell_at p2 (k := 2) rfl (show 2 < 3 by omega)
    have p3 := heap_set_self (k := 2) p2 (.int .i64 (600 * x))
    have l0 := cell_of_row _ _ 0 _ _ _ hqq
    have l1 := cell_of_row _ _ 1 _ _ _ hqq
    have l2 := cell_of_row _ _ 2 _ _ _ hqq
    have g3 := grown_trans (grown_trans (grown_set (w6.setCell ⟨q, 2, none⟩ (.int .i64 (600 * x))) w.heap.size 0 (.int .i64 hd)) (grown_set _ w.heap.size 1 (.float .f32 s))) (grown_set _ w.heap.size 2 (.int .i64 (600 * x)))
    have cuF := cuW.grown_far g3 (fun e => by cases e; omega) (fun j e => by cases e; omega)
    have grF := gr_new grW g3 (fun j e => .inr (by cases e; exact Nat.le_refl _))
    have HF := Lib.hid (And.intro (And.intro p3 sl) (And.intro cuF grF))
    clear p1 p2 p3 g3 cuF grF cuW grW
    go_wp2_with fail
    exact bodyPost_ret (v := .agg #[.int .i64 hd, .float .f32 s, .int .i64 (600 * x)]) (results_cell_row (p := 2) (ty := 45) (by rfl) _ _ w.heap.size _ #[.int .i64 hd, .float .f32 s, .int .i64 (600 * x)] (0, 0) _ (by rfl) HF.out.1.1 Try.underlying45 rfl Try.infoLg) rfl
      ⟨hd, s, (600 * x), HF.out.1.2, rfl, HF.out.2.1, HF.out.2.2⟩
  · have e0 : (k == 0) = false := by simp; omega
    have e1 : (k == 1) = false := by simp; omega
    have hqq := hq5
    have hb0 := hb5
    have hg5 := cu5.lt
    obtain ⟨_, x0, y0⟩ := cell_at hb0 (k := 0) rfl (by simp)
    have p1 := heap_set_self (k := 0) hb0 (.int .i64 hd)
    have st1 := store_at (P := Try.prog) p1 (k := 1) rfl (show 1 < 3 by omega) (.float .f32 s) rfl
    have p2 := heap_set_self (k := 1) p1 (.float .f32 s)
    obtain ⟨_, x2, y2⟩ := cell_at p2 (k := 2) rfl (show 2 < 3 by omega)
    have p3 := heap_set_self (k := 2) p2 (.int .i64 n)
    have l0 := cell_of_row _ _ 0 _ _ _ hqq
    have l1 := cell_of_row _ _ 1 _ _ _ hqq
    have l2 := cell_of_row _ _ 2 _ _ _ hqq
    have g3 := grown_trans (grown_trans (grown_set w5 w.heap.size 0 (.int .i64 hd)) (grown_set _ w.heap.size 1 (.float .f32 s))) (grown_set _ w.heap.size 2 (.int .i64 n))
    have cuF := cu5.grown_far g3 (fun e => by cases e; omega) (fun j e => by cases e; omega)
    have grF := gr_new gr05 g3 (fun j e => .inr (by cases e; exact Nat.le_refl _))
    have HF := Lib.hid (And.intro (And.intro p3 sl) (And.intro cuF grF))
    clear p1 p2 p3 g3 cuF grF cu5 gr05
    go_wp2_with fail
    exact bodyPost_ret (v := .agg #[.int .i64 hd, .float .f32 s, .int .i64 n]) (results_cell_row (p := 2) (ty := 45) (by rfl) _ _ w.heap.size _ #[.int .i64 hd, .float .f32 s, .int .i64 n] (0, 0) _ (by rfl) HF.out.1.1 Try.underlying45 rfl Try.infoLg) rfl
      ⟨hd, s, n, HF.out.1.2, rfl, HF.out.2.1, HF.out.2.2⟩
end Go.Proofs.Ytonfenekjocopaa
