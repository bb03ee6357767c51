/- The drawing of a moment: l11Moment. -/
import Derived.Test.YtlliiecdadiagaaLpL
import Derived.Test.YtlliiecdadiagaaDrW
import Derived.Test.YtlliiecdadiagaaOwnA
import Derived.OpenShut
namespace Go.Proofs.Ytlliiecdadiagaa
open Go.RowKit Ieee
set_option linter.unusedVariables false
set_option linter.unusedSimpArgs false

theorem quo_four (n : Int) : ∃ r, floatBits .quo .f32 (floatOfInt .f32 n) 1082130432 = some r ∧ r < 4294967296 := by
  obtain ⟨r, hr⟩ := fl_div_some FloatKind.f32.format (floatOfInt .f32 n) 1082130432 (fl_nearest_nan FloatKind.f32.format _ _ _) (s := false) (m := 8388608) (i := -21) (by kernel_rfl) (by omega)
  exact ⟨r, hr, FloatKind.f32.format.div_lt hr⟩
theorem wrap_in11 (x : Int) : -9223372036854775808 ≤ IntKind.i64.wrap x ∧ IntKind.i64.wrap x ≤ 9223372036854775807 := by
  have := (Lit.wf_int_iff .i64 (IntKind.i64.wrap x)).1 (Go.wf_wrap .i64 x)
  rw [IntKind.min_i64, IntKind.max_i64] at this
  exact this
theorem Try.info11Mz : (Try.prog.info? 42).map (·.size) = some 2 := by kernel_rfl
/-- What stands while a moment is drawn. -/
def MoV (w : World) (B g : Nat) (A : Option Addr) (len cap gx : Nat) (m : Mm) (wx : World) : Prop :=
  w.grownBy wx (some g) ∧ Cur wx B g A len cap ∧ g < w.heap.size ∧ w.heap.size < gx ∧ wx.heap[w.heap.size]? = some (.cells #[.float .f32 0, .int .i64 0] 42 (0, 0)) ∧ wx.heap[gx]? = some (.cells #[.float .f32 m.1, .int .i64 m.2] 42 (0, 0)) ∧ MmWf m
theorem MoV.draw {w w1 w2 : World} {B g : Nat} {A : Option Addr} {len cap gx : Nat} {m : Mm} (h : MoV w B g A len cap gx m w1) (c : Cur w2 B g A len cap) (k : w1.grownBy w2 (some g)) : MoV w B g A len cap gx m w2 := by
  obtain ⟨h1, h2, h3, h4, h5, h6, h7⟩ := h
  exact ⟨grown_trans h1 k, c, h3, h4, box_far h5 k (fun e => by cases e; omega), box_far h6 k (fun e => by cases e; omega), h7⟩
theorem MoV.put {w w1 : World} {B g : Nat} {A : Option Addr} {len cap gx c : Nat} {m m' : Mm} {x : Value} (h : MoV w B g A len cap gx m w1) (e : (#[Value.float .f32 m.1, .int .i64 m.2] : Array Value).setIfInBounds c x = #[.float .f32 m'.1, .int .i64 m'.2]) (hm : MmWf m') : MoV w B g A len cap gx m' (w1.setCell ⟨gx, c, none⟩ x) := by
  obtain ⟨h1, h2, h3, h4, h5, h6, h7⟩ := h
  have k := grown_set w1 gx c x
  have hB := h2.1
  refine ⟨gr_new h1 k fun j q => .inr (by cases q; omega), h2.grown_far k (fun q => by cases q; omega) (fun j q => by cases q; omega), h3, h4, box_far h5 k (fun q => by cases q; omega), ?_, hm⟩
  rw [← e]; exact heap_set_self h6 x
theorem MoV.new {w w1 : World} {B g : Nat} {A : Option Addr} {len cap : Nat} {m : Mm} (h1 : w.grownBy w1 (some g)) (h2 : Cur w1 B g A len cap) (h3 : g < w.heap.size) (h5 : w1.heap[w.heap.size]? = some (.cells #[.float .f32 0, .int .i64 0] 42 (0, 0))) (hm : MmWf m) :
    MoV w B g A len cap w1.heap.size m (w1.alloc (.cells #[.float .f32 m.1, .int .i64 m.2] 42)) :=
  ⟨grown_trans h1 (World.grownBy_alloc w1 _ _), h2.alloc _, h3, block_lt h5, (Below.heap_alloc w1 _ _ (block_lt h5)).trans h5, heap_alloc_new w1 _, hm⟩
set_option maxRecDepth 100000 in
set_option maxHeartbeats 8000000 in
theorem d_mom (w : World) (B g len cap : Nat) (A : Option Addr) (hc : Cur w B g A len cap) :
    Calls Try.prog 66 #[.pointer (some ⟨g, 0, none⟩)] w fun e w' => ∃ m : Mm, MmWf m ∧ e = .returned (.agg #[.float .f32 m.1, .int .i64 m.2]) ∧ Cur w' B g A len cap ∧ w.grownBy w' (some g) := by
  have hgl := hc.lt
  have hR0 := heap_alloc_new w (.cells #[.float .f32 0, .int .i64 0] 42)
  have g0 := World.grownBy_alloc w (.cells #[.float .f32 0, .int .i64 0] 42) (some g)
  have cu0 := hc.alloc (.cells #[.float .f32 0, .int .i64 0] 42)
  have HG := Lib.hid hgl
  clear hgl
  go_enter Try.func66, Try.ntmps66
  go_wp2_with fail
  refine (d_below 101 _ B g len cap A cu0 (by omega)).mono ?_
  rintro e w1 ⟨x, x0, x1, _, rfl, cu1, gr1⟩
  have H1 := Lib.hid (And.intro (grown_trans g0 gr1) (And.intro cu1 (box_far hR0 gr1 (fun e => by cases e; have := HG.out; omega))))
  clear hR0 g0 cu0 gr1 cu1 x1
  obtain ⟨r, hr, rl⟩ := quo_four x
  have hq := fun w => run_float_arith (P := Try.prog) w .quo 38 .f32 _ _ _ hr
  go_wp2_with fail
  refine (d_below 181 _ B g len cap A H1.out.2.1 (by omega)).mono ?_
  rintro e w2 ⟨y, y0, y1, _, rfl, cu2, gr2⟩
  have H2 := Lib.hid (MoV.new (m := (r, y)) (grown_trans H1.out.1 gr2) cu2 HG.out (box_far H1.out.2.2 gr2 (fun e => by cases e; have := HG.out; omega)) ⟨rl, by have := y1 (by omega); omega⟩)
  have a0 := fun (x z : Value) => st_new2 Try.prog w2 x z (.float .f32 r) 42 0 (by omega) rfl
  clear H1 gr2 cu2 y1 hr
  go_wp2_with fail
  clear a0 hq
  generalize hW : w2.alloc _ = W at *
  generalize w2.heap.size = gx at *
  clear hW
  refine (d_below 20 _ B g len cap A H2.out.2.1 (by omega)).mono ?_
  rintro e w3 ⟨z, z0, z1, _, rfl, cu3, gr3⟩
  have H3 := Lib.hid (H2.out.draw cu3 gr3)
  clear cu3 gr3 H2 z1
  go_upto_block 0 with fail
  go_cut [] (fun wx => ∃ m, MoV w B g A len cap gx m wx)
  case first =>
    by_cases e0 : z = 0
    · subst e0
      go_wp2_with fail
      refine (d_single 300 _ B g len cap A H3.out.2.1 (by omega) (by omega)).mono ?_
      rintro e w4 ⟨u, ul, rfl, cu4, gr4⟩
      have H4 := Lib.hid (H3.out.draw cu4 gr4)
      have hs := store_at (P := Try.prog) H4.out.2.2.2.2.2.1 (k := 0) (n := 2) rfl (by omega) (.float .f32 u) rfl
      have H5 := Lib.hid (H4.out.put (c := 0) (x := .float .f32 u) (m' := (u, y)) rfl ⟨ul, H4.out.2.2.2.2.2.2.2⟩)
      clear cu4 gr4 H3
      go_wp2_with fail
      go_meet
      exact ⟨_, H5.out⟩
    by_cases e1 : z = 1
    · subst e1
      go_wp2_with fail
      refine (d_number _ B g len cap A H3.out.2.1).mono ?_
      rintro e w4 ⟨u, u0, u1, rfl, cu4, gr4⟩
      have H4 := Lib.hid (H3.out.draw cu4 gr4)
      obtain ⟨_, c1, f1⟩ := cell_at H4.out.2.2.2.2.2.1 (k := 1) (n := 2) rfl (by omega)
      have hv := wrap_in11 (u - 3)
      generalize hvv : IntKind.i64.wrap (u - 3) = v at *
      have H5 := Lib.hid (H4.out.put (c := 1) (x := .int .i64 v) (m' := (r, v)) rfl ⟨H4.out.2.2.2.2.2.2.1, hv⟩)
      clear cu4 gr4 H3
      go_wp2_with fail
      go_meet
      exact ⟨_, H5.out⟩
    go_wp2_with fail
    go_meet
    exact ⟨_, H3.out⟩
  case rest =>
  clear H3
  obtain ⟨⟨p, q⟩, hd⟩ := hcut
  have c0 := cell_of_row wc gx 0 _ _ _ hd.2.2.2.2.2.1
  have c1 := cell_of_row wc gx 1 _ _ _ hd.2.2.2.2.2.1
  have hR := hd.2.2.2.2.1
  have s0 := store_at (P := Try.prog) hR (k := 0) (n := 2) rfl (by omega) (.float .f32 p) rfl
  obtain ⟨_, x0, f0⟩ := cell_at hR (k := 0) (n := 2) rfl (by omega)
  have h1 : (wc.setCell ⟨w.heap.size, 0, none⟩ (.float .f32 p)).heap[w.heap.size]? = some (.cells #[.float .f32 p, .int .i64 0] 42 (0, 0)) := heap_set_self (k := 0) hR (.float .f32 p)
  obtain ⟨_, x1, f1⟩ := cell_at h1 (k := 1) (n := 2) rfl (by omega)
  have h2 : ((wc.setCell ⟨w.heap.size, 0, none⟩ (.float .f32 p)).setCell ⟨w.heap.size, 1, none⟩ (.int .i64 q)).heap[w.heap.size]? = some (.cells #[.float .f32 p, .int .i64 q] 42 (0, 0)) := heap_set_self (k := 1) h1 (.int .i64 q)
  have gs := grown_trans (grown_set wc w.heap.size 0 (.float .f32 p)) (grown_set _ w.heap.size 1 (.int .i64 q))
  have hBg := hd.2.1.1
  have hG := HG.out
  have HF := Lib.hid (And.intro h2 (And.intro hd.2.2.2.2.2.2 (And.intro (hd.2.1.grown_far gs (fun e => by injection e with e; omega) (fun j e => by injection e with e; omega)) (gr_new hd.1 gs (fun j e => .inr (by injection e with e; omega))))))
  clear hd h1 h2 gs hR hG hBg HG
  dsimp only at c0 c1
  go_wp2_with fail
  exact bodyPost_ret (v := .agg #[.float .f32 p, .int .i64 q]) (results_cell_row (p := 2) (ty := 42) (by rfl) _ _ w.heap.size _ #[.float .f32 p, .int .i64 q] (0, 0) _ (by rfl) HF.out.1 Try.underlying42 rfl Try.info11Mz) rfl ⟨(p, q), HF.out.2.1, rfl, HF.out.2.2.1, HF.out.2.2.2⟩
set_option maxRecDepth 100000 in
set_option maxHeartbeats 2000000 in
theorem d_spot11 (n : Nat) (hn : n ≤ 1000) (w : World) (B g len cap : Nat) (A : Option Addr) (hc : Cur w B g A len cap) :
    Calls Try.prog 56 #[.pointer (some ⟨g, 0, none⟩), .int .i64 n] w fun e w' => ∃ r : Int, -9223372036854775808 ≤ r ∧ r ≤ 9223372036854775807 ∧ e = .returned (.int .i64 r) ∧ Cur w' B g A len cap ∧ w.grownBy w' (some g) := by
  have v1 : wrap64 ((n : Int) + 1) = (n : Int) + 1 := by unfold wrap64; omega
  go_enter Try.func56, Try.ntmps56
  go_wp2_with fail
  refine (d_once 15 _ B g len cap A hc (by omega)).mono ?_
  rintro e w1 ⟨t, rfl, cu1, gr1⟩
  cases t
  · go_wp2_with fail
    refine (d_below n _ B g len cap A cu1 (by omega)).mono ?_
    rintro e w2 ⟨x, x0, x1, x2, rfl, cu2, gr2⟩
    have x3 : x ≤ 1000 := by
      rcases Nat.eq_zero_or_pos n with h | h
      · have := x2 (by omega); omega
      · have := x1 (by omega); omega
    clear x1 x2
    go_wp2
    go_ret
    exact ⟨x, by omega, by omega, rfl, cu2, grown_trans gr1 gr2⟩
  · go_wp2_with fail
    refine (d_pickint _ B g len cap w1.heap.size 5 5 A 3 [-1, n, n + 1, 9223372036854775807, -9223372036854775808] (cu1.alloc _) rfl (by omega) (by omega) (by have := cu1.lt; omega) (by intro x hx; simp at hx; omega) (heap_alloc_new w1 _)).mono ?_
    rintro e w2 ⟨x, x0, x1, rfl, cu2, gr2⟩
    go_wp2
    go_ret
    exact ⟨x, x0, x1, rfl, cu2, grown_trans gr1 (grown_trans (World.grownBy_alloc w1 _ _) gr2)⟩
end Go.Proofs.Ytlliiecdadiagaa
