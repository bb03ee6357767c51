/- The drawing of polars: DrawScalePolar. -/
import Derived.Test.YtdhdefhllleeiaaPdG
namespace Go.Proofs.Ytdhdefhllleeiaa
open Go.RowKit Ieee
set_option linter.unusedSimpArgs false
set_option linter.unusedVariables false

set_option maxRecDepth 100000 in
set_option maxHeartbeats 4000000 in
theorem d_scalePolar (w : World) (len cap : Nat) (A : Option Addr) (hcode : Code w w.heap.size A len) :
    Calls Try.prog 23 #[.slice A len cap] w fun e w' => ∃ (vW vA vS : Value) (n na m x : Nat), e = .returned (.tuple #[.agg #[vW, vA, vS], .float .f32 x]) ∧ PolT (w.heap.size + 1) w' vW vA vS n na m ∧ x < 4294967296 ∧ Below w.heap.size w w' := by
  have b0 : Below w.heap.size w (w.alloc (.cells #[.slice none 0 0, .slice none 0 0, .slice none 0 0] 28)) := (Below.refl _ w).alloc (Nat.le_refl _) _
  have s1 : (w.alloc (.cells #[.slice none 0 0, .slice none 0 0, .slice none 0 0] 28)).heap.size = w.heap.size + 1 := by simp
  have hc1 := hcode.step b0 (Nat.le_succ _)
  have hr0 := heap_alloc_new w (.cells #[.slice none 0 0, .slice none 0 0, .slice none 0 0] 28)
  go_enter Try.func23, Try.ntmps23
  go_wp2_with fail
  refine (d_new _ (w.heap.size + 1) len cap A (by rw [s1]; exact Nat.le_refl _) hc1).mono ?_
  rintro e w2 ⟨g, rfl, cu, b2⟩
  have b02 := b0.trans (b2.mono (Nat.le_succ _))
  have r2 := (b2.block w.heap.size (by omega)).trans hr0
  have hs2 := b2.size
  rw [s1] at hs2
  have hg2 := cu.lt
  clear hc1 b0 hr0 b2
  go_wp2_with fail
  refine (d_any _ _ g len cap A cu).mono ?_
  rintro e w3 ⟨vW, vA, vS, n', na', m', rfl, pt, cu3, gr⟩
  have hg0 := cu.1
  have b03 := below_cur b02 (Nat.le_refl _) gr (by omega)
  have r3 := (gr.block w.heap.size (by omega) (fun e => by cases e; omega)).trans r2
  have hs3 := gr.size
  obtain ⟨AW, cW', rfl, _⟩ := pt.2.1
  obtain ⟨AA, cA', rfl, _⟩ := pt.2.2.1
  obtain ⟨AS, cS', rfl, _⟩ := pt.2.2.2
  have b04 := b03.alloc b03.size (.cells #[.slice AW n' cW', .slice AA na' cA', .slice AS m' cS'] 28)
  have r4 := (Below.heap_alloc w3 (.cells #[.slice AW n' cW', .slice AA na' cA', .slice AS m' cS'] 28) w.heap.size (by omega)).trans r3
  have PT4 := Lib.hid (pt.same (fun k _ hk => Below.heap_alloc w3 (.cells #[.slice AW n' cW', .slice AA na' cA', .slice AS m' cS'] 28) k hk))
  have bx4 := heap_alloc_new w3 (.cells #[.slice AW n' cW', .slice AA na' cA', .slice AS m' cS'] 28)
  have cu4 := cu3.alloc (.cells #[.slice AW n' cW', .slice AA na' cA', .slice AS m' cS'] 28)
  have hs4 : (w3.alloc (.cells #[.slice AW n' cW', .slice AA na' cA', .slice AS m' cS'] 28)).heap.size = w3.heap.size + 1 := by simp
  have R4 := Lib.hid r4
  have B4 := Lib.hid b04
  have BX4 := Lib.hid bx4
  clear pt cu3 cu gr r2 r3 r4 b02 b03 b04 bx4
  go_wp2_with fail
  refine (d_below 5 _ _ g len cap A cu4 (by omega)).mono ?_
  rintro e w5 ⟨c, c0, c1, c2, rfl, cu5, gr5⟩
  have bx5 := box_far BX4.out gr5 (fun e => by cases e; omega)
  have PT5 := Lib.hid (PT4.out.same (grown_hi gr5 (fun k e => by cases e; omega)))
  have R5 := Lib.hid (box_far R4.out gr5 (fun e => by cases e; omega))
  have B5 := Lib.hid (below_cur B4.out (Nat.le_refl _) gr5 (by omega))
  have hs5 := gr5.size
  have BX5 := Lib.hid bx5
  have k0 := cell_of_row w5 _ 0 _ _ _ bx5
  have k1 := cell_of_row w5 _ 1 _ _ _ bx5
  have k2 := cell_of_row w5 _ 2 _ _ _ bx5
  have cd := cu5.grown_far (grown_drewN w5 1 none) (by simp) (fun k e => by cases e)
  clear bx5 PT4 R4 B4 BX4 cu4 gr5 cu5 c1 c2
  by_cases e0 : c = 0
  · subst e0
    have S3 := Lib.hid (store3 (w := w) R5.out PT5.out (by omega) B5.out)
    obtain ⟨_, _, _, ⟨x0, y0⟩, ⟨x1, y1⟩, x2, y2⟩ := S3.out.1
    clear cd
    go_wp2_with fail
    refine bodyPost_ret (res_cell_tmp (fn := Try.f23) (p := 2) (u := 3) (ty := 28) rfl _ _ w.heap.size _ #[.slice AW n' cW', .slice AA na' cA', .slice AS m' cS'] (0, 0) _ rfl S3.out.2.1 Try.underlying28 rfl Try.infoP) rfl ?_
    exact ⟨_, _, _, n', na', m', _, rfl, S3.out.2.2.1.low (by omega), by omega, S3.out.2.2.2⟩
  by_cases e1 : c = 1
  · subst e1
    go_upto_region 7 with fail
    go_region_with ((go_at_call 53; refine (d_single 20 _ _ g len cap A cd (by omega) (by omega)).mono ?_; rintro e w6 ⟨x, xl, rfl, cu6, gr6⟩; have bx6 := box_far (w1 := w5.drew) BX5.out gr6 (fun e => by cases e; omega); have l0 := cell_of_row w6 _ 0 _ _ _ bx6; have l1 := cell_of_row w6 _ 1 _ _ _ bx6; have l2 := cell_of_row w6 _ 2 _ _ _ bx6; have S3 := Lib.hid (store3 (w := w) (box_far (w1 := w5.drew) R5.out gr6 (fun e => by cases e; omega)) (PT5.out.same (grown_hi (w := w5.drew) gr6 (fun k e => by cases e; omega))) (by omega) (below_cur (w1 := w5.drew) (below_drewN B5.out 1) (Nat.le_refl _) gr6 (by omega))); obtain ⟨_, _, _, ⟨x0, y0⟩, ⟨x1, y1⟩, x2, y2⟩ := S3.out.1; clear bx6))
    all_goals (
      go_wp2_with fail
      refine bodyPost_ret (res_cell_tmp (fn := Try.f23) (p := 2) (u := 3) (ty := 28) rfl _ _ w.heap.size _ #[.slice AW n' cW', .slice AA na' cA', .slice AS m' cS'] (0, 0) _ rfl S3.out.2.1 Try.underlying28 rfl Try.infoP) rfl ?_
      exact ⟨_, _, _, n', na', m', x, rfl, S3.out.2.2.1.low (by omega), xl, S3.out.2.2.2⟩)
  · go_upto_region 8 with fail
    go_region_with ((go_at_call 54; refine (d_part _ _ g len cap A cd).mono ?_; rintro e w6 ⟨x, xl, rfl, cu6, gr6⟩; have bx6 := box_far (w1 := w5.drew) BX5.out gr6 (fun e => by cases e; omega); have l0 := cell_of_row w6 _ 0 _ _ _ bx6; have l1 := cell_of_row w6 _ 1 _ _ _ bx6; have l2 := cell_of_row w6 _ 2 _ _ _ bx6; have S3 := Lib.hid (store3 (w := w) (box_far (w1 := w5.drew) R5.out gr6 (fun e => by cases e; omega)) (PT5.out.same (grown_hi (w := w5.drew) gr6 (fun k e => by cases e; omega))) (by omega) (below_cur (w1 := w5.drew) (below_drewN B5.out 1) (Nat.le_refl _) gr6 (by omega))); obtain ⟨_, _, _, ⟨x0, y0⟩, ⟨x1, y1⟩, x2, y2⟩ := S3.out.1; clear bx6))
    all_goals (
      go_wp2_with fail
      refine bodyPost_ret (res_cell_tmp (fn := Try.f23) (p := 2) (u := 3) (ty := 28) rfl _ _ w.heap.size _ #[.slice AW n' cW', .slice AA na' cA', .slice AS m' cS'] (0, 0) _ rfl S3.out.2.1 Try.underlying28 rfl Try.infoP) rfl ?_
      exact ⟨_, _, _, n', na', m', x, rfl, S3.out.2.2.1.low (by omega), xl, S3.out.2.2.2⟩)
end Go.Proofs.Ytdhdefhllleeiaa
