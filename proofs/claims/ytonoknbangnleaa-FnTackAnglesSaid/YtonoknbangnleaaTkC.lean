/- The drawing of winds and polars: l08Wind, DrawTackHeadings. -/
import Derived.Test.YtonoknbangnleaaXZ
import Derived.Test.YtonoknbangnleaaDrW
namespace Go.Proofs.Ytonoknbangnleaa
open Go.RowKit Ieee
set_option linter.unusedSimpArgs false
set_option linter.unusedVariables false

/-- What stands while a law looks at its polar in block gp. -/
def LySt (w : World) (P : Pol) (gp : Nat) (wr : World) : Prop :=
  Below w.heap.size w wr ∧ wr.heap[gp]? = some (.cells #[.slice P.W P.nw P.cw, .slice P.A P.na P.ca, .slice P.S P.ns P.cs] 28 (0, 0)) ∧ PolIn wr P ∧ w.heap.size ≤ gp
theorem LySt.new {w w1 : World} {P : Pol} (h : PolIn w1 P) (b : Below w.heap.size w w1) : LySt w P w1.heap.size (w1.alloc (.cells #[.slice P.W P.nw P.cw, .slice P.A P.na P.ca, .slice P.S P.ns P.cs] 28)) :=
  ⟨b.alloc b.size _, heap_alloc_new _ _, h.keeps (keeps_alloc _ _), b.size⟩
theorem LySt.step {w w1 w2 : World} {P : Pol} {gp : Nat} (h : LySt w P gp w1) (b : Below w1.heap.size w1 w2) : LySt w P gp w2 :=
  ⟨h.1.trans (b.mono h.1.size), (b.block gp (block_lt h.2.1)).trans h.2.1, h.2.2.1.keeps (Below.keeps b), h.2.2.2⟩
theorem LySt.drawn {w w1 w2 : World} {P : Pol} {gp : Nat} (h : LySt w P gp w1) (d : Drawn w1 w2) : LySt w P gp w2 := by
  obtain ⟨n, rfl⟩ := d
  exact h.step (drewN_below _ _)
theorem LySt.d0 {w w' : World} {P : Pol} {gp : Nat} (h : LySt w P gp w') : w'.cell? ⟨gp, 0, none⟩ = some (.slice P.W P.nw P.cw) := cell_of_row w' _ 0 _ _ _ h.2.1
theorem LySt.d1 {w w' : World} {P : Pol} {gp : Nat} (h : LySt w P gp w') : w'.cell? ⟨gp, 1, none⟩ = some (.slice P.A P.na P.ca) := cell_of_row w' _ 1 _ _ _ h.2.1
theorem LySt.d2 {w w' : World} {P : Pol} {gp : Nat} (h : LySt w P gp w') : w'.cell? ⟨gp, 2, none⟩ = some (.slice P.S P.ns P.cs) := cell_of_row w' _ 2 _ _ _ h.2.1
theorem LySt.below {w w' : World} {P : Pol} {gp : Nat} (h : LySt w P gp w') : Below w.heap.size w w' := h.1
theorem LySt.pol {w w' : World} {P : Pol} {gp : Nat} (h : LySt w P gp w') : PolIn w' P := h.2.2.1
set_option maxRecDepth 100000 in
set_option maxHeartbeats 1000000 in
theorem d_wind (w : World) (B g len cap : Nat) (A : Option Addr) (hc : Cur w B g A len cap) :
    Calls Try.prog 25 #[.pointer (some ⟨g, 0, none⟩)] w fun e w' => ∃ x y : Nat, x < 4294967296 ∧ y < 4294967296 ∧ e = .returned (.complex .f32 x y) ∧ Cur w' B g A len cap ∧ w.grownBy w' (some g) := by
  go_enter Try.func25, Try.ntmps25
  go_wp2_with fail
  refine (d_once 12 _ _ g len cap A hc (by omega)).mono ?_
  rintro e w1 ⟨t, rfl, cur1, gr1⟩
  cases t
  · go_wp2_with fail
    refine (d_below 129 _ _ g len cap A cur1 (by omega)).mono ?_
    rintro e w2 ⟨i, i0, i1, i2, rfl, cur2, gr2⟩
    have i3 := i1 (by omega)
    clear i1 i2
    obtain ⟨r, hr, hrl⟩ := quo_eight (i - 64)
    have q := fun w => run_float_arith (P := Try.prog) w .quo 37 .f32 _ _ _ hr
    clear hr
    go_wp2_with fail
    clear q
    refine (d_below 129 _ _ g len cap A cur2 (by omega)).mono ?_
    rintro e w3 ⟨i', j0, j1, j2, rfl, cur3, gr3⟩
    have j3 := j1 (by omega)
    clear j1 j2
    obtain ⟨r', hr', hrl'⟩ := quo_eight (i' - 64)
    have q' := fun w => run_float_arith (P := Try.prog) w .quo 37 .f32 _ _ _ hr'
    clear hr'
    go_wp2
    go_ret
    exact ⟨r, r', hrl, hrl', rfl, cur3, grown_trans (grown_trans gr1 gr2) gr3⟩
  · go_wp2_with fail
    refine (d_air _ _ g len cap A cur1).mono ?_
    rintro e w2 ⟨x, y, xl, yl, rfl, cur2, gr2⟩
    go_wp2
    go_ret
    exact ⟨x, y, xl, yl, rfl, cur2, grown_trans gr1 gr2⟩
set_option maxRecDepth 100000 in
set_option maxHeartbeats 4000000 in
theorem d_tack (w : World) (len cap : Nat) (A : Option Addr) (hcode : Code w w.heap.size A len) :
    Calls Try.prog 6 #[.slice A len cap] w fun e w' => ∃ (vW vA vS : Value) (n na m x y : Nat), e = .returned (.tuple #[.agg #[vW, vA, vS], .complex .f32 x y]) ∧ PolT (w.heap.size + 1) w' vW vA vS n na m ∧ x < 4294967296 ∧ y < 4294967296 ∧ Below w.heap.size w w' := by
  have b0 : Below w.heap.size w (w.alloc (.cells #[.slice none 0 0, .slice none 0 0, .slice none 0 0] 28)) := (Below.refl _ w).alloc (Nat.le_refl _) _
  have s1 : (w.alloc (.cells #[.slice none 0 0, .slice none 0 0, .slice none 0 0] 28)).heap.size = w.heap.size + 1 := by simp
  have hc1 := hcode.step b0 (Nat.le_succ _)
  have hr0 := heap_alloc_new w (.cells #[.slice none 0 0, .slice none 0 0, .slice none 0 0] 28)
  go_enter Try.func6, Try.ntmps6
  go_wp2_with fail
  refine (d_new _ (w.heap.size + 1) len cap A (by rw [s1]; exact Nat.le_refl _) hc1).mono ?_
  rintro e w2 ⟨g, rfl, cu, b2⟩
  have b02 := b0.trans (b2.mono (Nat.le_succ _))
  have r2 := (b2.block w.heap.size (by omega)).trans hr0
  have hs2 := b2.size
  rw [s1] at hs2
  have hg2 := cu.lt
  clear hc1 b0 hr0 b2
  go_wp2_with fail
  refine (d_any _ _ g len cap A cu).mono ?_
  rintro e w3 ⟨vW, vA, vS, n', na', m', rfl, pt, cu3, gr⟩
  have hg0 := cu.1
  have b03 := below_cur b02 (Nat.le_refl _) gr (by omega)
  have r3 := (gr.block w.heap.size (by omega) (fun e => by cases e; omega)).trans r2
  have hs3 := gr.size
  obtain ⟨AW, cW', rfl, _⟩ := pt.2.1
  obtain ⟨AA, cA', rfl, _⟩ := pt.2.2.1
  obtain ⟨AS, cS', rfl, _⟩ := pt.2.2.2
  have b04 := b03.alloc b03.size (.cells #[.slice AW n' cW', .slice AA na' cA', .slice AS m' cS'] 28)
  have r4 := (Below.heap_alloc w3 (.cells #[.slice AW n' cW', .slice AA na' cA', .slice AS m' cS'] 28) w.heap.size (by omega)).trans r3
  have PT4 := Lib.hid (pt.same (fun k _ hk => Below.heap_alloc w3 (.cells #[.slice AW n' cW', .slice AA na' cA', .slice AS m' cS'] 28) k hk))
  have bx4 := heap_alloc_new w3 (.cells #[.slice AW n' cW', .slice AA na' cA', .slice AS m' cS'] 28)
  have cu4 := cu3.alloc (.cells #[.slice AW n' cW', .slice AA na' cA', .slice AS m' cS'] 28)
  have hs4 : (w3.alloc (.cells #[.slice AW n' cW', .slice AA na' cA', .slice AS m' cS'] 28)).heap.size = w3.heap.size + 1 := by simp
  have k0 := cell_of_row _ _ 0 _ _ _ bx4
  have k1 := cell_of_row _ _ 1 _ _ _ bx4
  have k2 := cell_of_row _ _ 2 _ _ _ bx4
  have cd := cu4.grown_far (grown_drewN _ 1 none) (by simp) (fun k e => by cases e)
  have R4 := Lib.hid r4
  have B4 := Lib.hid b04
  have BX4 := Lib.hid bx4
  clear pt cu3 cu gr r2 r3 r4 b02 b03 b04 bx4 cu4
  go_upto_region 3 with fail
  generalize hw4 : w3.alloc (.cells #[.slice AW n' cW', .slice AA na' cA', .slice AS m' cS'] 28) = w4 at *
  have hgg : w.heap.size ≠ g := by omega
  go_region_with ((go_at_call 25; refine (d_wind _ _ g len cap A cd).mono ?_; rintro e w6 ⟨x, y, xl, yl, rfl, cu6, gr6⟩; have bx6 := box_far (w1 := w4.drew) BX4.out gr6 (fun e => by cases e; omega); have l0 := cell_of_row w6 _ 0 _ _ _ bx6; have l1 := cell_of_row w6 _ 1 _ _ _ bx6; have l2 := cell_of_row w6 _ 2 _ _ _ bx6; have S3 := Lib.hid (store3 (w := w) (box_far (w1 := w4.drew) R4.out gr6 (fun e => by cases e; omega)) (PT4.out.same (grown_hi (w := w4.drew) gr6 (fun k e => by cases e; omega))) (by omega) (below_cur (w1 := w4.drew) (below_drewN B4.out 1) (Nat.le_refl _) gr6 (by omega))); obtain ⟨_, _, _, ⟨x0, y0⟩, ⟨x1, y1⟩, x2, y2⟩ := S3.out.1; clear bx6))
  all_goals (
    go_wp2_with fail
    refine bodyPost_ret (res_cell_tmp (fn := Try.f6) (p := 2) (u := 3) (ty := 28) rfl _ _ w.heap.size _ #[.slice AW n' cW', .slice AA na' cA', .slice AS m' cS'] (0, 0) _ rfl S3.out.2.1 Try.underlying28 rfl Try.infoP) rfl ?_
    exact ⟨_, _, _, n', na', m', x, y, rfl, S3.out.2.2.1.low (by omega), xl, yl, S3.out.2.2.2⟩)
end Go.Proofs.Ytonoknbangnleaa
