/- The drawing of polars: DrawPolarOk; l04Near, l04Angle. -/
import Derived.Test.YtdhdefhllleeiaaPdD
namespace Go.Proofs.Ytdhdefhllleeiaa
open Go.RowKit Ieee
set_option linter.unusedSimpArgs false
set_option linter.unusedVariables false

theorem Code.step {w w1 : World} {B B' : Nat} {A : Option Addr} {len : Nat} (h : Code w B A len) (hb : Below B w w1) (hB : B ≤ B') : Code w1 B' A len :=
  ⟨h.1, fun hn => by
    obtain ⟨b, off, e, h1, h2⟩ := h.2 hn
    refine ⟨b, off, e, Nat.lt_of_lt_of_le h1 hB, fun j hj => ?_⟩
    obtain ⟨c, c0, c1, hc⟩ := h2 j hj
    exact ⟨c, c0, c1, (hb.cell (p := ⟨b, off + j, none⟩) h1).trans hc⟩⟩
set_option maxRecDepth 100000 in
set_option maxHeartbeats 2000000 in
theorem d_drawPolarOk (w : World) (len cap : Nat) (A : Option Addr) (hcode : Code w w.heap.size A len) :
    Calls Try.prog 14 #[.slice A len cap] w fun e w' => ∃ P : Pol, e = .returned (.agg #[.slice P.W P.nw P.cw, .slice P.A P.na P.ca, .slice P.S P.ns P.cs]) ∧ PolIn w' P ∧ Below w.heap.size w w' := by
  have b0 : Below w.heap.size w (w.alloc (.cells #[.slice none 0 0, .slice none 0 0, .slice none 0 0] 28)) := (Below.refl _ w).alloc (Nat.le_refl _) _
  have s1 : (w.alloc (.cells #[.slice none 0 0, .slice none 0 0, .slice none 0 0] 28)).heap.size = w.heap.size + 1 := by simp
  have hc1 := hcode.step b0 (Nat.le_succ _)
  have hr0 := heap_alloc_new w (.cells #[.slice none 0 0, .slice none 0 0, .slice none 0 0] 28)
  go_enter Try.func14, Try.ntmps14
  go_wp2_with fail
  refine (d_new _ (w.heap.size + 1) len cap A (by rw [s1]; exact Nat.le_refl _) hc1).mono ?_
  rintro e w2 ⟨g, rfl, cu, b2⟩
  have b02 := b0.trans (b2.mono (Nat.le_succ _))
  have r2 := (b2.block w.heap.size (by omega)).trans hr0
  have hs2 := b2.size
  rw [s1] at hs2
  clear hc1 b0 hr0 b2
  go_wp2_with fail
  refine (d_any _ _ g len cap A cu).mono ?_
  rintro e w3 ⟨vW, vA, vS, n', na', m', rfl, pt, cu3, gr⟩
  have hg0 := cu.1
  have b03 := below_cur b02 (Nat.le_refl _) gr (by omega)
  have r3 := (gr.block w.heap.size (by omega) (fun e => by cases e; omega)).trans r2
  obtain ⟨AW, cW', rfl, _⟩ := pt.2.1
  obtain ⟨AA, cA', rfl, _⟩ := pt.2.2.1
  obtain ⟨AS, cS', rfl, _⟩ := pt.2.2.2
  obtain ⟨_, x0, y0⟩ := cell_at r3 (k := 0) rfl (by simp)
  have q1 := heap_set_self (k := 0) r3 (.slice AW n' cW')
  obtain ⟨_, x1, y1⟩ := cell_at q1 (k := 1) rfl (by simp)
  have q2 := heap_set_self (k := 1) q1 (.slice AA na' cA')
  obtain ⟨_, x2, y2⟩ := cell_at q2 (k := 2) rfl (by simp)
  have q3 := heap_set_self (k := 2) q2 (.slice AS m' cS')
  have g1 := grown_set w3 w.heap.size 0 (.slice AW n' cW')
  have g2 := grown_set (w3.setCell ⟨w.heap.size, 0, none⟩ (.slice AW n' cW')) w.heap.size 1 (.slice AA na' cA')
  have g3 := grown_set ((w3.setCell ⟨w.heap.size, 0, none⟩ (.slice AW n' cW')).setCell ⟨w.heap.size, 1, none⟩ (.slice AA na' cA')) w.heap.size 2 (.slice AS m' cS')
  have g13 := grown_trans (grown_trans g1 g2) g3
  have pt3 := pt.same (grown_hi g13 (fun j e => by cases e; omega))
  have b3 := below_cur b03 (Nat.le_refl _) g13 (Nat.le_refl _)
  have HF := Lib.hid (And.intro q3 (And.intro pt3 b3))
  clear q1 q2 q3 g1 g2 g3 g13 pt3 b3 b02 b03 pt cu3 gr cu r2 r3
  go_wp2_with fail
  obtain ⟨q3, pt, b3⟩ := HF.out
  obtain ⟨P, rfl, rfl, rfl, e1, e2, e3, hP⟩ := pt.pol
  cases e1; cases e2; cases e3
  exact bodyPost_ret (v := .agg #[.slice P.W P.nw P.cw, .slice P.A P.na P.ca, .slice P.S P.ns P.cs])
    (results_cell_row (p := 2) (ty := 28) (by rfl) _ _ w.heap.size _ #[.slice P.W P.nw P.cw, .slice P.A P.na P.ca, .slice P.S P.ns P.cs] (0, 0) _ (by rfl) q3 Try.underlying28 rfl Try.infoP) rfl ⟨P, rfl, hP, b3⟩
theorem quo_any (x y : Nat) : (∃ r, r < 4294967296 ∧ ∀ w, (binOp .quo 31 (.float .f32 x) (.float .f32 y)).run Try.prog w = .ok (.float .f32 r) w) ∨
    ∃ nb : World → Nat, (∀ w, nb w < 4294967296) ∧ ∀ w, (binOp .quo 31 (.float .f32 x) (.float .f32 y)).run Try.prog w = .ok (.float .f32 (nb w)) w.drew := by
  cases h : floatBits .quo .f32 x y with
  | some r => exact .inl ⟨r, FloatKind.f32.format.div_lt h, fun w => run_float_arith (P := Try.prog) w .quo 31 .f32 _ _ _ h⟩
  | none =>
    refine .inr ⟨fun w => (Question.nanBits .f32 x y).cut (w.tape w.drawn (.nanBits .f32 x y)), fun w => ?_, fun w => ?_⟩
    · simp only [Question.cut]; omega
    · unfold floatBits at h
      simp only at h
      simp [binOp, Op.floatArith, h, Question.forced]
theorem quo_eight (n : Int) : ∃ r, floatBits .quo .f32 (floatOfInt .f32 n) 1090519040 = some r ∧ r < 4294967296 := by
  obtain ⟨r, hr⟩ := fl_div_some FloatKind.f32.format (floatOfInt .f32 n) 1090519040 (fl_nearest_nan FloatKind.f32.format _ _ _) (s := false) (m := 8388608) (i := -20) (by kernel_rfl) (by omega)
  exact ⟨r, hr, FloatKind.f32.format.div_lt hr⟩
end Go.Proofs.Ytdhdefhllleeiaa
