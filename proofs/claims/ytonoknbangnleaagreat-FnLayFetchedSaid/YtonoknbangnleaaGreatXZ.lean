/- One text out of: PdE, PdF, PdG. -/
import Derived.Test.YtonoknbangnleaaGreatPdD
/- The drawing of polars: DrawPolarOk; l04Near, l04Angle. -/
namespace Go.Proofs.YtonoknbangnleaaGreat
open Go.RowKit Ieee
set_option linter.unusedSimpArgs false
set_option linter.unusedVariables false

theorem Code.step {w w1 : World} {B B' : Nat} {A : Option Addr} {len : Nat} (h : Code w B A len) (hb : Below B w w1) (hB : B ≤ B') : Code w1 B' A len :=
  ⟨h.1, fun hn => by
    obtain ⟨b, off, e, h1, h2⟩ := h.2 hn
    refine ⟨b, off, e, Nat.lt_of_lt_of_le h1 hB, fun j hj => ?_⟩
    obtain ⟨c, c0, c1, hc⟩ := h2 j hj
    exact ⟨c, c0, c1, (hb.cell (p := ⟨b, off + j, none⟩) h1).trans hc⟩⟩
theorem quo_any (x y : Nat) : (∃ r, r < 4294967296 ∧ ∀ w, (binOp .quo 35 (.float .f32 x) (.float .f32 y)).run Tryz.prog w = .ok (.float .f32 r) w) ∨
    ∃ nb : World → Nat, (∀ w, nb w < 4294967296) ∧ ∀ w, (binOp .quo 35 (.float .f32 x) (.float .f32 y)).run Tryz.prog w = .ok (.float .f32 (nb w)) w.drew := by
  cases h : floatBits .quo .f32 x y with
  | some r => exact .inl ⟨r, FloatKind.f32.format.div_lt h, fun w => run_float_arith (P := Tryz.prog) w .quo 35 .f32 _ _ _ h⟩
  | none =>
    refine .inr ⟨fun w => (Question.nanBits .f32 x y).cut (w.tape w.drawn (.nanBits .f32 x y)), fun w => ?_, fun w => ?_⟩
    · simp only [Question.cut]; omega
    · unfold floatBits at h
      simp only at h
      simp [binOp, Op.floatArith, h, Question.forced]
theorem quo_eight (n : Int) : ∃ r, floatBits .quo .f32 (floatOfInt .f32 n) 1090519040 = some r ∧ r < 4294967296 := by
  obtain ⟨r, hr⟩ := fl_div_some FloatKind.f32.format (floatOfInt .f32 n) 1090519040 (fl_nearest_nan FloatKind.f32.format _ _ _) (s := false) (m := 8388608) (i := -20) (by kernel_rfl) (by omega)
  exact ⟨r, hr, FloatKind.f32.format.div_lt hr⟩
end Go.Proofs.YtonoknbangnleaaGreat

/- The drawing of polars: l04Near, l04Angle. -/
namespace Go.Proofs.YtonoknbangnleaaGreat
open Go.RowKit Ieee
set_option linter.unusedSimpArgs false
set_option linter.unusedVariables false

section
variable {P : Program}
theorem res_cell_tmp {fn : Func} {p u : Tmp} {ty : TypeId} (h : fn.results = #[.cell p ty, .tmp u]) (tmps : Array Value) (w : World) (g : Nat) (t : TypeId) (cs : Array Value) (fr : Nat × Nat) (d : TypeDesc)
    (hp : tmps.getD p undef = .pointer (some ⟨g, 0, none⟩)) (hg : w.heap[g]? = some (.cells cs t fr))
    (hu : P.underlying ty = some d) (hd : (match d with | .struct _ | .array _ _ => true | _ => false) = true) (hi : (P.info? ty).map (·.size) = some cs.size) :
    (results fn tmps).run P w = .ok (.tuple #[.agg cs, tmps.getD u undef]) w := by
  have hp' : tmps[p]?.getD undef = .pointer (some ⟨g, 0, none⟩) := by simpa using hp
  simp [results, h, hp', asAddr, run_loadVar_row w g t ty cs fr d hg hu hd hi]
theorem res_cell_tmp2 {fn : Func} {p u v : Tmp} {ty : TypeId} (h : fn.results = #[.cell p ty, .tmp u, .tmp v]) (tmps : Array Value) (w : World) (g : Nat) (t : TypeId) (cs : Array Value) (fr : Nat × Nat) (d : TypeDesc)
    (hp : tmps.getD p undef = .pointer (some ⟨g, 0, none⟩)) (hg : w.heap[g]? = some (.cells cs t fr))
    (hu : P.underlying ty = some d) (hd : (match d with | .struct _ | .array _ _ => true | _ => false) = true) (hi : (P.info? ty).map (·.size) = some cs.size) :
    (results fn tmps).run P w = .ok (.tuple #[.agg cs, tmps.getD u undef, tmps.getD v undef]) w := by
  have hp' : tmps[p]?.getD undef = .pointer (some ⟨g, 0, none⟩) := by simpa using hp
  simp [results, h, hp', asAddr, run_loadVar_row w g t ty cs fr d hg hu hd hi]
end
theorem gr_drew {w w' : World} {r : Option Nat} (h : w.grownBy w' r) : w.grownBy w'.drew r := ⟨h.os, h.tape, h.output, h.size, h.block⟩
end Go.Proofs.YtonoknbangnleaaGreat

/- The drawing of polars: l04Angle, DrawSpeedAt, DrawMadeUp. -/
namespace Go.Proofs.YtonoknbangnleaaGreat
open Go.RowKit Ieee
set_option linter.unusedSimpArgs false
set_option linter.unusedVariables false

/-- A polar stored into a result's block: what the walk wants of the three stores, and what stands behind them. -/
theorem store3 {w w6 : World} {B n na m cW cA cS : Nat} {AW AA AS : Option Addr} {z0 z1 z2 : Value} (r : w6.heap[w.heap.size]? = some (.cells #[z0, z1, z2] 28 (0, 0))) (pt : PolT B w6 (.slice AW n cW) (.slice AA na cA) (.slice AS m cS) n na m) (hB : w.heap.size < B) (b : Below w.heap.size w w6) :
    (∃ y0 y1 y2, (w6.cell? ⟨w.heap.size, 0, none⟩ = some y0 ∧ w6.frozen? ⟨w.heap.size, 0, none⟩ = false) ∧
      ((w6.setCell ⟨w.heap.size, 0, none⟩ (.slice AW n cW)).cell? ⟨w.heap.size, 1, none⟩ = some y1 ∧ (w6.setCell ⟨w.heap.size, 0, none⟩ (.slice AW n cW)).frozen? ⟨w.heap.size, 1, none⟩ = false) ∧
      (((w6.setCell ⟨w.heap.size, 0, none⟩ (.slice AW n cW)).setCell ⟨w.heap.size, 1, none⟩ (.slice AA na cA)).cell? ⟨w.heap.size, 2, none⟩ = some y2 ∧ ((w6.setCell ⟨w.heap.size, 0, none⟩ (.slice AW n cW)).setCell ⟨w.heap.size, 1, none⟩ (.slice AA na cA)).frozen? ⟨w.heap.size, 2, none⟩ = false)) ∧
    (((w6.setCell ⟨w.heap.size, 0, none⟩ (.slice AW n cW)).setCell ⟨w.heap.size, 1, none⟩ (.slice AA na cA)).setCell ⟨w.heap.size, 2, none⟩ (.slice AS m cS)).heap[w.heap.size]? = some (.cells #[.slice AW n cW, .slice AA na cA, .slice AS m cS] 28 (0, 0)) ∧
    PolT B (((w6.setCell ⟨w.heap.size, 0, none⟩ (.slice AW n cW)).setCell ⟨w.heap.size, 1, none⟩ (.slice AA na cA)).setCell ⟨w.heap.size, 2, none⟩ (.slice AS m cS)) (.slice AW n cW) (.slice AA na cA) (.slice AS m cS) n na m ∧
    Below w.heap.size w (((w6.setCell ⟨w.heap.size, 0, none⟩ (.slice AW n cW)).setCell ⟨w.heap.size, 1, none⟩ (.slice AA na cA)).setCell ⟨w.heap.size, 2, none⟩ (.slice AS m cS)) := by
  obtain ⟨_, x0, y0⟩ := cell_at r (k := 0) rfl (by simp)
  have q1 := heap_set_self (k := 0) r (.slice AW n cW)
  obtain ⟨_, x1, y1⟩ := cell_at q1 (k := 1) rfl (by simp)
  have q2 := heap_set_self (k := 1) q1 (.slice AA na cA)
  obtain ⟨_, x2, y2⟩ := cell_at q2 (k := 2) rfl (by simp)
  have q3 := heap_set_self (k := 2) q2 (.slice AS m cS)
  have g1 := grown_set w6 w.heap.size 0 (.slice AW n cW)
  have g2 := grown_set (w6.setCell ⟨w.heap.size, 0, none⟩ (.slice AW n cW)) w.heap.size 1 (.slice AA na cA)
  have g3 := grown_set ((w6.setCell ⟨w.heap.size, 0, none⟩ (.slice AW n cW)).setCell ⟨w.heap.size, 1, none⟩ (.slice AA na cA)) w.heap.size 2 (.slice AS m cS)
  have g13 := grown_trans (grown_trans g1 g2) g3
  exact ⟨⟨_, _, _, ⟨x0, y0⟩, ⟨x1, y1⟩, x2, y2⟩, q3, pt.same (grown_hi g13 (fun j e => by cases e; omega)), below_cur b (Nat.le_refl _) g13 (Nat.le_refl _)⟩
end Go.Proofs.YtonoknbangnleaaGreat
