/- The drawing of what is asked of a step that crosses: DrawCrossTime. -/
import Derived.Test.YthahakefmpajfaaLiK
import Derived.Deep.DeepCutAuto
import Derived.Deep.RegionHeld3
import Derived.Deep.RegionLaw
import Derived.Deep.CutBlock
import Derived.BigRegion
namespace Go.Proofs.Ythahakefmpajfaa
open Go.RowKit
set_option linter.unusedVariables false
set_option linter.unusedSimpArgs false

section
variable {P : Program}
theorem res_cells_3 {fn : Func} {p q r : Tmp} {ty ty2 ty3 : TypeId} (h : fn.results = #[.cell p ty, .cell q ty2, .cell r ty3]) (tmps : Array Value) (w : World) (g g2 g3 : Nat) (t t2 t3 : TypeId) (cs cs2 cs3 : Array Value) (fr fr2 fr3 : Nat × Nat) (d d2 d3 : TypeDesc)
    (hp : tmps.getD p undef = .pointer (some ⟨g, 0, none⟩)) (hq : tmps.getD q undef = .pointer (some ⟨g2, 0, none⟩)) (hr : tmps.getD r undef = .pointer (some ⟨g3, 0, none⟩))
    (hg : w.heap[g]? = some (.cells cs t fr)) (hg2 : w.heap[g2]? = some (.cells cs2 t2 fr2)) (hg3 : w.heap[g3]? = some (.cells cs3 t3 fr3))
    (hu : P.underlying ty = some d) (hu2 : P.underlying ty2 = some d2) (hu3 : P.underlying ty3 = some d3)
    (hd : (match d with | .struct _ | .array _ _ => true | _ => false) = true) (hd2 : (match d2 with | .struct _ | .array _ _ => true | _ => false) = true) (hd3 : (match d3 with | .struct _ | .array _ _ => true | _ => false) = true)
    (hi : (P.info? ty).map (·.size) = some cs.size) (hi2 : (P.info? ty2).map (·.size) = some cs2.size) (hi3 : (P.info? ty3).map (·.size) = some cs3.size) :
    (results fn tmps).run P w = .ok (.tuple #[.agg cs, .agg cs2, .agg cs3]) w := by
  have hp' : tmps[p]?.getD undef = .pointer (some ⟨g, 0, none⟩) := by simpa using hp
  have hq' : tmps[q]?.getD undef = .pointer (some ⟨g2, 0, none⟩) := by simpa using hq
  have hr' : tmps[r]?.getD undef = .pointer (some ⟨g3, 0, none⟩) := by simpa using hr
  simp [results, h, hp', hq', hr', asAddr, run_loadVar_row w g t ty cs fr d hg hu hd hi, run_loadVar_row w g2 t2 ty2 cs2 fr2 d2 hg2 hu2 hd2 hi2, run_loadVar_row w g3 t3 ty3 cs3 fr3 d3 hg3 hu3 hd3 hi3]
end
/-- Three stores into a block of three cells. -/
def set3 (w : World) (q : Nat) (a b c : Value) : World := ((w.setCell ⟨q, 0, none⟩ a).setCell ⟨q, 1, none⟩ b).setCell ⟨q, 2, none⟩ c
theorem st3 {w6 : World} {q : Nat} {t : TypeId} {z0 z1 z2 : Value} (r : w6.heap[q]? = some (.cells #[z0, z1, z2] t (0, 0))) (a b c : Value) :
    ((∃ y, w6.cell? ⟨q, 0, none⟩ = some y ∧ w6.frozen? ⟨q, 0, none⟩ = false) ∧
     (∃ y, (w6.setCell ⟨q, 0, none⟩ a).cell? ⟨q, 1, none⟩ = some y ∧ (w6.setCell ⟨q, 0, none⟩ a).frozen? ⟨q, 1, none⟩ = false) ∧
     (∃ y, ((w6.setCell ⟨q, 0, none⟩ a).setCell ⟨q, 1, none⟩ b).cell? ⟨q, 2, none⟩ = some y ∧ ((w6.setCell ⟨q, 0, none⟩ a).setCell ⟨q, 1, none⟩ b).frozen? ⟨q, 2, none⟩ = false)) ∧
    (set3 w6 q a b c).heap[q]? = some (.cells #[a, b, c] t (0, 0)) ∧ w6.grownBy (set3 w6 q a b c) (some q) := by
  have p0 := heap_set_self (k := 0) r a
  have p1 := heap_set_self (k := 1) p0 b
  have p2 := heap_set_self (k := 2) p1 c
  exact ⟨⟨cell_at r (k := 0) rfl (show 0 < 3 by omega), cell_at p0 (k := 1) rfl (show 1 < 3 by omega), cell_at p1 (k := 2) rfl (show 2 < 3 by omega)⟩, p2,
    grown_trans (grown_trans (grown_set _ q 0 a) (grown_set _ q 1 b)) (grown_set _ q 2 c)⟩
/-- What stands while a step is drawn: three boxes for results, the line and its first sight; the second one. -/
structure Ct6 (w : World) (g len cap : Nat) (A : Option Addr) (l : Ln) (s : Sg) (q6 q7 : Nat) (wx : World) : Prop where
  cu : Cur wx (w.heap.size + 3) g A len cap
  r0 : wx.heap[w.heap.size]? = some (.cells #[.int .i64 0, .int .i64 0, .int .i64 0, .int .i64 0] 33 (0, 0))
  r1 : wx.heap[w.heap.size + 1]? = some (.cells #[.int .i64 0, .int .i64 0, .int .i64 0] 86 (0, 0))
  r2 : wx.heap[w.heap.size + 2]? = some (.cells #[.int .i64 0, .int .i64 0, .int .i64 0] 86 (0, 0))
  l0 : wx.heap[q6]? = some (.cells #[.int .i64 l.1.1, .int .i64 l.1.2, .int .i64 l.2.1, .int .i64 l.2.2] 33 (0, 0))
  s0 : wx.heap[q7]? = some (.cells #[.int .i64 s.1.1, .int .i64 s.1.2, .int .i64 s.2] 86 (0, 0))
  bl : Below w.heap.size w wx
  o1 : w.heap.size + 3 ≤ g
  o2 : g < q6
  o3 : q6 < q7
theorem Ct6.drew {w wx : World} {g len cap q6 q7 : Nat} {A : Option Addr} {l : Ln} {s : Sg} (h : Ct6 w g len cap A l s q6 q7 wx) : Ct6 w g len cap A l s q6 q7 wx.drew := ⟨h.cu.grown_far (grown_drewN wx 1 none) (by simp) (fun k e => by cases e), h.r0, h.r1, h.r2, h.l0, h.s0, h.bl.drew, h.o1, h.o2, h.o3⟩
theorem Ct6.kept {w wx : World} {g len cap q6 q7 : Nat} {A : Option Addr} {l : Ln} {s : Sg} (h : Ct6 w g len cap A l s q6 q7 wx) {wy : World} (cu : Cur wy (w.heap.size + 3) g A len cap) (gr : wx.grownBy wy (some g)) : Ct6 w g len cap A l s q6 q7 wy := by
  have o1 := h.o1
  have o2 := h.o2
  have o3 := h.o3
  exact ⟨cu, box_far h.r0 gr (fun e => by cases e; omega), box_far h.r1 gr (fun e => by cases e; omega), box_far h.r2 gr (fun e => by cases e; omega), box_far h.l0 gr (fun e => by cases e; omega), box_far h.s0 gr (fun e => by cases e; omega), below_cur h.bl (Nat.le_refl _) gr (by omega), o1, o2, o3⟩
theorem Ct6.alloc {w wx : World} {g len cap q6 q7 : Nat} {A : Option Addr} {l : Ln} {s : Sg} (h : Ct6 w g len cap A l s q6 q7 wx) (o : Obj) : Ct6 w g len cap A l s q6 q7 (wx.alloc o) := by
  have gr := World.grownBy_alloc wx o none
  exact ⟨h.cu.alloc o, box_far h.r0 gr (fun e => by cases e), box_far h.r1 gr (fun e => by cases e), box_far h.r2 gr (fun e => by cases e), box_far h.l0 gr (fun e => by cases e), box_far h.s0 gr (fun e => by cases e), h.bl.alloc h.bl.size o, h.o1, h.o2, h.o3⟩
/-- A store into another block. -/
theorem Ct6.far {w wx : World} {g len cap q6 q7 : Nat} {A : Option Addr} {l : Ln} {s : Sg} (h : Ct6 w g len cap A l s q6 q7 wx) {wy : World} {q : Nat} (gr : wx.grownBy wy (some q)) (hq : q7 < q) : Ct6 w g len cap A l s q6 q7 wy := by
  have o1 := h.o1
  have o2 := h.o2
  have o3 := h.o3
  exact ⟨h.cu.grown_far gr (fun e => by cases e; omega) (fun j e => by cases e; omega), box_far h.r0 gr (fun e => by cases e; omega), box_far h.r1 gr (fun e => by cases e; omega), box_far h.r2 gr (fun e => by cases e; omega), box_far h.l0 gr (fun e => by cases e; omega), box_far h.s0 gr (fun e => by cases e; omega), below_cur h.bl (Nat.le_refl _) gr (by omega), o1, o2, o3⟩
/-- With the second sight. -/
def CtSt (w : World) (g len cap : Nat) (A : Option Addr) (l : Ln) (s t : Sg) (q6 q7 q8 : Nat) (wx : World) : Prop :=
  Ct6 w g len cap A l s q6 q7 wx ∧ q7 < q8 ∧ wx.heap[q8]? = some (.cells #[.int .i64 t.1.1, .int .i64 t.1.2, .int .i64 t.2] 86 (0, 0))
theorem CtSt.kept {w wx wy : World} {g len cap q6 q7 q8 : Nat} {A : Option Addr} {l : Ln} {s t : Sg} (h : CtSt w g len cap A l s t q6 q7 q8 wx) (cu : Cur wy (w.heap.size + 3) g A len cap) (gr : wx.grownBy wy (some g)) : CtSt w g len cap A l s t q6 q7 q8 wy := by
  have o2 := h.1.o2
  have o3 := h.1.o3
  have o4 := h.2.1
  exact ⟨h.1.kept cu gr, o4, box_far h.2.2 gr (fun e => by cases e; omega)⟩
theorem CtSt.alloc {w wx : World} {g len cap q6 q7 q8 : Nat} {A : Option Addr} {l : Ln} {s t : Sg} (h : CtSt w g len cap A l s t q6 q7 q8 wx) (o : Obj) : CtSt w g len cap A l s t q6 q7 q8 (wx.alloc o) :=
  ⟨h.1.alloc o, h.2.1, box_far h.2.2 (World.grownBy_alloc wx o none) (fun e => by cases e)⟩
theorem CtSt.time {w wx : World} {g len cap q6 q7 q8 : Nat} {A : Option Addr} {l : Ln} {s t : Sg} (h : CtSt w g len cap A l s t q6 q7 q8 wx) (v : Int) : CtSt w g len cap A l s (t.1, v) q6 q7 q8 (wx.setCell ⟨q8, 2, none⟩ (.int .i64 v)) :=
  ⟨h.1.far (grown_set wx q8 2 _) h.2.1, h.2.1, heap_set_self (k := 2) h.2.2 _⟩
theorem Ct6.stored {w wx : World} {g len cap q6 q7 : Nat} {A : Option Addr} {l : Ln} {s : Sg} (h : Ct6 w g len cap A l s q6 q7 wx) {q8 : Nat} (hq : q7 < q8) (t : Sg) (hz : wx.heap[q8]? = some (.cells #[.int .i64 0, .int .i64 0, .int .i64 0] 86 (0, 0))) : CtSt w g len cap A l s t q6 q7 q8 (set3 wx q8 (.int .i64 t.1.1) (.int .i64 t.1.2) (.int .i64 t.2)) :=
  ⟨h.far (st3 hz _ _ _).2.2 hq, hq, (st3 hz _ _ _).2.1⟩
theorem Ct6.made {w wx : World} {g len cap q6 q7 : Nat} {A : Option Addr} {l : Ln} {s : Sg} (h : Ct6 w g len cap A l s q6 q7 wx) (t : Sg) : CtSt w g len cap A l s t q6 q7 wx.heap.size (wx.alloc (.cells #[.int .i64 t.1.1, .int .i64 t.1.2, .int .i64 t.2] 86)) :=
  ⟨h.alloc _, block_lt h.s0, heap_alloc_new wx _⟩
theorem drew_boxes {w W0 : World} {B g1 g2 g3 : Nat} {O1 O2 O3 : Obj} (h1 : W0.heap[g1]? = some O1) (h2 : W0.heap[g2]? = some O2) (h3 : W0.heap[g3]? = some O3) (b : Below B w W0) :
    ∀ W : World, W0.drew = W → W.heap[g1]? = some O1 ∧ W.heap[g2]? = some O2 ∧ W.heap[g3]? = some O3 ∧ Below B w W := fun W h => by
  subst h
  exact ⟨h1, h2, h3, b.drew⟩
/-- What is drawn where a step is asked. -/
def CtE (w : World) (e : Ending) (w' : World) : Prop := ∃ (l : Ln) (s t : Sg),
  e = .returned (.tuple #[.agg #[.int .i64 l.1.1, .int .i64 l.1.2, .int .i64 l.2.1, .int .i64 l.2.2], .agg #[.int .i64 s.1.1, .int .i64 s.1.2, .int .i64 s.2], .agg #[.int .i64 t.1.1, .int .i64 t.1.2, .int .i64 t.2]]) ∧ Below w.heap.size w w'
end Go.Proofs.Ythahakefmpajfaa
