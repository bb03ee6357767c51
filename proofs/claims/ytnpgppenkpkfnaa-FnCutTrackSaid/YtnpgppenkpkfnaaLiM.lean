/- The drawing of what is asked of a step that crosses: DrawCrossTime. -/
import Derived.Test.YtnpgppenkpkfnaaLiK
import Derived.Deep.DeepCutAuto
import Derived.Deep.RegionHeld3
import Derived.Deep.RegionLaw
import Derived.Deep.CutBlock
import Derived.BigRegion
namespace Go.Proofs.Ytnpgppenkpkfnaa
open Go.RowKit
set_option linter.unusedVariables false
set_option linter.unusedSimpArgs false

section
variable {P : Program}
theorem res_cells_3 {fn : Func} {p q r : Tmp} {ty ty2 ty3 : TypeId} (h : fn.results = #[.cell p ty, .cell q ty2, .cell r ty3]) (tmps : Array Value) (w : World) (g g2 g3 : Nat) (t t2 t3 : TypeId) (cs cs2 cs3 : Array Value) (fr fr2 fr3 : Nat × Nat) (d d2 d3 : TypeDesc)
    (hp : tmps.getD p undef = .pointer (some ⟨g, 0, none⟩)) (hq : tmps.getD q undef = .pointer (some ⟨g2, 0, none⟩)) (hr : tmps.getD r undef = .pointer (some ⟨g3, 0, none⟩))
    (hg : w.heap[g]? = some (.cells cs t fr)) (hg2 : w.heap[g2]? = some (.cells cs2 t2 fr2)) (hg3 : w.heap[g3]? = some (.cells cs3 t3 fr3))
    (hu : P.underlying ty = some d) (hu2 : P.underlying ty2 = some d2) (hu3 : P.underlying ty3 = some d3)
    (hd : (match d with | .struct _ | .array _ _ => true | _ => false) = true) (hd2 : (match d2 with | .struct _ | .array _ _ => true | _ => false) = true) (hd3 : (match d3 with | .struct _ | .array _ _ => true | _ => false) = true)
    (hi : (P.info? ty).map (·.size) = some cs.size) (hi2 : (P.info? ty2).map (·.size) = some cs2.size) (hi3 : (P.info? ty3).map (·.size) = some cs3.size) :
    (results fn tmps).run P w = .ok (.tuple #[.agg cs, .agg cs2, .agg cs3]) w := by
  have hp' : tmps[p]?.getD undef = .pointer (some ⟨g, 0, none⟩) := by simpa using hp
  have hq' : tmps[q]?.getD undef = .pointer (some ⟨g2, 0, none⟩) := by simpa using hq
  have hr' : tmps[r]?.getD undef = .pointer (some ⟨g3, 0, none⟩) := by simpa using hr
  simp [results, h, hp', hq', hr', asAddr, run_loadVar_row w g t ty cs fr d hg hu hd hi, run_loadVar_row w g2 t2 ty2 cs2 fr2 d2 hg2 hu2 hd2 hi2, run_loadVar_row w g3 t3 ty3 cs3 fr3 d3 hg3 hu3 hd3 hi3]
end
/-- Three stores into a block of three cells. -/
def set3 (w : World) (q : Nat) (a b c : Value) : World := ((w.setCell ⟨q, 0, none⟩ a).setCell ⟨q, 1, none⟩ b).setCell ⟨q, 2, none⟩ c
theorem st3 {w6 : World} {q : Nat} {t : TypeId} {z0 z1 z2 : Value} (r : w6.heap[q]? = some (.cells #[z0, z1, z2] t (0, 0))) (a b c : Value) :
    ((∃ y, w6.cell? ⟨q, 0, none⟩ = some y ∧ w6.frozen? ⟨q, 0, none⟩ = false) ∧
     (∃ y, (w6.setCell ⟨q, 0, none⟩ a).cell? ⟨q, 1, none⟩ = some y ∧ (w6.setCell ⟨q, 0, none⟩ a).frozen? ⟨q, 1, none⟩ = false) ∧
     (∃ y, ((w6.setCell ⟨q, 0, none⟩ a).setCell ⟨q, 1, none⟩ b).cell? ⟨q, 2, none⟩ = some y ∧ ((w6.setCell ⟨q, 0, none⟩ a).setCell ⟨q, 1, none⟩ b).frozen? ⟨q, 2, none⟩ = false)) ∧
    (set3 w6 q a b c).heap[q]? = some (.cells #[a, b, c] t (0, 0)) ∧ w6.grownBy (set3 w6 q a b c) (some q) := by
  have p0 := heap_set_self (k := 0) r a
  have p1 := heap_set_self (k := 1) p0 b
  have p2 := heap_set_self (k := 2) p1 c
  exact ⟨⟨cell_at r (k := 0) rfl (show 0 < 3 by omega), cell_at p0 (k := 1) rfl (show 1 < 3 by omega), cell_at p1 (k := 2) rfl (show 2 < 3 by omega)⟩, p2,
    grown_trans (grown_trans (grown_set _ q 0 a) (grown_set _ q 1 b)) (grown_set _ q 2 c)⟩
/-- What stands while a step is drawn: three boxes for results, the line and its first sight; the second one. -/
structure Ct6 (w : World) (g len cap : Nat) (A : Option Addr) (l : Ln) (s : Sg) (q6 q7 : Nat) (wx : World) : Prop where
  cu : Cur wx (w.heap.size + 3) g A len cap
  r0 : wx.heap[w.heap.size]? = some (.cells #[.int .i64 0, .int .i64 0, .int .i64 0, .int .i64 0] 27 (0, 0))
  r1 : wx.heap[w.heap.size + 1]? = some (.cells #[.int .i64 0, .int .i64 0, .int .i64 0] 29 (0, 0))
  r2 : wx.heap[w.heap.size + 2]? = some (.cells #[.int .i64 0, .int .i64 0, .int .i64 0] 29 (0, 0))
  l0 : wx.heap[q6]? = some (.cells #[.int .i64 l.1.1, .int .i64 l.1.2, .int .i64 l.2.1, .int .i64 l.2.2] 27 (0, 0))
  s0 : wx.heap[q7]? = some (.cells #[.int .i64 s.1.1, .int .i64 s.1.2, .int .i64 s.2] 29 (0, 0))
  bl : Below w.heap.size w wx
  o1 : w.heap.size + 3 ≤ g
  o2 : g < q6
  o3 : q6 < q7
theorem Ct6.drew {w wx : World} {g len cap q6 q7 : Nat} {A : Option Addr} {l : Ln} {s : Sg} (h : Ct6 w g len cap A l s q6 q7 wx) : Ct6 w g len cap A l s q6 q7 wx.drew := ⟨h.cu.grown_far (grown_drewN wx 1 none) (by simp) (fun k e => by cases e), h.r0, h.r1, h.r2, h.l0, h.s0, h.bl.drew, h.o1, h.o2, h.o3⟩
theorem Ct6.kept {w wx : World} {g len cap q6 q7 : Nat} {A : Option Addr} {l : Ln} {s : Sg} (h : Ct6 w g len cap A l s q6 q7 wx) {wy : World} (cu : Cur wy (w.heap.size + 3) g A len cap) (gr : wx.grownBy wy (some g)) : Ct6 w g len cap A l s q6 q7 wy := by
  have o1 := h.o1
  have o2 := h.o2
  have o3 := h.o3
  exact ⟨cu, box_far h.r0 gr (fun e => by cases e; omega), box_far h.r1 gr (fun e => by cases e; omega), box_far h.r2 gr (fun e => by cases e; omega), box_far h.l0 gr (fun e => by cases e; omega), box_far h.s0 gr (fun e => by cases e; omega), below_cur h.bl (Nat.le_refl _) gr (by omega), o1, o2, o3⟩
theorem Ct6.alloc {w wx : World} {g len cap q6 q7 : Nat} {A : Option Addr} {l : Ln} {s : Sg} (h : Ct6 w g len cap A l s q6 q7 wx) (o : Obj) : Ct6 w g len cap A l s q6 q7 (wx.alloc o) := by
  have gr := World.grownBy_alloc wx o none
  exact ⟨h.cu.alloc o, box_far h.r0 gr (fun e => by cases e), box_far h.r1 gr (fun e => by cases e), box_far h.r2 gr (fun e => by cases e), box_far h.l0 gr (fun e => by cases e), box_far h.s0 gr (fun e => by cases e), h.bl.alloc h.bl.size o, h.o1, h.o2, h.o3⟩
/-- A store into another block. -/
theorem Ct6.far {w wx : World} {g len cap q6 q7 : Nat} {A : Option Addr} {l : Ln} {s : Sg} (h : Ct6 w g len cap A l s q6 q7 wx) {wy : World} {q : Nat} (gr : wx.grownBy wy (some q)) (hq : q7 < q) : Ct6 w g len cap A l s q6 q7 wy := by
  have o1 := h.o1
  have o2 := h.o2
  have o3 := h.o3
  exact ⟨h.cu.grown_far gr (fun e => by cases e; omega) (fun j e => by cases e; omega), box_far h.r0 gr (fun e => by cases e; omega), box_far h.r1 gr (fun e => by cases e; omega), box_far h.r2 gr (fun e => by cases e; omega), box_far h.l0 gr (fun e => by cases e; omega), box_far h.s0 gr (fun e => by cases e; omega), below_cur h.bl (Nat.le_refl _) gr (by omega), o1, o2, o3⟩
/-- With the second sight. -/
def CtSt (w : World) (g len cap : Nat) (A : Option Addr) (l : Ln) (s t : Sg) (q6 q7 q8 : Nat) (wx : World) : Prop :=
  Ct6 w g len cap A l s q6 q7 wx ∧ q7 < q8 ∧ wx.heap[q8]? = some (.cells #[.int .i64 t.1.1, .int .i64 t.1.2, .int .i64 t.2] 29 (0, 0))
theorem CtSt.kept {w wx wy : World} {g len cap q6 q7 q8 : Nat} {A : Option Addr} {l : Ln} {s t : Sg} (h : CtSt w g len cap A l s t q6 q7 q8 wx) (cu : Cur wy (w.heap.size + 3) g A len cap) (gr : wx.grownBy wy (some g)) : CtSt w g len cap A l s t q6 q7 q8 wy := by
  have o2 := h.1.o2
  have o3 := h.1.o3
  have o4 := h.2.1
  exact ⟨h.1.kept cu gr, o4, box_far h.2.2 gr (fun e => by cases e; omega)⟩
theorem CtSt.alloc {w wx : World} {g len cap q6 q7 q8 : Nat} {A : Option Addr} {l : Ln} {s t : Sg} (h : CtSt w g len cap A l s t q6 q7 q8 wx) (o : Obj) : CtSt w g len cap A l s t q6 q7 q8 (wx.alloc o) :=
  ⟨h.1.alloc o, h.2.1, box_far h.2.2 (World.grownBy_alloc wx o none) (fun e => by cases e)⟩
theorem CtSt.time {w wx : World} {g len cap q6 q7 q8 : Nat} {A : Option Addr} {l : Ln} {s t : Sg} (h : CtSt w g len cap A l s t q6 q7 q8 wx) (v : Int) : CtSt w g len cap A l s (t.1, v) q6 q7 q8 (wx.setCell ⟨q8, 2, none⟩ (.int .i64 v)) :=
  ⟨h.1.far (grown_set wx q8 2 _) h.2.1, h.2.1, heap_set_self (k := 2) h.2.2 _⟩
theorem Ct6.stored {w wx : World} {g len cap q6 q7 : Nat} {A : Option Addr} {l : Ln} {s : Sg} (h : Ct6 w g len cap A l s q6 q7 wx) {q8 : Nat} (hq : q7 < q8) (t : Sg) (hz : wx.heap[q8]? = some (.cells #[.int .i64 0, .int .i64 0, .int .i64 0] 29 (0, 0))) : CtSt w g len cap A l s t q6 q7 q8 (set3 wx q8 (.int .i64 t.1.1) (.int .i64 t.1.2) (.int .i64 t.2)) :=
  ⟨h.far (st3 hz _ _ _).2.2 hq, hq, (st3 hz _ _ _).2.1⟩
theorem Ct6.made {w wx : World} {g len cap q6 q7 : Nat} {A : Option Addr} {l : Ln} {s : Sg} (h : Ct6 w g len cap A l s q6 q7 wx) (t : Sg) : CtSt w g len cap A l s t q6 q7 wx.heap.size (wx.alloc (.cells #[.int .i64 t.1.1, .int .i64 t.1.2, .int .i64 t.2] 29)) :=
  ⟨h.alloc _, block_lt h.s0, heap_alloc_new wx _⟩
theorem drew_boxes {w W0 : World} {B g1 g2 g3 : Nat} {O1 O2 O3 : Obj} (h1 : W0.heap[g1]? = some O1) (h2 : W0.heap[g2]? = some O2) (h3 : W0.heap[g3]? = some O3) (b : Below B w W0) :
    ∀ W : World, W0.drew = W → W.heap[g1]? = some O1 ∧ W.heap[g2]? = some O2 ∧ W.heap[g3]? = some O3 ∧ Below B w W := fun W h => by
  subst h
  exact ⟨h1, h2, h3, b.drew⟩
/-- What is drawn where a step is asked. -/
def CtE (w : World) (e : Ending) (w' : World) : Prop := ∃ (l : Ln) (s t : Sg),
  e = .returned (.tuple #[.agg #[.int .i64 l.1.1, .int .i64 l.1.2, .int .i64 l.2.1, .int .i64 l.2.2], .agg #[.int .i64 s.1.1, .int .i64 s.1.2, .int .i64 s.2], .agg #[.int .i64 t.1.1, .int .i64 t.1.2, .int .i64 t.2]]) ∧ Below w.heap.size w w'
theorem Try.infoSg3 : (Try.prog.info? 29).map (·.size) = some 3 := by kernel_rfl
set_option maxRecDepth 100000 in
set_option maxHeartbeats 6000000 in
theorem d_crossTime (w : World) (len cap : Nat) (A : Option Addr) (hcode : Code w w.heap.size A len) :
    Calls Try.prog 17 #[.slice A len cap] w (CtE w) := by
  have bb := Bx3.new w #[.int .i64 0, .int .i64 0, .int .i64 0, .int .i64 0] 27 #[.int .i64 0, .int .i64 0, .int .i64 0] 29 #[.int .i64 0, .int .i64 0, .int .i64 0] 29
  have hs2 : (((w.alloc (.cells #[.int .i64 0, .int .i64 0, .int .i64 0, .int .i64 0] 27)).alloc (.cells #[.int .i64 0, .int .i64 0, .int .i64 0] 29)).alloc (.cells #[.int .i64 0, .int .i64 0, .int .i64 0] 29)).heap.size = w.heap.size + 3 := by simp
  have hc1 := code_step9 hcode bb.2.2.2 (show w.heap.size ≤ w.heap.size + 3 by omega)
  have HBB := Lib.hid bb
  clear bb
  go_enter Try.func17, Try.ntmps17
  go_wp2_with fail
  refine (d_new _ (w.heap.size + 3) len cap A (by rw [hs2]; exact Nat.le_refl _) hc1).mono ?_
  rintro e w1 ⟨g, rfl, cu1, b1⟩
  have B1 := Lib.hid (HBB.out.2.2.2.trans (b1.mono (by omega)))
  have r1 := Lib.hid (And.intro ((b1.block w.heap.size (by omega)).trans HBB.out.1) (And.intro ((b1.block (w.heap.size + 1) (by omega)).trans HBB.out.2.1) ((b1.block (w.heap.size + 2) (by omega)).trans HBB.out.2.2.1)))
  have hg := cu1.1
  clear hc1 b1 HBB hs2
  go_wp2_with fail
  refine (d_line _ _ g len cap A cu1).mono ?_
  rintro e w2 ⟨⟨⟨x1, x2⟩, x3, x4⟩, rfl, cu2, gr2⟩
  have B2 := Lib.hid (below_cur B1.out (Nat.le_refl _) gr2 (by omega))
  have r2 := Lib.hid (And.intro (box_far r1.out.1 gr2 (fun e => by cases e; omega)) (And.intro (box_far r1.out.2.1 gr2 (fun e => by cases e; omega)) (box_far r1.out.2.2 gr2 (fun e => by cases e; omega))))
  have hgl := cu2.lt
  clear r1 gr2 cu1 B1
  have bx3 := heap_alloc_new w2 (.cells #[.int .i64 x1, .int .i64 x2, .int .i64 x3, .int .i64 x4] 27)
  have gA := World.grownBy_alloc w2 (.cells #[.int .i64 x1, .int .i64 x2, .int .i64 x3, .int .i64 x4] 27) none
  have r3 := Lib.hid (And.intro (box_far r2.out.1 gA (fun e => by cases e)) (And.intro (box_far r2.out.2.1 gA (fun e => by cases e)) (box_far r2.out.2.2 gA (fun e => by cases e))))
  have cu3 := cu2.alloc (.cells #[.int .i64 x1, .int .i64 x2, .int .i64 x3, .int .i64 x4] 27)
  have B3 := Lib.hid (B2.out.alloc B2.out.size (.cells #[.int .i64 x1, .int .i64 x2, .int .i64 x3, .int .i64 x4] 27))
  clear gA r2 B2 cu2
  try dsimp only at *
  go_wp2_with fail
  refine (d_place _ _ g len cap A cu3).mono ?_
  rintro e w4 ⟨⟨a1, a2⟩, rfl, cu4, gr4⟩
  have B4 := Lib.hid (below_cur B3.out (Nat.le_refl _) gr4 (by omega))
  have r4 := Lib.hid (And.intro (box_far r3.out.1 gr4 (fun e => by cases e; omega)) (And.intro (box_far r3.out.2.1 gr4 (fun e => by cases e; omega)) (box_far r3.out.2.2 gr4 (fun e => by cases e; omega))))
  have bx4 := box_far bx3 gr4 (fun e => by cases e; omega)
  clear r3 gr4 cu3 B3 bx3
  try dsimp only at *
  go_wp2_with fail
  refine (d_below 500 _ _ g len cap A cu4 (by omega)).mono ?_
  rintro e w5 ⟨b, b0, b1, _, rfl, cu5, gr5⟩
  have b9 := b1 (by omega)
  have B5 := Lib.hid (below_cur B4.out (Nat.le_refl _) gr5 (by omega))
  have r5 := Lib.hid (And.intro (box_far r4.out.1 gr5 (fun e => by cases e; omega)) (And.intro (box_far r4.out.2.1 gr5 (fun e => by cases e; omega)) (box_far r4.out.2.2 gr5 (fun e => by cases e; omega))))
  have bx5 := box_far bx4 gr5 (fun e => by cases e; omega)
  have l5 := block_lt bx5
  clear r4 gr5 cu4 B4 bx4 b1
  have bx6 := heap_alloc_new w5 (.cells #[.int .i64 a1, .int .i64 a2, .int .i64 b] 29)
  have gA := World.grownBy_alloc w5 (.cells #[.int .i64 a1, .int .i64 a2, .int .i64 b] 29) none
  have S6 : Hid (Ct6 w g len cap A ((x1, x2), x3, x4) ((a1, a2), b) w2.heap.size w5.heap.size (w5.alloc (.cells #[.int .i64 a1, .int .i64 a2, .int .i64 b] 29))) :=
    Lib.hid ⟨cu5.alloc _, box_far r5.out.1 gA (fun e => by cases e), box_far r5.out.2.1 gA (fun e => by cases e), box_far r5.out.2.2 gA (fun e => by cases e), box_far bx5 gA (fun e => by cases e), bx6, B5.out.alloc B5.out.size _, hg, hgl, l5⟩
  have k2 := cell_of_row _ _ 2 _ _ _ bx6
  have l6 := block_lt bx6
  clear gA r5 B5 cu5 bx5 bx6
  try dsimp only at *
  go_upto_region 4 with fail
  go_cut [8] (fun s8 wx => ∃ (q8 : Nat) (t : Sg), s8 = .pointer (some ⟨q8, 0, none⟩) ∧ CtSt w g len cap A ((x1, x2), x3, x4) ((a1, a2), b) t w2.heap.size w5.heap.size q8 wx)
  case first =>
    generalize w5.alloc (.cells #[.int .i64 a1, .int .i64 a2, .int .i64 b] 29) = w6 at *
    generalize w2.heap.size = q6 at *
    generalize w5.heap.size = q7 at *
    go_region_with (first
      | (go_at_call 48; refine (d_place _ _ g len cap A S6.out.drew.cu).mono ?_; rintro e w7 ⟨⟨c1, c2⟩, rfl, cu7, gr7⟩; dsimp only at *; have S7 := Lib.hid (S6.out.drew.kept cu7 gr7); have k7 := cell_of_row _ _ 2 _ _ _ S7.out.s0; have l7 := block_lt S7.out.s0; clear cu7 gr7)
      | (go_at_call 48; refine (d_place _ _ g len cap A (S6.out.alloc (.cells #[.int .i64 0, .int .i64 0, .int .i64 0] 29)).drew.cu).mono ?_; rintro e w7 ⟨⟨c1, c2⟩, rfl, cu7, gr7⟩; dsimp only at *; have S7 := Lib.hid ((S6.out.alloc (.cells #[.int .i64 0, .int .i64 0, .int .i64 0] 29)).drew.kept cu7 gr7); have Z7 := Lib.hid (box_far (w1 := (w6.alloc (.cells #[.int .i64 0, .int .i64 0, .int .i64 0] 29)).drew) (heap_alloc_new w6 (.cells #[.int .i64 0, .int .i64 0, .int .i64 0] 29)) gr7 (fun e => by cases e; omega)); have k7 := cell_of_row _ _ 2 _ _ _ S7.out.s0; have l7 := block_lt S7.out.s0; clear cu7 gr7)
      | (go_at_call 49; refine (d_below 300 _ _ g len cap A S7.out.cu (by omega)).mono ?_; rintro e w8 ⟨d, d0, d1, _, rfl, cu8, gr8⟩; have d9 := d1 (by omega); have S8 := Lib.hid (S7.out.kept cu8 gr8); have Z8 := Lib.hid (box_far Z7.out gr8 (fun e => by cases e; omega)); obtain ⟨⟨_, y0, z0⟩, ⟨_, y1, z1⟩, _, y2, z2⟩ := (st3 Z8.out (.int .i64 c1) (.int .i64 c2) (.int .i64 (b + d))).1; have k8 := cell_of_row _ _ 2 _ _ _ S8.out.s0; have l8 := block_lt S8.out.s0; clear d1 cu8 gr8)
      | (go_at_call 49; refine (d_below 300 _ _ g len cap A (S7.out.alloc (.cells #[.int .i64 0, .int .i64 0, .int .i64 0] 29)).cu (by omega)).mono ?_; rintro e w8 ⟨d, d0, d1, _, rfl, cu8, gr8⟩; have d9 := d1 (by omega); have S8 := Lib.hid ((S7.out.alloc (.cells #[.int .i64 0, .int .i64 0, .int .i64 0] 29)).kept cu8 gr8); have Z8 := Lib.hid (box_far (heap_alloc_new w7 (.cells #[.int .i64 0, .int .i64 0, .int .i64 0] 29)) gr8 (fun e => by cases e; omega)); obtain ⟨⟨_, y0, z0⟩, ⟨_, y1, z1⟩, _, y2, z2⟩ := (st3 Z8.out (.int .i64 c1) (.int .i64 c2) (.int .i64 (b + d))).1; have k8 := cell_of_row _ _ 2 _ _ _ S8.out.s0; have l8 := block_lt S8.out.s0; clear d1 cu8 gr8)
      | (go_at_call 49; refine (d_below 300 _ _ g len cap A S7.out.cu (by omega)).mono ?_; rintro e w8 ⟨d, d0, d1, _, rfl, cu8, gr8⟩; have d9 := d1 (by omega); have S8 := Lib.hid (S7.out.kept cu8 gr8); have k8 := cell_of_row _ _ 2 _ _ _ S8.out.s0; have l8 := block_lt S8.out.s0; clear d1 cu8 gr8))
    all_goals (
      go_wp2_with fail
      go_meet
      first | exact ⟨_, ((c1, c2), _), rfl, S8.out.made ((c1, c2), _)⟩ | exact ⟨_, ((c1, c2), _), rfl, S8.out.stored (by assumption) ((c1, c2), _) Z8.out⟩)
  case rest =>
    obtain ⟨q8, ⟨⟨c1, c2⟩, c3⟩, rfl, hS⟩ := hcut
    have cuC := hS.1.cu
    have HS := Lib.hid hS
    clear hS S6 k2 l6
    try dsimp only at *
    go_wp2_with fail
    refine (d_once 20 _ _ g len cap A cuC (by omega)).mono ?_
    rintro e w9 ⟨tt, rfl, cu9, gr9⟩
    have HT := Lib.hid (HS.out.kept cu9 gr9)
    clear gr9 HS cuC
    generalize w2.heap.size = q6 at *
    generalize w5.heap.size = q7 at *
    cases tt
    · have o1 := HT.out.1.o1
      have o2 := HT.out.1.o2
      have o3 := HT.out.1.o3
      have o4 := HT.out.2.1
      have r2' : w9.heap[w.heap.size + 1 + 1]? = some (.cells #[.int .i64 0, .int .i64 0, .int .i64 0] 29 (0, 0)) := HT.out.1.r2
      have l0 := cell_of_row _ _ 0 _ _ _ HT.out.1.l0
      have l1 := cell_of_row _ _ 1 _ _ _ HT.out.1.l0
      have l2 := cell_of_row _ _ 2 _ _ _ HT.out.1.l0
      have l3 := cell_of_row _ _ 3 _ _ _ HT.out.1.l0
      have m0 := cell_of_row _ _ 0 _ _ _ HT.out.1.s0
      have m1 := cell_of_row _ _ 1 _ _ _ HT.out.1.s0
      have m2 := cell_of_row _ _ 2 _ _ _ HT.out.1.s0
      have n0 := cell_of_row _ _ 0 _ _ _ HT.out.2.2
      have n1 := cell_of_row _ _ 1 _ _ _ HT.out.2.2
      have n2 := cell_of_row _ _ 2 _ _ _ HT.out.2.2
      have SA := Lib.hid (st4 HT.out.1.r0 (.int .i64 x1) (.int .i64 x2) (.int .i64 x3) (.int .i64 x4))
      have SB := Lib.hid (st3 (box_far HT.out.1.r1 SA.out.2.2 (fun e => by injection e with e; omega)) (.int .i64 a1) (.int .i64 a2) (.int .i64 b))
      have SC := Lib.hid (st3 (box_far (box_far r2' SA.out.2.2 (fun e => by injection e with e; omega)) SB.out.2.2 (fun e => by injection e with e; omega)) (.int .i64 c1) (.int .i64 c2) (.int .i64 c3))
      have bs1 := box_far HT.out.1.s0 SA.out.2.2 (fun e => by injection e with e; omega)
      have bt1 := box_far HT.out.2.2 SA.out.2.2 (fun e => by injection e with e; omega)
      have bt2 := box_far bt1 SB.out.2.2 (fun e => by injection e with e; omega)
      have mm0 := cell_of_row _ _ 0 _ _ _ bs1
      have mm1 := cell_of_row _ _ 1 _ _ _ bs1
      have mm2 := cell_of_row _ _ 2 _ _ _ bs1
      have nn0 := cell_of_row _ _ 0 _ _ _ bt1
      have nn1 := cell_of_row _ _ 1 _ _ _ bt1
      have nn2 := cell_of_row _ _ 2 _ _ _ bt1
      have np0 := cell_of_row _ _ 0 _ _ _ bt2
      have np1 := cell_of_row _ _ 1 _ _ _ bt2
      have np2 := cell_of_row _ _ 2 _ _ _ bt2
      obtain ⟨⟨_, f0, h0⟩, ⟨_, f1, h1⟩, ⟨_, f2, h2⟩, _, f3, h3⟩ := SA.out.1
      obtain ⟨⟨_, f4, h4⟩, ⟨_, f5, h5⟩, _, f6, h6⟩ := SB.out.1
      obtain ⟨⟨_, f7, h7⟩, ⟨_, f8, h8⟩, _, f9, h9⟩ := SC.out.1
      have HF : Hid (∀ W : World, (set3 (set3 (set4 w9 w.heap.size (.int .i64 x1) (.int .i64 x2) (.int .i64 x3) (.int .i64 x4)) (w.heap.size + 1) (.int .i64 a1) (.int .i64 a2) (.int .i64 b)) (w.heap.size + 1 + 1) (.int .i64 c1) (.int .i64 c2) (.int .i64 c3)).drew = W →
          W.heap[w.heap.size]? = some (.cells #[.int .i64 x1, .int .i64 x2, .int .i64 x3, .int .i64 x4] 27 (0, 0)) ∧ W.heap[w.heap.size + 1]? = some (.cells #[.int .i64 a1, .int .i64 a2, .int .i64 b] 29 (0, 0)) ∧ W.heap[w.heap.size + 1 + 1]? = some (.cells #[.int .i64 c1, .int .i64 c2, .int .i64 c3] 29 (0, 0)) ∧ Below w.heap.size w W) := by
        have b9' := below_cur (below_cur (below_cur HT.out.1.bl (Nat.le_refl _) SA.out.2.2 (Nat.le_refl _)) (Nat.le_refl _) SB.out.2.2 (by omega)) (Nat.le_refl _) SC.out.2.2 (by omega)
        have p1 := box_far (box_far SA.out.2.1 SB.out.2.2 (fun e => by injection e with e; omega)) SC.out.2.2 (fun e => by injection e with e; omega)
        have p2 := box_far SB.out.2.1 SC.out.2.2 (fun e => by injection e with e; omega)
        exact Lib.hid (drew_boxes p1 p2 SC.out.2.1 b9')
      clear bs1 bt1 bt2 r2' SA SB SC HT
      unfold set4 set3 at HF
      unfold set4 at mm0 mm1 mm2 nn0 nn1 nn2 np0 np1 np2 f4 f5 f6 f7 f8 f9 h4 h5 h6 h7 h8 h9
      unfold set3 at np0 np1 np2 f7 f8 f9 h7 h8 h9
      try dsimp only at *
      go_upto_region 7 with fail
      go_region_with (fail)
      all_goals (
        go_wp2_with fail
        generalize hW : World.drew (World.setCell _ _ _) = W
        obtain ⟨f1', f2', f3', f4'⟩ := HF.out W hW
        clear hW HF
        exact bodyPost_ret (res_cells_3 (fn := Try.f17) (p := 2) (q := 3) (r := 4) (ty := 27) (ty2 := 29) (ty3 := 29) rfl _ _ w.heap.size (w.heap.size + 1) (w.heap.size + 1 + 1) _ _ _ #[.int .i64 x1, .int .i64 x2, .int .i64 x3, .int .i64 x4] #[.int .i64 a1, .int .i64 a2, .int .i64 b] #[.int .i64 c1, .int .i64 c2, .int .i64 c3] (0, 0) (0, 0) (0, 0) _ _ _ rfl rfl rfl f1' f2' f3' Try.underlying27 Try.underlying29 Try.underlying29 rfl rfl rfl Try.infoLn Try.infoSg3 Try.infoSg3) rfl
          (by unfold CtE; exact ⟨((x1, x2), x3, x4), ((a1, a2), b), ((c1, c2), c3), rfl, f4'⟩))
    · go_wp2_with fail
      refine (d_pickint _ _ g len cap w9.heap.size 4 4 A 3 [10000000, 10000001, 9223372036854775807, -1] (cu9.alloc _) rfl (by omega) (by omega) (by have := cu9.lt; omega) (by intro x hx; simp at hx; omega) (heap_alloc_new w9 _)).mono ?_
      rintro e wa ⟨v, _, _, rfl, cua, gra⟩
      have HV := Lib.hid ((HT.out.alloc _).kept cua gra)
      obtain ⟨_, y9, z9⟩ := cell_at HV.out.2.2 (k := 2) rfl (show 2 < 3 by omega)
      have HW := Lib.hid (HV.out.time v)
      clear gra cua cu9 HT HV
      try dsimp only at *
      go_upto_region 7 with fail
      generalize hwb : wa.setCell ⟨q8, 2, none⟩ (.int .i64 v) = wb at *
      have o1 := HW.out.1.o1
      have o2 := HW.out.1.o2
      have o3 := HW.out.1.o3
      have o4 := HW.out.2.1
      have r2' : wb.heap[w.heap.size + 1 + 1]? = some (.cells #[.int .i64 0, .int .i64 0, .int .i64 0] 29 (0, 0)) := HW.out.1.r2
      have l0 := cell_of_row _ _ 0 _ _ _ HW.out.1.l0
      have l1 := cell_of_row _ _ 1 _ _ _ HW.out.1.l0
      have l2 := cell_of_row _ _ 2 _ _ _ HW.out.1.l0
      have l3 := cell_of_row _ _ 3 _ _ _ HW.out.1.l0
      have m0 := cell_of_row _ _ 0 _ _ _ HW.out.1.s0
      have m1 := cell_of_row _ _ 1 _ _ _ HW.out.1.s0
      have m2 := cell_of_row _ _ 2 _ _ _ HW.out.1.s0
      have n0 := cell_of_row _ _ 0 _ _ _ HW.out.2.2
      have n1 := cell_of_row _ _ 1 _ _ _ HW.out.2.2
      have n2 := cell_of_row _ _ 2 _ _ _ HW.out.2.2
      have SA := Lib.hid (st4 HW.out.1.r0 (.int .i64 x1) (.int .i64 x2) (.int .i64 x3) (.int .i64 x4))
      have SB := Lib.hid (st3 (box_far HW.out.1.r1 SA.out.2.2 (fun e => by injection e with e; omega)) (.int .i64 a1) (.int .i64 a2) (.int .i64 b))
      have SC := Lib.hid (st3 (box_far (box_far r2' SA.out.2.2 (fun e => by injection e with e; omega)) SB.out.2.2 (fun e => by injection e with e; omega)) (.int .i64 c1) (.int .i64 c2) (.int .i64 v))
      have bs1 := box_far HW.out.1.s0 SA.out.2.2 (fun e => by injection e with e; omega)
      have bt1 := box_far HW.out.2.2 SA.out.2.2 (fun e => by injection e with e; omega)
      have bt2 := box_far bt1 SB.out.2.2 (fun e => by injection e with e; omega)
      have mm0 := cell_of_row _ _ 0 _ _ _ bs1
      have mm1 := cell_of_row _ _ 1 _ _ _ bs1
      have mm2 := cell_of_row _ _ 2 _ _ _ bs1
      have nn0 := cell_of_row _ _ 0 _ _ _ bt1
      have nn1 := cell_of_row _ _ 1 _ _ _ bt1
      have nn2 := cell_of_row _ _ 2 _ _ _ bt1
      have np0 := cell_of_row _ _ 0 _ _ _ bt2
      have np1 := cell_of_row _ _ 1 _ _ _ bt2
      have np2 := cell_of_row _ _ 2 _ _ _ bt2
      obtain ⟨⟨_, f0, h0⟩, ⟨_, f1, h1⟩, ⟨_, f2, h2⟩, _, f3, h3⟩ := SA.out.1
      obtain ⟨⟨_, f4, h4⟩, ⟨_, f5, h5⟩, _, f6, h6⟩ := SB.out.1
      obtain ⟨⟨_, f7, h7⟩, ⟨_, f8, h8⟩, _, f9, h9⟩ := SC.out.1
      have HF : Hid (∀ W : World, (set3 (set3 (set4 wb w.heap.size (.int .i64 x1) (.int .i64 x2) (.int .i64 x3) (.int .i64 x4)) (w.heap.size + 1) (.int .i64 a1) (.int .i64 a2) (.int .i64 b)) (w.heap.size + 1 + 1) (.int .i64 c1) (.int .i64 c2) (.int .i64 v)).drew = W →
          W.heap[w.heap.size]? = some (.cells #[.int .i64 x1, .int .i64 x2, .int .i64 x3, .int .i64 x4] 27 (0, 0)) ∧ W.heap[w.heap.size + 1]? = some (.cells #[.int .i64 a1, .int .i64 a2, .int .i64 b] 29 (0, 0)) ∧ W.heap[w.heap.size + 1 + 1]? = some (.cells #[.int .i64 c1, .int .i64 c2, .int .i64 v] 29 (0, 0)) ∧ Below w.heap.size w W) := by
        have b9' := below_cur (below_cur (below_cur HW.out.1.bl (Nat.le_refl _) SA.out.2.2 (Nat.le_refl _)) (Nat.le_refl _) SB.out.2.2 (by omega)) (Nat.le_refl _) SC.out.2.2 (by omega)
        have p1 := box_far (box_far SA.out.2.1 SB.out.2.2 (fun e => by injection e with e; omega)) SC.out.2.2 (fun e => by injection e with e; omega)
        have p2 := box_far SB.out.2.1 SC.out.2.2 (fun e => by injection e with e; omega)
        exact Lib.hid (drew_boxes p1 p2 SC.out.2.1 b9')
      clear bs1 bt1 bt2 r2' SA SB SC HW
      unfold set4 set3 at HF
      unfold set4 at mm0 mm1 mm2 nn0 nn1 nn2 np0 np1 np2 f4 f5 f6 f7 f8 f9 h4 h5 h6 h7 h8 h9
      unfold set3 at np0 np1 np2 f7 f8 f9 h7 h8 h9
      try dsimp only at *
      go_upto_region 7 with fail
      go_region_with (fail)
      all_goals (
        go_wp2_with fail
        generalize hW : World.drew (World.setCell _ _ _) = W
        obtain ⟨f1', f2', f3', f4'⟩ := HF.out W hW
        clear hW HF
        exact bodyPost_ret (res_cells_3 (fn := Try.f17) (p := 2) (q := 3) (r := 4) (ty := 27) (ty2 := 29) (ty3 := 29) rfl _ _ w.heap.size (w.heap.size + 1) (w.heap.size + 1 + 1) _ _ _ #[.int .i64 x1, .int .i64 x2, .int .i64 x3, .int .i64 x4] #[.int .i64 a1, .int .i64 a2, .int .i64 b] #[.int .i64 c1, .int .i64 c2, .int .i64 v] (0, 0) (0, 0) (0, 0) _ _ _ rfl rfl rfl f1' f2' f3' Try.underlying27 Try.underlying29 Try.underlying29 rfl rfl rfl Try.infoLn Try.infoSg3 Try.infoSg3) rfl
          (by unfold CtE; exact ⟨((x1, x2), x3, x4), ((a1, a2), b), ((c1, c2), v), rfl, f4'⟩))
end Go.Proofs.Ytnpgppenkpkfnaa
