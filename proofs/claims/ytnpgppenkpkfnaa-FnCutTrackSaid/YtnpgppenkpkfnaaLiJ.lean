/- The drawing of what is asked of lines: DrawSideOf, DrawStartTime. -/
import Derived.Test.YtnpgppenkpkfnaaLiI
namespace Go.Proofs.Ytnpgppenkpkfnaa
open Go.RowKit
set_option linter.unusedVariables false
set_option linter.unusedSimpArgs false

section
variable {P : Program}
theorem res_cells9 {fn : Func} {p q : Tmp} {ty ty2 : TypeId} (h : fn.results = #[.cell p ty, .cell q ty2]) (tmps : Array Value) (w : World) (g g2 : Nat) (t t2 : TypeId) (cs cs2 : Array Value) (fr fr2 : Nat × Nat) (d d2 : TypeDesc)
    (hp : tmps.getD p undef = .pointer (some ⟨g, 0, none⟩)) (hq : tmps.getD q undef = .pointer (some ⟨g2, 0, none⟩)) (hg : w.heap[g]? = some (.cells cs t fr)) (hg2 : w.heap[g2]? = some (.cells cs2 t2 fr2))
    (hu : P.underlying ty = some d) (hu2 : P.underlying ty2 = some d2) (hd : (match d with | .struct _ | .array _ _ => true | _ => false) = true) (hd2 : (match d2 with | .struct _ | .array _ _ => true | _ => false) = true)
    (hi : (P.info? ty).map (·.size) = some cs.size) (hi2 : (P.info? ty2).map (·.size) = some cs2.size) :
    (results fn tmps).run P w = .ok (.tuple #[.agg cs, .agg cs2]) w := by
  have hp' : tmps[p]?.getD undef = .pointer (some ⟨g, 0, none⟩) := by simpa using hp
  have hq' : tmps[q]?.getD undef = .pointer (some ⟨g2, 0, none⟩) := by simpa using hq
  simp [results, h, hp', hq', asAddr, run_loadVar_row w g t ty cs fr d hg hu hd hi, run_loadVar_row w g2 t2 ty2 cs2 fr2 d2 hg2 hu2 hd2 hi2]
theorem res_cell_tt9 {fn : Func} {p u v : Tmp} {ty : TypeId} (h : fn.results = #[.cell p ty, .tmp u, .tmp v]) (tmps : Array Value) (w : World) (g : Nat) (t : TypeId) (cs : Array Value) (fr : Nat × Nat) (d : TypeDesc)
    (hp : tmps.getD p undef = .pointer (some ⟨g, 0, none⟩)) (hg : w.heap[g]? = some (.cells cs t fr))
    (hu : P.underlying ty = some d) (hd : (match d with | .struct _ | .array _ _ => true | _ => false) = true) (hi : (P.info? ty).map (·.size) = some cs.size) :
    (results fn tmps).run P w = .ok (.tuple #[.agg cs, tmps.getD u undef, tmps.getD v undef]) w := by
  have hp' : tmps[p]?.getD undef = .pointer (some ⟨g, 0, none⟩) := by simpa using hp
  simp [results, h, hp', asAddr, run_loadVar_row w g t ty cs fr d hg hu hd hi]
end
def set2 (w : World) (q : Nat) (a b : Value) : World := (w.setCell ⟨q, 0, none⟩ a).setCell ⟨q, 1, none⟩ b
theorem st2 {w6 : World} {q : Nat} {t : TypeId} {z0 z1 : Value} (r : w6.heap[q]? = some (.cells #[z0, z1] t (0, 0))) (a b : Value) :
    ((∃ y, w6.cell? ⟨q, 0, none⟩ = some y ∧ w6.frozen? ⟨q, 0, none⟩ = false) ∧ (∃ y, (w6.setCell ⟨q, 0, none⟩ a).cell? ⟨q, 1, none⟩ = some y ∧ (w6.setCell ⟨q, 0, none⟩ a).frozen? ⟨q, 1, none⟩ = false)) ∧
    (set2 w6 q a b).heap[q]? = some (.cells #[a, b] t (0, 0)) ∧ w6.grownBy (set2 w6 q a b) (some q) := by
  have p0 := heap_set_self (k := 0) r a
  have p1 := heap_set_self (k := 1) p0 b
  exact ⟨⟨cell_at r (k := 0) rfl (show 0 < 2 by omega), cell_at p0 (k := 1) rfl (show 1 < 2 by omega)⟩, p1, grown_trans (grown_set _ q 0 a) (grown_set _ q 1 b)⟩
theorem code_step9 {w w1 : World} {B B' : Nat} {A : Option Addr} {len : Nat} (h : Code w B A len) (hb : Below B w w1) (hB : B ≤ B') : Code w1 B' A len :=
  ⟨h.1, fun hn => by
    obtain ⟨b, off, e, h1, h2⟩ := h.2 hn
    refine ⟨b, off, e, Nat.lt_of_lt_of_le h1 hB, fun j hj => ?_⟩
    obtain ⟨c, c0, c1, hc⟩ := h2 j hj
    exact ⟨c, c0, c1, (hb.cell (p := ⟨b, off + j, none⟩) h1).trans hc⟩⟩
set_option maxRecDepth 100000 in
set_option maxHeartbeats 2000000 in
theorem d_sideOf (w : World) (len cap : Nat) (A : Option Addr) (hcode : Code w w.heap.size A len) :
    Calls Try.prog 26 #[.slice A len cap] w fun e w' => ∃ (l : Ln) (p : Int × Int), e = .returned (.tuple #[.agg #[.int .i64 l.1.1, .int .i64 l.1.2, .int .i64 l.2.1, .int .i64 l.2.2], .agg #[.int .i64 p.1, .int .i64 p.2]]) ∧ Below w.heap.size w w' := by
  have bb := (Bx2.new w #[.int .i64 0, .int .i64 0, .int .i64 0, .int .i64 0] 27 #[.int .i64 0, .int .i64 0] 25)
  have hs2 : ((w.alloc (.cells #[.int .i64 0, .int .i64 0, .int .i64 0, .int .i64 0] 27)).alloc (.cells #[.int .i64 0, .int .i64 0] 25)).heap.size = w.heap.size + 2 := by simp
  have hc1 := code_step9 hcode bb.2.2 (show w.heap.size ≤ w.heap.size + 2 by omega)
  have HBB := Lib.hid bb
  clear bb
  go_enter Try.func26, Try.ntmps26
  go_wp2_with fail
  refine (d_new _ (w.heap.size + 2) len cap A (by rw [hs2]; exact Nat.le_refl _) hc1).mono ?_
  rintro e w1 ⟨g, rfl, cu1, b1⟩
  have B1 := Lib.hid (HBB.out.2.2.trans (b1.mono (by omega)))
  have r1 := (b1.block w.heap.size (by omega)).trans HBB.out.1
  have r2 := (b1.block (w.heap.size + 1) (by omega)).trans HBB.out.2.1
  have hg := cu1.1
  clear hc1 b1 HBB hs2
  go_wp2_with fail
  refine (d_line _ _ g len cap A cu1).mono ?_
  rintro e w2 ⟨⟨⟨x1, x2⟩, x3, x4⟩, rfl, cu2, gr2⟩
  have B2 := Lib.hid (below_cur B1.out (Nat.le_refl _) gr2 (by omega))
  have r12 := box_far r1 gr2 (fun e => by cases e; omega)
  have r22 := box_far r2 gr2 (fun e => by cases e; omega)
  have l12 := block_lt r12
  have l22 := block_lt r22
  have hgl := cu2.lt
  clear r1 r2 gr2 cu1 B1
  have bx3 := heap_alloc_new w2 (.cells #[.int .i64 x1, .int .i64 x2, .int .i64 x3, .int .i64 x4] 27)
  have r13 := (Below.heap_alloc w2 (.cells #[.int .i64 x1, .int .i64 x2, .int .i64 x3, .int .i64 x4] 27) w.heap.size l12).trans r12
  have r23 := (Below.heap_alloc w2 (.cells #[.int .i64 x1, .int .i64 x2, .int .i64 x3, .int .i64 x4] 27) (w.heap.size + 1) l22).trans r22
  have cu3 := cu2.alloc (.cells #[.int .i64 x1, .int .i64 x2, .int .i64 x3, .int .i64 x4] 27)
  have B3 := Lib.hid (B2.out.alloc B2.out.size (.cells #[.int .i64 x1, .int .i64 x2, .int .i64 x3, .int .i64 x4] 27))
  clear r12 r22 B2
  have k0 := cell_of_row _ _ 0 _ _ _ bx3
  have k1 := cell_of_row _ _ 1 _ _ _ bx3
  have k2 := cell_of_row _ _ 2 _ _ _ bx3
  have k3 := cell_of_row _ _ 3 _ _ _ bx3
  have BX := Lib.hid bx3
  have R1 := Lib.hid r13
  have R2 := Lib.hid r23
  clear bx3 r13 r23
  dsimp only at *
  go_upto_region 3 with fail
  generalize hw3 : w2.alloc (.cells #[.int .i64 x1, .int .i64 x2, .int .i64 x3, .int .i64 x4] 27) = w3 at *
  generalize w2.heap.size = q at *
  have cd := cu3.grown_far (grown_drewN w3 1 none) (by simp) (fun k e => by cases e)
  clear cu2 cu3 hw3
  go_region_with ((go_at_call 48; refine (d_place _ _ g len cap A cd).mono ?_; rintro e w6 ⟨⟨p1, p2⟩, rfl, cu6, gr6⟩; have bx6 := box_far (w1 := w3.drew) BX.out gr6 (fun e => by cases e; omega); have l0 := cell_of_row w6 _ 0 _ _ _ bx6; have l1 := cell_of_row w6 _ 1 _ _ _ bx6; have l2 := cell_of_row w6 _ 2 _ _ _ bx6; have l3 := cell_of_row w6 _ 3 _ _ _ bx6; have S4 := Lib.hid (st4 (box_far (w1 := w3.drew) R1.out gr6 (fun e => by cases e; omega)) (.int .i64 x1) (.int .i64 x2) (.int .i64 x3) (.int .i64 x4)); have S2 := Lib.hid (st2 (box_far (box_far (w1 := w3.drew) R2.out gr6 (fun e => by cases e; omega)) S4.out.2.2 (fun e => by injection e with e; omega)) (.int .i64 p1) (.int .i64 p2)); have B6 := Lib.hid (below_cur (w1 := w3.drew) B3.out.drew (Nat.le_refl _) gr6 (by omega)); obtain ⟨⟨_, x0, y0⟩, ⟨_, x1', y1⟩, ⟨_, x2', y2⟩, _, x3', y3⟩ := S4.out.1; obtain ⟨⟨_, z0, v0⟩, _, z1, v1⟩ := S2.out.1; unfold set4 at z0 v0 z1 v1; clear bx6 cu6 gr6; dsimp only at *))
  all_goals (
    go_wp2_with fail
    have hr1 := box_far S4.out.2.1 S2.out.2.2 (fun e => by injection e with e; omega)
    exact bodyPost_ret (v := .tuple #[.agg #[.int .i64 x1, .int .i64 x2, .int .i64 x3, .int .i64 x4], .agg #[.int .i64 p1, .int .i64 p2]]) (res_cells9 (p := 2) (q := 3) (ty := 27) (ty2 := 25) (by rfl) _ _ w.heap.size (w.heap.size + 1) _ _ #[.int .i64 x1, .int .i64 x2, .int .i64 x3, .int .i64 x4] #[.int .i64 p1, .int .i64 p2] (0, 0) (0, 0) _ _ (by rfl) (by rfl) hr1 S2.out.2.1 Try.underlying27 Try.underlying25 rfl rfl Try.infoLn Try.infoPl) rfl
      ⟨((x1, x2), x3, x4), (p1, p2), rfl, below_cur (below_cur B6.out (Nat.le_refl _) S4.out.2.2 (Nat.le_refl _)) (Nat.le_refl _) S2.out.2.2 (by omega)⟩)
end Go.Proofs.Ytnpgppenkpkfnaa
