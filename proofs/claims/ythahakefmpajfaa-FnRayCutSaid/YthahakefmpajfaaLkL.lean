/- The drawing of what is asked of rays: DrawPassRay. -/
import Derived.Test.YthahakefmpajfaaLkK
namespace Go.Proofs.Ythahakefmpajfaa
open Go.RowKit
set_option linter.unusedVariables false
set_option linter.unusedSimpArgs false

section
variable {P : Program}
theorem res_cells_4 {fn : Func} {p q r s : Tmp} {ty : TypeId} (h : fn.results = #[.cell p ty, .cell q ty, .cell r ty, .cell s ty]) (tmps : Array Value) (w : World) (g g2 g3 g4 : Nat) (t : TypeId) (cs cs2 cs3 cs4 : Array Value) (d : TypeDesc)
    (hp : tmps.getD p undef = .pointer (some ⟨g, 0, none⟩)) (hq : tmps.getD q undef = .pointer (some ⟨g2, 0, none⟩)) (hr : tmps.getD r undef = .pointer (some ⟨g3, 0, none⟩)) (hs : tmps.getD s undef = .pointer (some ⟨g4, 0, none⟩))
    (h1 : w.heap[g]? = some (.cells cs t (0, 0))) (h2 : w.heap[g2]? = some (.cells cs2 t (0, 0))) (h3 : w.heap[g3]? = some (.cells cs3 t (0, 0))) (h4 : w.heap[g4]? = some (.cells cs4 t (0, 0)))
    (hu : P.underlying ty = some d) (hd : (match d with | .struct _ | .array _ _ => true | _ => false) = true) (i1 : (P.info? ty).map (·.size) = some cs.size) (i2 : (P.info? ty).map (·.size) = some cs2.size) (i3 : (P.info? ty).map (·.size) = some cs3.size) (i4 : (P.info? ty).map (·.size) = some cs4.size) :
    (results fn tmps).run P w = .ok (.tuple #[.agg cs, .agg cs2, .agg cs3, .agg cs4]) w := by
  have hp' : tmps[p]?.getD undef = .pointer (some ⟨g, 0, none⟩) := by simpa using hp
  have hq' : tmps[q]?.getD undef = .pointer (some ⟨g2, 0, none⟩) := by simpa using hq
  have hr' : tmps[r]?.getD undef = .pointer (some ⟨g3, 0, none⟩) := by simpa using hr
  have hs' : tmps[s]?.getD undef = .pointer (some ⟨g4, 0, none⟩) := by simpa using hs
  simp [results, h, hp', hq', hr', hs', asAddr, run_loadVar_row w g t ty cs (0, 0) d h1 hu hd i1, run_loadVar_row w g2 t ty cs2 (0, 0) d h2 hu hd i2, run_loadVar_row w g3 t ty cs3 (0, 0) d h3 hu hd i3, run_loadVar_row w g4 t ty cs4 (0, 0) d h4 hu hd i4]
end
/-- What is drawn where a ray is asked. -/
def PrE (w : World) (e : Ending) (w' : World) : Prop := ∃ o m a b : Int × Int,
  e = .returned (.tuple #[.agg #[.int .i64 o.1, .int .i64 o.2], .agg #[.int .i64 m.1, .int .i64 m.2], .agg #[.int .i64 a.1, .int .i64 a.2], .agg #[.int .i64 b.1, .int .i64 b.2]]) ∧ Below w.heap.size w w'
set_option maxRecDepth 100000 in
set_option maxHeartbeats 8000000 in
theorem d_passRay (w : World) (len cap : Nat) (A : Option Addr) (hcode : Code w w.heap.size A len) :
    Calls Try.prog 13 #[.slice A len cap] w (PrE w) := by
  have bb := (((((Bxs.nil (Below.refl w.heap.size w)).add rfl #[.int .i64 0, .int .i64 0] 25).add (q := w.heap.size + 1) (by simp) #[.int .i64 0, .int .i64 0] 25).add (q := w.heap.size + 2) (by simp) #[.int .i64 0, .int .i64 0] 25).add (q := w.heap.size + 3) (by simp) #[.int .i64 0, .int .i64 0] 25)
  have hs2 : ((((w.alloc (.cells #[.int .i64 0, .int .i64 0] 25)).alloc (.cells #[.int .i64 0, .int .i64 0] 25)).alloc (.cells #[.int .i64 0, .int .i64 0] 25)).alloc (.cells #[.int .i64 0, .int .i64 0] 25)).heap.size = w.heap.size + 4 := by simp
  have hc1 := code_step9 hcode bb.2 (show w.heap.size ≤ w.heap.size + 4 by omega)
  have HBB := Lib.hid bb
  clear bb
  go_enter Try.func13, Try.ntmps13
  go_wp2_with fail
  refine (d_new _ (w.heap.size + 4) len cap A (by rw [hs2]; exact Nat.le_refl _) hc1).mono ?_
  rintro e w1 ⟨g, rfl, cu1, b1⟩
  have BL := Lib.hid (HBB.out.2.trans (b1.mono (by omega)))
  have R1 := Lib.hid ((b1.block w.heap.size (by omega)).trans (HBB.out.1 _ (.tail _ (.tail _ (.tail _ (.head _))))))
  have R2 := Lib.hid ((b1.block (w.heap.size + 1) (by omega)).trans (HBB.out.1 _ (.tail _ (.tail _ (.head _)))))
  have R3 := Lib.hid ((b1.block (w.heap.size + 2) (by omega)).trans (HBB.out.1 _ (.tail _ (.head _))))
  have R4 := Lib.hid ((b1.block (w.heap.size + 3) (by omega)).trans (HBB.out.1 _ (.head _)))
  have hg := cu1.1
  clear hc1 b1 HBB hs2
  go_wp2_with fail
  refine (d_place _ _ g len cap A cu1).mono ?_
  rintro e w2 ⟨⟨o1, o2⟩, rfl, cu2, gr2⟩
  have BL' := Lib.hid (below_cur BL.out (Nat.le_refl _) gr2 (by omega))
  clear BL
  have BL := BL'
  clear BL'
  have R1' := Lib.hid (box_far R1.out gr2 (fun e => by cases e; omega))
  clear R1
  have R1 := R1'
  clear R1'
  have R2' := Lib.hid (box_far R2.out gr2 (fun e => by cases e; omega))
  clear R2
  have R2 := R2'
  clear R2'
  have R3' := Lib.hid (box_far R3.out gr2 (fun e => by cases e; omega))
  clear R3
  have R3 := R3'
  clear R3'
  have R4' := Lib.hid (box_far R4.out gr2 (fun e => by cases e; omega))
  clear R4
  have R4 := R4'
  clear R4'
  have hgl2 := cu2.lt
  have hw2 := gr2.size
  have R1' := Lib.hid ((Below.heap_alloc w2 (.cells #[.int .i64 o1, .int .i64 o2] 25) _ (block_lt R1.out)).trans R1.out)
  clear R1
  have R1 := R1'
  clear R1'
  have R2' := Lib.hid ((Below.heap_alloc w2 (.cells #[.int .i64 o1, .int .i64 o2] 25) _ (block_lt R2.out)).trans R2.out)
  clear R2
  have R2 := R2'
  clear R2'
  have R3' := Lib.hid ((Below.heap_alloc w2 (.cells #[.int .i64 o1, .int .i64 o2] 25) _ (block_lt R3.out)).trans R3.out)
  clear R3
  have R3 := R3'
  clear R3'
  have R4' := Lib.hid ((Below.heap_alloc w2 (.cells #[.int .i64 o1, .int .i64 o2] 25) _ (block_lt R4.out)).trans R4.out)
  clear R4
  have R4 := R4'
  clear R4'
  have VO := Lib.hid (heap_alloc_new w2 (.cells #[.int .i64 o1, .int .i64 o2] 25))
  have cu3 := cu2.alloc (.cells #[.int .i64 o1, .int .i64 o2] 25)
  have BL' := Lib.hid (BL.out.alloc BL.out.size (.cells #[.int .i64 o1, .int .i64 o2] 25))
  clear BL
  have BL := BL'
  clear BL'
  clear gr2 cu1 cu2
  dsimp only at *
  go_wp2_with fail
  refine (d_place _ _ g len cap A cu3).mono ?_
  rintro e w4 ⟨⟨m1, m2⟩, rfl, cu4, gr4⟩
  have R1' := Lib.hid (box_far R1.out gr4 (fun e => by cases e; omega))
  clear R1
  have R1 := R1'
  clear R1'
  have R2' := Lib.hid (box_far R2.out gr4 (fun e => by cases e; omega))
  clear R2
  have R2 := R2'
  clear R2'
  have R3' := Lib.hid (box_far R3.out gr4 (fun e => by cases e; omega))
  clear R3
  have R3 := R3'
  clear R3'
  have R4' := Lib.hid (box_far R4.out gr4 (fun e => by cases e; omega))
  clear R4
  have R4 := R4'
  clear R4'
  have VO' := Lib.hid (box_far VO.out gr4 (fun e => by cases e; omega))
  clear VO
  have VO := VO'
  clear VO'
  have BL' := Lib.hid (below_cur BL.out (Nat.le_refl _) gr4 (by omega))
  clear BL
  have BL := BL'
  clear BL'
  have hq2 := block_lt VO.out
  have hgl4 := cu4.lt
  have R1' := Lib.hid ((Below.heap_alloc w4 (.cells #[.int .i64 m1, .int .i64 m2] 25) _ (block_lt R1.out)).trans R1.out)
  clear R1
  have R1 := R1'
  clear R1'
  have R2' := Lib.hid ((Below.heap_alloc w4 (.cells #[.int .i64 m1, .int .i64 m2] 25) _ (block_lt R2.out)).trans R2.out)
  clear R2
  have R2 := R2'
  clear R2'
  have R3' := Lib.hid ((Below.heap_alloc w4 (.cells #[.int .i64 m1, .int .i64 m2] 25) _ (block_lt R3.out)).trans R3.out)
  clear R3
  have R3 := R3'
  clear R3'
  have R4' := Lib.hid ((Below.heap_alloc w4 (.cells #[.int .i64 m1, .int .i64 m2] 25) _ (block_lt R4.out)).trans R4.out)
  clear R4
  have R4 := R4'
  clear R4'
  have VO' := Lib.hid ((Below.heap_alloc w4 (.cells #[.int .i64 m1, .int .i64 m2] 25) _ (block_lt VO.out)).trans VO.out)
  clear VO
  have VO := VO'
  clear VO'
  have VM := Lib.hid (heap_alloc_new w4 (.cells #[.int .i64 m1, .int .i64 m2] 25))
  have cu5 := cu4.alloc (.cells #[.int .i64 m1, .int .i64 m2] 25)
  have BL' := Lib.hid (BL.out.alloc BL.out.size (.cells #[.int .i64 m1, .int .i64 m2] 25))
  clear BL
  have BL := BL'
  clear BL'
  clear gr4 cu3 cu4
  dsimp only at *
  go_wp2_with fail
  refine (d_once 4 _ _ g len cap A cu5 (by omega)).mono ?_
  rintro e w6 ⟨t, rfl, cu6, gr6⟩
  have R1' := Lib.hid (box_far R1.out gr6 (fun e => by cases e; omega))
  clear R1
  have R1 := R1'
  clear R1'
  have R2' := Lib.hid (box_far R2.out gr6 (fun e => by cases e; omega))
  clear R2
  have R2 := R2'
  clear R2'
  have R3' := Lib.hid (box_far R3.out gr6 (fun e => by cases e; omega))
  clear R3
  have R3 := R3'
  clear R3'
  have R4' := Lib.hid (box_far R4.out gr6 (fun e => by cases e; omega))
  clear R4
  have R4 := R4'
  clear R4'
  have VO' := Lib.hid (box_far VO.out gr6 (fun e => by cases e; omega))
  clear VO
  have VO := VO'
  clear VO'
  have VM' := Lib.hid (box_far VM.out gr6 (fun e => by cases e; omega))
  clear VM
  have VM := VM'
  clear VM'
  have BL' := Lib.hid (below_cur BL.out (Nat.le_refl _) gr6 (by omega))
  clear BL
  have BL := BL'
  clear BL'
  clear gr6 cu5
  generalize w4.heap.size = qm at *
  generalize w2.heap.size = qo at *
  have hsz6 := BL.out.size
  have hr4 := block_lt R4.out
  have hqm := block_lt VM.out
  obtain ⟨x0, x1⟩ := cells2p9 VO.out
  cases t
  · go_wp2_with fail
    refine (d_place _ _ g len cap A cu6).mono ?_
    rintro e w7 ⟨⟨a1, a2⟩, rfl, cu7, gr7⟩
    have R1' := Lib.hid (box_far R1.out gr7 (fun e => by cases e; omega))
    clear R1
    have R1 := R1'
    clear R1'
    have R2' := Lib.hid (box_far R2.out gr7 (fun e => by cases e; omega))
    clear R2
    have R2 := R2'
    clear R2'
    have R3' := Lib.hid (box_far R3.out gr7 (fun e => by cases e; omega))
    clear R3
    have R3 := R3'
    clear R3'
    have R4' := Lib.hid (box_far R4.out gr7 (fun e => by cases e; omega))
    clear R4
    have R4 := R4'
    clear R4'
    have VO' := Lib.hid (box_far VO.out gr7 (fun e => by cases e; omega))
    clear VO
    have VO := VO'
    clear VO'
    have VM' := Lib.hid (box_far VM.out gr7 (fun e => by cases e; omega))
    clear VM
    have VM := VM'
    clear VM'
    have BL' := Lib.hid (below_cur BL.out (Nat.le_refl _) gr7 (by omega))
    clear BL
    have BL := BL'
    clear BL'
    have hgl7 := cu7.lt
    have hqm7 := block_lt VM.out
    have hqo7 := block_lt VO.out
    have R1' := Lib.hid ((Below.heap_alloc w7 (.cells #[.int .i64 a1, .int .i64 a2] 25) _ (block_lt R1.out)).trans R1.out)
    clear R1
    have R1 := R1'
    clear R1'
    have R2' := Lib.hid ((Below.heap_alloc w7 (.cells #[.int .i64 a1, .int .i64 a2] 25) _ (block_lt R2.out)).trans R2.out)
    clear R2
    have R2 := R2'
    clear R2'
    have R3' := Lib.hid ((Below.heap_alloc w7 (.cells #[.int .i64 a1, .int .i64 a2] 25) _ (block_lt R3.out)).trans R3.out)
    clear R3
    have R3 := R3'
    clear R3'
    have R4' := Lib.hid ((Below.heap_alloc w7 (.cells #[.int .i64 a1, .int .i64 a2] 25) _ (block_lt R4.out)).trans R4.out)
    clear R4
    have R4 := R4'
    clear R4'
    have VO' := Lib.hid ((Below.heap_alloc w7 (.cells #[.int .i64 a1, .int .i64 a2] 25) _ (block_lt VO.out)).trans VO.out)
    clear VO
    have VO := VO'
    clear VO'
    have VM' := Lib.hid ((Below.heap_alloc w7 (.cells #[.int .i64 a1, .int .i64 a2] 25) _ (block_lt VM.out)).trans VM.out)
    clear VM
    have VM := VM'
    clear VM'
    have VA := Lib.hid (heap_alloc_new w7 (.cells #[.int .i64 a1, .int .i64 a2] 25))
    have cu8 := cu7.alloc (.cells #[.int .i64 a1, .int .i64 a2] 25)
    have BL' := Lib.hid (BL.out.alloc BL.out.size (.cells #[.int .i64 a1, .int .i64 a2] 25))
    clear BL
    have BL := BL'
    clear BL'
    clear gr7 cu7
    dsimp only at *
    (try clear x0 x1)
    obtain ⟨p0, p1⟩ := cells2p9 VO.out
    obtain ⟨p2, p3⟩ := cells2p9 VM.out
    obtain ⟨p4, p5⟩ := cells2p9 VA.out
    go_upto_region 7 with fail
    generalize hw8 : w7.alloc (.cells #[.int .i64 a1, .int .i64 a2] 25) = w8 at *
    generalize w7.heap.size = qa at *
    have cd := cu8.grown_far (grown_drewN w8 1 none) (by simp) (fun k e => by cases e)
    clear cu8 hw8
    go_region_with ((go_at_call 43; refine (d_place _ _ g len cap A cd).mono ?_; rintro e w9 ⟨⟨b1, b2⟩, rfl, cu9, gr9⟩; have VO9 := box_far (w1 := w8.drew) VO.out gr9 (fun e => by cases e; omega); have VM9 := box_far (w1 := w8.drew) VM.out gr9 (fun e => by cases e; omega); have VA9 := box_far (w1 := w8.drew) VA.out gr9 (fun e => by cases e; omega); obtain ⟨l0, l1⟩ := cells2p9 VO9; obtain ⟨l2, l3⟩ := cells2p9 VM9; obtain ⟨l4, l5⟩ := cells2p9 VA9; have S1 := Lib.hid (st2 (box_far (w1 := w8.drew) R1.out gr9 (fun e => by cases e; omega)) (.int .i64 o1) (.int .i64 o2)); have S2 := Lib.hid (st2 (box_far (box_far (w1 := w8.drew) R2.out gr9 (fun e => by cases e; omega)) S1.out.2.2 (fun e => by injection e with e; omega)) (.int .i64 m1) (.int .i64 m2)); have S3 := Lib.hid (st2 (box_far (box_far (box_far (w1 := w8.drew) R3.out gr9 (fun e => by cases e; omega)) S1.out.2.2 (fun e => by injection e with e; omega)) S2.out.2.2 (fun e => by injection e with e; omega)) (.int .i64 a1) (.int .i64 a2)); have S4 := Lib.hid (st2 (box_far (box_far (box_far (box_far (w1 := w8.drew) R4.out gr9 (fun e => by cases e; omega)) S1.out.2.2 (fun e => by injection e with e; omega)) S2.out.2.2 (fun e => by injection e with e; omega)) S3.out.2.2 (fun e => by injection e with e; omega)) (.int .i64 b1) (.int .i64 b2)); have B9 := Lib.hid (below_cur (w1 := w8.drew) BL.out.drew (Nat.le_refl _) gr9 (by omega)); obtain ⟨⟨_, s0, t0⟩, _, s1, t1⟩ := S1.out.1; obtain ⟨⟨_, s2, t2⟩, _, s3, t3⟩ := S2.out.1; obtain ⟨⟨_, s4, t4⟩, _, s5, t5⟩ := S3.out.1; obtain ⟨⟨_, s6, t6⟩, _, s7, t7⟩ := S4.out.1; unfold set2 at s2 t2 s3 t3 s4 t4 s5 t5 s6 t6 s7 t7; clear VO9 VM9 VA9 cu9 gr9; dsimp only at *))
    all_goals (
      go_wp2_with fail
      have h1 := box_far (box_far (box_far S1.out.2.1 S2.out.2.2 (fun e => by injection e with e; omega)) S3.out.2.2 (fun e => by injection e with e; omega)) S4.out.2.2 (fun e => by injection e with e; omega)
      have h2 := box_far (box_far S2.out.2.1 S3.out.2.2 (fun e => by injection e with e; omega)) S4.out.2.2 (fun e => by injection e with e; omega)
      have h3 := box_far S3.out.2.1 S4.out.2.2 (fun e => by injection e with e; omega)
      exact bodyPost_ret (v := .tuple #[_, _, _, _]) (res_cells_4 (p := 2) (q := 3) (r := 4) (s := 5) (ty := 25) (by rfl) _ _ (w.heap.size) (w.heap.size + 1) (w.heap.size + 2) (w.heap.size + 3) _ _ _ _ _ _ (by rfl) (by rfl) (by rfl) (by rfl) h1 h2 h3 S4.out.2.1 Try.underlying25 rfl Try.infoPl6 Try.infoPl6 Try.infoPl6 Try.infoPl6) rfl
        ⟨(_, _), (_, _), (_, _), (_, _), rfl, below_cur (below_cur (below_cur (below_cur B9.out (Nat.le_refl _) S1.out.2.2 (by omega)) (Nat.le_refl _) S2.out.2.2 (by omega)) (Nat.le_refl _) S3.out.2.2 (by omega)) (Nat.le_refl _) S4.out.2.2 (by omega)⟩)
  · have q0 := heap_set_self (k := 0) VM.out (.int .i64 o1)
    have q1 := heap_set_self (k := 1) q0 (.int .i64 o2)
    obtain ⟨_, f0, z0⟩ := cell_at VM.out (k := 0) rfl (show 0 < 2 by omega)
    obtain ⟨_, f1, z1⟩ := cell_at q0 (k := 1) rfl (show 1 < 2 by omega)
    have VM' := Lib.hid (show ((w6.setCell ⟨qm, 0, none⟩ (.int .i64 o1)).setCell ⟨qm, 1, none⟩ (.int .i64 o2)).heap[qm]? = some (.cells #[.int .i64 o1, .int .i64 o2] 25 (0, 0)) from q1)
    have gs := grown_trans (grown_set w6 qm 0 (.int .i64 o1)) (grown_set _ qm 1 (.int .i64 o2))
    have VO' := Lib.hid (box_far VO.out gs (fun e => by injection e with e; omega))
    have R1' := Lib.hid (box_far R1.out gs (fun e => by injection e with e; omega))
    have R2' := Lib.hid (box_far R2.out gs (fun e => by injection e with e; omega))
    have R3' := Lib.hid (box_far R3.out gs (fun e => by injection e with e; omega))
    have R4' := Lib.hid (box_far R4.out gs (fun e => by injection e with e; omega))
    have cu6' := cu6.grown_far gs (fun e => by injection e with e; omega) (fun j e => by injection e with e; omega)
    have BL' := Lib.hid (below_cur BL.out (Nat.le_refl _) gs (by omega))
    clear VM VO R1 R2 R3 R4 BL cu6 q0 q1 gs
    have VM := VM'
    have VO := VO'
    have R1 := R1'
    have R2 := R2'
    have R3 := R3'
    have R4 := R4'
    have BL := BL'
    have cu6 := cu6'
    clear VM' VO' R1' R2' R3' R4' BL' cu6'
    go_wp2_with fail
    refine (d_place _ _ g len cap A cu6).mono ?_
    rintro e w7 ⟨⟨a1, a2⟩, rfl, cu7, gr7⟩
    have R1' := Lib.hid (box_far R1.out gr7 (fun e => by cases e; omega))
    clear R1
    have R1 := R1'
    clear R1'
    have R2' := Lib.hid (box_far R2.out gr7 (fun e => by cases e; omega))
    clear R2
    have R2 := R2'
    clear R2'
    have R3' := Lib.hid (box_far R3.out gr7 (fun e => by cases e; omega))
    clear R3
    have R3 := R3'
    clear R3'
    have R4' := Lib.hid (box_far R4.out gr7 (fun e => by cases e; omega))
    clear R4
    have R4 := R4'
    clear R4'
    have VO' := Lib.hid (box_far VO.out gr7 (fun e => by cases e; omega))
    clear VO
    have VO := VO'
    clear VO'
    have VM' := Lib.hid (box_far VM.out gr7 (fun e => by cases e; omega))
    clear VM
    have VM := VM'
    clear VM'
    have BL' := Lib.hid (below_cur BL.out (Nat.le_refl _) gr7 (by omega))
    clear BL
    have BL := BL'
    clear BL'
    have hgl7 := cu7.lt
    have hqm7 := block_lt VM.out
    have hqo7 := block_lt VO.out
    have R1' := Lib.hid ((Below.heap_alloc w7 (.cells #[.int .i64 a1, .int .i64 a2] 25) _ (block_lt R1.out)).trans R1.out)
    clear R1
    have R1 := R1'
    clear R1'
    have R2' := Lib.hid ((Below.heap_alloc w7 (.cells #[.int .i64 a1, .int .i64 a2] 25) _ (block_lt R2.out)).trans R2.out)
    clear R2
    have R2 := R2'
    clear R2'
    have R3' := Lib.hid ((Below.heap_alloc w7 (.cells #[.int .i64 a1, .int .i64 a2] 25) _ (block_lt R3.out)).trans R3.out)
    clear R3
    have R3 := R3'
    clear R3'
    have R4' := Lib.hid ((Below.heap_alloc w7 (.cells #[.int .i64 a1, .int .i64 a2] 25) _ (block_lt R4.out)).trans R4.out)
    clear R4
    have R4 := R4'
    clear R4'
    have VO' := Lib.hid ((Below.heap_alloc w7 (.cells #[.int .i64 a1, .int .i64 a2] 25) _ (block_lt VO.out)).trans VO.out)
    clear VO
    have VO := VO'
    clear VO'
    have VM' := Lib.hid ((Below.heap_alloc w7 (.cells #[.int .i64 a1, .int .i64 a2] 25) _ (block_lt VM.out)).trans VM.out)
    clear VM
    have VM := VM'
    clear VM'
    have VA := Lib.hid (heap_alloc_new w7 (.cells #[.int .i64 a1, .int .i64 a2] 25))
    have cu8 := cu7.alloc (.cells #[.int .i64 a1, .int .i64 a2] 25)
    have BL' := Lib.hid (BL.out.alloc BL.out.size (.cells #[.int .i64 a1, .int .i64 a2] 25))
    clear BL
    have BL := BL'
    clear BL'
    clear gr7 cu7
    dsimp only at *
    (try clear x0 x1)
    obtain ⟨p0, p1⟩ := cells2p9 VO.out
    obtain ⟨p2, p3⟩ := cells2p9 VM.out
    obtain ⟨p4, p5⟩ := cells2p9 VA.out
    go_upto_region 7 with fail
    generalize hw8 : w7.alloc (.cells #[.int .i64 a1, .int .i64 a2] 25) = w8 at *
    generalize w7.heap.size = qa at *
    have cd := cu8.grown_far (grown_drewN w8 1 none) (by simp) (fun k e => by cases e)
    clear cu8 hw8
    go_region_with ((go_at_call 43; refine (d_place _ _ g len cap A cd).mono ?_; rintro e w9 ⟨⟨b1, b2⟩, rfl, cu9, gr9⟩; have VO9 := box_far (w1 := w8.drew) VO.out gr9 (fun e => by cases e; omega); have VM9 := box_far (w1 := w8.drew) VM.out gr9 (fun e => by cases e; omega); have VA9 := box_far (w1 := w8.drew) VA.out gr9 (fun e => by cases e; omega); obtain ⟨l0, l1⟩ := cells2p9 VO9; obtain ⟨l2, l3⟩ := cells2p9 VM9; obtain ⟨l4, l5⟩ := cells2p9 VA9; have S1 := Lib.hid (st2 (box_far (w1 := w8.drew) R1.out gr9 (fun e => by cases e; omega)) (.int .i64 o1) (.int .i64 o2)); have S2 := Lib.hid (st2 (box_far (box_far (w1 := w8.drew) R2.out gr9 (fun e => by cases e; omega)) S1.out.2.2 (fun e => by injection e with e; omega)) (.int .i64 o1) (.int .i64 o2)); have S3 := Lib.hid (st2 (box_far (box_far (box_far (w1 := w8.drew) R3.out gr9 (fun e => by cases e; omega)) S1.out.2.2 (fun e => by injection e with e; omega)) S2.out.2.2 (fun e => by injection e with e; omega)) (.int .i64 a1) (.int .i64 a2)); have S4 := Lib.hid (st2 (box_far (box_far (box_far (box_far (w1 := w8.drew) R4.out gr9 (fun e => by cases e; omega)) S1.out.2.2 (fun e => by injection e with e; omega)) S2.out.2.2 (fun e => by injection e with e; omega)) S3.out.2.2 (fun e => by injection e with e; omega)) (.int .i64 b1) (.int .i64 b2)); have B9 := Lib.hid (below_cur (w1 := w8.drew) BL.out.drew (Nat.le_refl _) gr9 (by omega)); obtain ⟨⟨_, s0, t0⟩, _, s1, t1⟩ := S1.out.1; obtain ⟨⟨_, s2, t2⟩, _, s3, t3⟩ := S2.out.1; obtain ⟨⟨_, s4, t4⟩, _, s5, t5⟩ := S3.out.1; obtain ⟨⟨_, s6, t6⟩, _, s7, t7⟩ := S4.out.1; unfold set2 at s2 t2 s3 t3 s4 t4 s5 t5 s6 t6 s7 t7; clear VO9 VM9 VA9 cu9 gr9; dsimp only at *))
    all_goals (
      go_wp2_with fail
      have h1 := box_far (box_far (box_far S1.out.2.1 S2.out.2.2 (fun e => by injection e with e; omega)) S3.out.2.2 (fun e => by injection e with e; omega)) S4.out.2.2 (fun e => by injection e with e; omega)
      have h2 := box_far (box_far S2.out.2.1 S3.out.2.2 (fun e => by injection e with e; omega)) S4.out.2.2 (fun e => by injection e with e; omega)
      have h3 := box_far S3.out.2.1 S4.out.2.2 (fun e => by injection e with e; omega)
      exact bodyPost_ret (v := .tuple #[_, _, _, _]) (res_cells_4 (p := 2) (q := 3) (r := 4) (s := 5) (ty := 25) (by rfl) _ _ (w.heap.size) (w.heap.size + 1) (w.heap.size + 2) (w.heap.size + 3) _ _ _ _ _ _ (by rfl) (by rfl) (by rfl) (by rfl) h1 h2 h3 S4.out.2.1 Try.underlying25 rfl Try.infoPl6 Try.infoPl6 Try.infoPl6 Try.infoPl6) rfl
        ⟨(_, _), (_, _), (_, _), (_, _), rfl, below_cur (below_cur (below_cur (below_cur B9.out (Nat.le_refl _) S1.out.2.2 (by omega)) (Nat.le_refl _) S2.out.2.2 (by omega)) (Nat.le_refl _) S3.out.2.2 (by omega)) (Nat.le_refl _) S4.out.2.2 (by omega)⟩)
end Go.Proofs.Ythahakefmpajfaa
