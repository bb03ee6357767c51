/- The drawing of what is asked of starts: DrawStartTime. -/
import Derived.Test.YtnpgppenkpkfnaaLiJ
namespace Go.Proofs.Ytnpgppenkpkfnaa
open Go.RowKit
set_option linter.unusedVariables false
set_option linter.unusedSimpArgs false

theorem OwnG.gone {w : World} {B n k : Nat} {v : Value} (h : OwnG w B v n) (hk : k < B) : v.ownBlock ≠ some k := fun e => by have := (h.lt e).1; omega
set_option maxRecDepth 100000 in
set_option maxHeartbeats 2000000 in
theorem d_startTime (w : World) (len cap : Nat) (A : Option Addr) (hcode : Code w w.heap.size A len) :
    Calls Try.prog 29 #[.slice A len cap] w fun e w' => ∃ (l : Ln) (n : Nat) (TA : Option Addr) (tg tc : Nat) (f : Nat → Sg) (gun : Int),
      e = .returned (.tuple #[.agg #[.int .i64 l.1.1, .int .i64 l.1.2, .int .i64 l.2.1, .int .i64 l.2.2], .slice TA n tc, .int .i64 gun]) ∧ n ≤ 201 ∧ (0 < n → TA = some ⟨tg, 0, none⟩ ∧ w.heap.size ≤ tg) ∧ SigsIn w' tg 0 n f ∧ Below w.heap.size w w' := by
  have bb := Bx1.new w #[.int .i64 0, .int .i64 0, .int .i64 0, .int .i64 0] 27
  have hs2 : (w.alloc (.cells #[.int .i64 0, .int .i64 0, .int .i64 0, .int .i64 0] 27)).heap.size = w.heap.size + 1 := by simp
  have hc1 := code_step9 hcode bb.2 (show w.heap.size ≤ w.heap.size + 1 by omega)
  have HBB := Lib.hid bb
  clear bb
  go_enter Try.func29, Try.ntmps29
  go_wp2_with fail
  refine (d_new _ (w.heap.size + 1) len cap A (by rw [hs2]; exact Nat.le_refl _) hc1).mono ?_
  rintro e w1 ⟨g, rfl, cu1, b1⟩
  have B1 := Lib.hid (HBB.out.2.trans (b1.mono (by omega)))
  have r1 := (b1.block w.heap.size (by omega)).trans HBB.out.1
  have hg := cu1.1
  clear hc1 b1 HBB hs2
  go_wp2_with fail
  refine (d_line _ _ g len cap A cu1).mono ?_
  rintro e w2 ⟨⟨⟨x1, x2⟩, x3, x4⟩, rfl, cu2, gr2⟩
  have B2 := Lib.hid (below_cur B1.out (Nat.le_refl _) gr2 (by omega))
  have r12 := box_far r1 gr2 (fun e => by cases e; omega)
  have l12 := block_lt r12
  have hgl := cu2.lt
  clear r1 gr2 cu1 B1
  have bx3 := heap_alloc_new w2 (.cells #[.int .i64 x1, .int .i64 x2, .int .i64 x3, .int .i64 x4] 27)
  have r13 := (Below.heap_alloc w2 (.cells #[.int .i64 x1, .int .i64 x2, .int .i64 x3, .int .i64 x4] 27) w.heap.size l12).trans r12
  have cu3 := cu2.alloc (.cells #[.int .i64 x1, .int .i64 x2, .int .i64 x3, .int .i64 x4] 27)
  have B3 := Lib.hid (B2.out.alloc B2.out.size (.cells #[.int .i64 x1, .int .i64 x2, .int .i64 x3, .int .i64 x4] 27))
  have hz3 : (w2.alloc (.cells #[.int .i64 x1, .int .i64 x2, .int .i64 x3, .int .i64 x4] 27)).heap.size = w2.heap.size + 1 := by simp
  clear r12 B2
  dsimp only at *
  go_wp2_with fail
  refine (d_track _ _ g len cap A cu3).mono ?_
  rintro e w4 ⟨n, v, hn, rfl, hOT, cu4, gr4⟩
  have bx4 := box_far bx3 gr4 (fun e => by cases e; omega)
  have r14 := box_far r13 gr4 (fun e => by cases e; omega)
  have B4 := Lib.hid (below_cur B3.out (Nat.le_refl _) gr4 (by omega))
  rw [hz3] at hOT
  have hne : v.ownBlock ≠ some g := hOT.gone (by omega)
  have OT2 := Lib.hid (hOT.gone (show w.heap.size < w2.heap.size + 1 by omega))
  clear bx3 r13 gr4 cu3 B3
  go_wp2_with fail
  refine (d_once 15 _ _ g len cap A cu4 (by omega)).mono ?_
  rintro e w5 ⟨t, rfl, cu5, gr5⟩
  have bx5 := box_far bx4 gr5 (fun e => by cases e; omega)
  have r15 := box_far r14 gr5 (fun e => by cases e; omega)
  have B5 := Lib.hid (below_cur B4.out (Nat.le_refl _) gr5 (by omega))
  have OT := Lib.hid (And.intro (hOT.kept gr5 (fun k ek => by cases ek; exact hne)) hne)
  have k0 := cell_of_row _ _ 0 _ _ _ bx5
  have k1 := cell_of_row _ _ 1 _ _ _ bx5
  have k2 := cell_of_row _ _ 2 _ _ _ bx5
  have k3 := cell_of_row _ _ 3 _ _ _ bx5
  have BX5 := Lib.hid bx5
  have R5 := Lib.hid r15
  have cd := cu5.grown_far (grown_drewN w5 1 none) (by simp) (fun k e => by cases e)
  clear bx4 r14 gr5 cu4 B4 bx5 r15 hOT cu5 hz3 hne cu2
  generalize w2.heap.size = q at *
  cases t
  · go_upto_region 6 with fail
    go_region_with ((go_at_call 49; refine (d_below 500 _ _ g len cap A cd (by omega)).mono ?_; rintro e w6 ⟨b, _, _, _, rfl, cu6, gr6⟩; have bx6 := box_far (w1 := w5.drew) BX5.out gr6 (fun e => by cases e; omega); have l0 := cell_of_row w6 _ 0 _ _ _ bx6; have l1 := cell_of_row w6 _ 1 _ _ _ bx6; have l2 := cell_of_row w6 _ 2 _ _ _ bx6; have l3 := cell_of_row w6 _ 3 _ _ _ bx6; have S4 := Lib.hid (st4 (box_far (w1 := w5.drew) R5.out gr6 (fun e => by cases e; omega)) (.int .i64 x1) (.int .i64 x2) (.int .i64 x3) (.int .i64 x4)); have B6 := Lib.hid (below_cur (w1 := w5.drew) B5.out.drew (Nat.le_refl _) gr6 (by omega)); have T6 := Lib.hid (OwnC.kept (w := w5.drew) OT.out.1 gr6 (fun k ek => by cases ek; exact OT.out.2)); obtain ⟨⟨_, x0, y0⟩, ⟨_, x1', y1⟩, ⟨_, x2', y2⟩, _, x3', y3⟩ := S4.out.1; clear bx6 cu6 gr6))
    all_goals (
      go_wp2_with fail
      have T7 := T6.out.kept S4.out.2.2 (fun k ek => by cases ek; exact OT2.out)
      obtain ⟨TA, tg, tc, f, rfl, hTA, hSig⟩ := OwnG.sigs T7
      exact bodyPost_ret (res_cell_tt9 (fn := Try.f29) (p := 2) (u := 3) (v := 4) (ty := 27) rfl _ _ w.heap.size _ #[.int .i64 x1, .int .i64 x2, .int .i64 x3, .int .i64 x4] (0, 0) _ rfl S4.out.2.1 Try.underlying27 rfl Try.infoLn) rfl
        ⟨((x1, x2), x3, x4), n, TA, tg, tc, f, b, rfl, hn, fun h => ⟨(hTA h).1, by have := (hTA h).2; omega⟩, hSig, below_cur B6.out (Nat.le_refl _) S4.out.2.2 (Nat.le_refl _)⟩)
  · go_upto_region 5 with fail
    go_region_with ((go_at_call 61; refine (d_number _ _ g len cap A cd).mono ?_; rintro e w6 ⟨b, _, _, rfl, cu6, gr6⟩; have bx6 := box_far (w1 := w5.drew) BX5.out gr6 (fun e => by cases e; omega); have l0 := cell_of_row w6 _ 0 _ _ _ bx6; have l1 := cell_of_row w6 _ 1 _ _ _ bx6; have l2 := cell_of_row w6 _ 2 _ _ _ bx6; have l3 := cell_of_row w6 _ 3 _ _ _ bx6; have S4 := Lib.hid (st4 (box_far (w1 := w5.drew) R5.out gr6 (fun e => by cases e; omega)) (.int .i64 x1) (.int .i64 x2) (.int .i64 x3) (.int .i64 x4)); have B6 := Lib.hid (below_cur (w1 := w5.drew) B5.out.drew (Nat.le_refl _) gr6 (by omega)); have T6 := Lib.hid (OwnC.kept (w := w5.drew) OT.out.1 gr6 (fun k ek => by cases ek; exact OT.out.2)); obtain ⟨⟨_, x0, y0⟩, ⟨_, x1', y1⟩, ⟨_, x2', y2⟩, _, x3', y3⟩ := S4.out.1; clear bx6 cu6 gr6))
    all_goals (
      go_wp2_with fail
      have T7 := T6.out.kept S4.out.2.2 (fun k ek => by cases ek; exact OT2.out)
      obtain ⟨TA, tg, tc, f, rfl, hTA, hSig⟩ := OwnG.sigs T7
      exact bodyPost_ret (res_cell_tt9 (fn := Try.f29) (p := 2) (u := 3) (v := 4) (ty := 27) rfl _ _ w.heap.size _ #[.int .i64 x1, .int .i64 x2, .int .i64 x3, .int .i64 x4] (0, 0) _ rfl S4.out.2.1 Try.underlying27 rfl Try.infoLn) rfl
        ⟨((x1, x2), x3, x4), n, TA, tg, tc, f, _, rfl, hn, fun h => ⟨(hTA h).1, by have := (hTA h).2; omega⟩, hSig, below_cur B6.out (Nat.le_refl _) S4.out.2.2 (Nat.le_refl _)⟩)
end Go.Proofs.Ytnpgppenkpkfnaa
