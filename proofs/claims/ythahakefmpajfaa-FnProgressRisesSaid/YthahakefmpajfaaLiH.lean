/- The drawing of lines: l09Line. -/
import Derived.Test.YthahakefmpajfaaLiG
namespace Go.Proofs.Ythahakefmpajfaa
open Go.RowKit
set_option linter.unusedVariables false
set_option linter.unusedSimpArgs false

theorem gr_drew9 {w w' : World} {r : Option Nat} (h : w.grownBy w' r) : w.grownBy w'.drew r := ⟨h.os, h.tape, h.output, h.size, h.block⟩
/-- Four stores into a block of four cells; two into one of two. -/
def set4 (w : World) (q : Nat) (a b c d : Value) : World := (((w.setCell ⟨q, 0, none⟩ a).setCell ⟨q, 1, none⟩ b).setCell ⟨q, 2, none⟩ c).setCell ⟨q, 3, none⟩ d
theorem st4 {w6 : World} {q : Nat} {t : TypeId} {z0 z1 z2 z3 : Value} (r : w6.heap[q]? = some (.cells #[z0, z1, z2, z3] t (0, 0))) (a b c d : Value) :
    ((∃ y, w6.cell? ⟨q, 0, none⟩ = some y ∧ w6.frozen? ⟨q, 0, none⟩ = false) ∧
     (∃ y, (w6.setCell ⟨q, 0, none⟩ a).cell? ⟨q, 1, none⟩ = some y ∧ (w6.setCell ⟨q, 0, none⟩ a).frozen? ⟨q, 1, none⟩ = false) ∧
     (∃ y, ((w6.setCell ⟨q, 0, none⟩ a).setCell ⟨q, 1, none⟩ b).cell? ⟨q, 2, none⟩ = some y ∧ ((w6.setCell ⟨q, 0, none⟩ a).setCell ⟨q, 1, none⟩ b).frozen? ⟨q, 2, none⟩ = false) ∧
     (∃ y, (((w6.setCell ⟨q, 0, none⟩ a).setCell ⟨q, 1, none⟩ b).setCell ⟨q, 2, none⟩ c).cell? ⟨q, 3, none⟩ = some y ∧ (((w6.setCell ⟨q, 0, none⟩ a).setCell ⟨q, 1, none⟩ b).setCell ⟨q, 2, none⟩ c).frozen? ⟨q, 3, none⟩ = false)) ∧
    (set4 w6 q a b c d).heap[q]? = some (.cells #[a, b, c, d] t (0, 0)) ∧ w6.grownBy (set4 w6 q a b c d) (some q) := by
  have p0 := heap_set_self (k := 0) r a
  have p1 := heap_set_self (k := 1) p0 b
  have p2 := heap_set_self (k := 2) p1 c
  have p3 := heap_set_self (k := 3) p2 d
  exact ⟨⟨cell_at r (k := 0) rfl (show 0 < 4 by omega), cell_at p0 (k := 1) rfl (show 1 < 4 by omega), cell_at p1 (k := 2) rfl (show 2 < 4 by omega), cell_at p2 (k := 3) rfl (show 3 < 4 by omega)⟩, p3,
    grown_trans (grown_trans (grown_trans (grown_set _ q 0 a) (grown_set _ q 1 b)) (grown_set _ q 2 c)) (grown_set _ q 3 d)⟩
set_option maxRecDepth 100000 in
set_option maxHeartbeats 2000000 in
theorem d_line (w : World) (B g len cap : Nat) (A : Option Addr) (hc : Cur w B g A len cap) :
    Calls Try.prog 80 #[.pointer (some ⟨g, 0, none⟩)] w fun e w' => ∃ l : Ln, e = .returned (.agg #[.int .i64 l.1.1, .int .i64 l.1.2, .int .i64 l.2.1, .int .i64 l.2.2]) ∧ Cur w' B g A len cap ∧ w.grownBy w' (some g) := by
  have hgl := hc.lt
  have hBg := hc.1
  have g0 := World.grownBy_alloc w (.cells #[.int .i64 0, .int .i64 0, .int .i64 0, .int .i64 0] 33) (some g)
  have hb := heap_alloc_new w (.cells #[.int .i64 0, .int .i64 0, .int .i64 0, .int .i64 0] 33)
  have cu0 := hc.alloc (.cells #[.int .i64 0, .int .i64 0, .int .i64 0, .int .i64 0] 33)
  go_enter Try.func80, Try.ntmps80
  go_wp2_with fail
  refine (d_place _ B g len cap A cu0).mono ?_
  rintro e w2 ⟨⟨p1, p2⟩, rfl, cu2, gr2⟩
  have gr02 := grown_trans g0 gr2
  have hb2 := box_far hb gr2 (fun e => by cases e; omega)
  have hs2 := gr02.size
  have hl2 := block_lt hb2
  clear gr2 g0 cu0 hb
  have gA := World.grownBy_alloc w2 (.cells #[.int .i64 p1, .int .i64 p2] 25) (some g)
  have gr03 := grown_trans gr02 gA
  have hb3 := (Below.heap_alloc w2 (.cells #[.int .i64 p1, .int .i64 p2] 25) w.heap.size hl2).trans hb2
  have bx3 := heap_alloc_new w2 (.cells #[.int .i64 p1, .int .i64 p2] 25)
  have cu3 := cu2.alloc (.cells #[.int .i64 p1, .int .i64 p2] 25)
  have hgl2 := cu2.lt
  clear gA gr02 hb2
  have k0 := cell_of_row _ _ 0 _ _ _ bx3
  have k1 := cell_of_row _ _ 1 _ _ _ bx3
  have HB := Lib.hid hb3
  have BX := Lib.hid bx3
  have GR := Lib.hid gr03
  clear hb3 bx3 gr03
  dsimp only at *
  go_upto_region 2 with fail
  generalize hw3 : w2.alloc (.cells #[.int .i64 p1, .int .i64 p2] 25) = w3 at *
  generalize w2.heap.size = q at *
  have cd := cu3.grown_far (grown_drewN w3 1 none) (by simp) (fun k e => by cases e)
  clear cu2 cu3 hw3
  go_region_with ((go_at_call 43; refine (d_place _ B g len cap A cd).mono ?_; rintro e w6 ⟨⟨r1, r2⟩, rfl, cu6, gr6⟩; have bx6 := box_far (w1 := w3.drew) BX.out gr6 (fun e => by cases e; omega); have l0 := cell_of_row w6 _ 0 _ _ _ bx6; have l1 := cell_of_row w6 _ 1 _ _ _ bx6; have S4 := Lib.hid (st4 (box_far (w1 := w3.drew) HB.out gr6 (fun e => by cases e; omega)) (.int .i64 p1) (.int .i64 p2) (.int .i64 r1) (.int .i64 r2)); have CU := Lib.hid cu6; have G6 := Lib.hid (grown_trans (gr_drew9 GR.out) gr6); obtain ⟨⟨_, x0, y0⟩, ⟨_, x1, y1⟩, ⟨_, x2, y2⟩, _, x3, y3⟩ := S4.out.1; clear bx6 cu6 gr6; dsimp only at *))
  all_goals (
    go_wp2_with fail
    exact bodyPost_ret (v := .agg #[.int .i64 p1, .int .i64 p2, .int .i64 r1, .int .i64 r2]) (results_cell_row (p := 2) (ty := 33) (by rfl) _ _ w.heap.size _ #[.int .i64 p1, .int .i64 p2, .int .i64 r1, .int .i64 r2] (0, 0) _ (by rfl) S4.out.2.1 Try.underlying33 rfl Try.infoLn) rfl
      ⟨((p1, p2), r1, r2), rfl, CU.out.grown_far S4.out.2.2 (fun e => by cases e; omega) (fun j e => by cases e; omega), gr_new G6.out S4.out.2.2 (fun j e => .inr (by cases e; exact Nat.le_refl _))⟩)
end Go.Proofs.Ythahakefmpajfaa
