/- The drawing of places and lines: l09Place, l09Line. -/
import Derived.Test.YthahakefmpajfaaLiB
import Derived.Test.YthahakefmpajfaaOwnA
import Derived.Deep.RegionWith
namespace Go.Proofs.Ythahakefmpajfaa
open Go.RowKit
set_option linter.unusedVariables false
set_option linter.unusedSimpArgs false

set_option maxHeartbeats 1000000 in
/-- A pick out of a slice of whole numbers in a block of its own. -/
theorem d_pickin9 (lo hi : Int) (hlo : -9223372036854775808 ≤ lo) (hhi : hi ≤ 9223372036854775807) (w : World) (B g len cap b n m : Nat) (A : Option Addr) (t : TypeId) (xs : List Int) (hc : Cur w B g A len cap) (hn : n = xs.length) (h0 : 0 < n) (h1 : n < 1000) (hbg : b ≠ g)
    (hx : ∀ x ∈ xs, lo ≤ x ∧ x ≤ hi) (hb : w.heap[b]? = some (.cells (xs.map (Value.int .i64)).toArray t (0, 0))) :
    Calls Try.prog 75 #[.pointer (some ⟨g, 0, none⟩), .slice (some ⟨b, 0, none⟩) n m] w fun e w' => ∃ x : Int, lo ≤ x ∧ x ≤ hi ∧ e = .returned (.int .i64 x) ∧ Cur w' B g A len cap ∧ w.grownBy w' (some g) := by
  have HB := Lib.hid hb
  clear hb
  go_enter Try.func75, Try.ntmps75
  go_wp2_with fail
  refine (d_below _ _ B g len cap A hc (by omega)).mono ?_
  rintro e w1 ⟨x, x0, x1, x2, rfl, cur1, gr1⟩
  obtain ⟨k, rfl⟩ : ∃ k : Nat, x = k := ⟨x.toNat, by omega⟩
  have hk : k < n := by have := x1 (by omega); omega
  have hcell : w1.cell? ⟨b, k, none⟩ = some (.int .i64 (xs.getD k 0)) := by
    have hlt : b < w.heap.size := by
      rcases Nat.lt_or_ge b w.heap.size with h | h
      · exact h
      · have := HB.out; rw [Array.getElem?_eq_none h] at this; cases this
    rw [cell_of_row w1 b k _ _ _ ((gr1.block b hlt (by simpa using hbg)).trans HB.out)]
    simp [List.getD, List.getElem?_eq_getElem (show k < xs.length by omega)]
  have hmem : xs.getD k 0 ∈ xs := by
    rw [List.getD, List.getElem?_eq_getElem (show k < xs.length by omega)]; exact List.getElem_mem _
  obtain ⟨r0, r1⟩ := hx _ hmem
  generalize xs.getD k 0 = v at *
  clear x1 x2 hx hmem HB
  have k0 : (0 : Int) ≤ (k : Int) := by omega
  have k1 : (k : Int) < (n : Int) := by omega
  go_wp2
  go_ret
  exact ⟨v, r0, r1, rfl, cur1, gr1⟩
theorem Try.infoPl : (Try.prog.info? 25).map (·.size) = some 2 := by kernel_rfl
theorem Try.infoLn : (Try.prog.info? 33).map (·.size) = some 4 := by kernel_rfl
set_option maxRecDepth 100000 in
set_option maxHeartbeats 2000000 in
theorem d_place (w : World) (B g len cap : Nat) (A : Option Addr) (hc : Cur w B g A len cap) :
    Calls Try.prog 43 #[.pointer (some ⟨g, 0, none⟩)] w fun e w' => ∃ p : Int × Int, e = .returned (.agg #[.int .i64 p.1, .int .i64 p.2]) ∧ Cur w' B g A len cap ∧ w.grownBy w' (some g) := by
  have hgl := hc.lt
  have hBg := hc.1
  have g0 := World.grownBy_alloc w (.cells #[.int .i64 0, .int .i64 0] 25) (some g)
  have hb := heap_alloc_new w (.cells #[.int .i64 0, .int .i64 0] 25)
  have cu0 := hc.alloc (.cells #[.int .i64 0, .int .i64 0] 25)
  go_enter Try.func43, Try.ntmps43
  go_wp2_with fail
  refine (d_once 40 _ B g len cap A cu0 (by omega)).mono ?_
  rintro e w1 ⟨t, rfl, cu1, gr1⟩
  have gr01 := grown_trans g0 gr1
  have hb1 := box_far hb gr1 (fun e => by cases e; omega)
  have hs1 := gr01.size
  clear gr1 g0 cu0 hb
  cases t
  · go_wp2_with fail
    refine (d_pickin9 4 400 (by omega) (by omega) _ B g len cap w1.heap.size 3 3 A 3 [4, 20, 400] (cu1.alloc _) rfl (by omega) (by omega) (by omega) (by intro x hx; simp at hx; omega) (heap_alloc_new w1 _)).mono ?_
    rintro e w2 ⟨n, n0, n1, rfl, cu2, gr2⟩
    have gA := World.grownBy_alloc w1 (.cells #[.int .i64 4, .int .i64 20, .int .i64 400] 3) (some g)
    have hA := (Below.heap_alloc w1 (.cells #[.int .i64 4, .int .i64 20, .int .i64 400] 3) w.heap.size (block_lt hb1)).trans hb1
    have gr02 := grown_trans gr01 (grown_trans gA gr2)
    have hb2 := box_far hA gr2 (fun e => by cases e; omega)
    clear gA gr2 gr01 cu1 hb1 hA
    have v1 : wrap64 (2 * n) = 2 * n := by unfold wrap64; omega
    have v2 : wrap64 (2 * n + 1) = 2 * n + 1 := by unfold wrap64; omega
    go_wp2_with fail
    refine (d_below (2 * n + 1) _ B g len cap A cu2 (by omega)).mono ?_
    rintro e w3 ⟨x, x0, x1, _, rfl, cu3, gr3⟩
    have x9 := x1 (by omega)
    have gr03 := grown_trans gr02 gr3
    have hb3 := box_far hb2 gr3 (fun e => by cases e; omega)
    clear x1 gr3 gr02 cu2 hb2
    have v3 : wrap64 (x - n) = x - n := by unfold wrap64; omega
    go_wp2_with fail
    refine (d_below (2 * n + 1) _ B g len cap A cu3 (by omega)).mono ?_
    rintro e w4 ⟨y, y0, y1, _, rfl, cu4, gr4⟩
    have y9 := y1 (by omega)
    have gr04 := grown_trans gr03 gr4
    have hb4 := box_far hb3 gr4 (fun e => by cases e; omega)
    have hgl4 := cu4.lt
    clear y1 gr4 gr03 cu3 hb3
    have v4 : wrap64 (y - n) = y - n := by unfold wrap64; omega
    obtain ⟨_, x0, y0⟩ := cell_at hb4 (k := 0) rfl (show 0 < 2 by omega)
    have p1 := heap_set_self (k := 0) hb4 (.int .i64 (x - n))
    obtain ⟨_, x1', y1'⟩ := cell_at p1 (k := 1) rfl (show 1 < 2 by omega)
    have p2 := heap_set_self (k := 1) p1 (.int .i64 (y - n))
    have g3 := grown_trans (grown_set w4 w.heap.size 0 (.int .i64 (x - n))) (grown_set _ w.heap.size 1 (.int .i64 (y - n)))
    have cuF := (cu4).grown_far g3 (fun e => by cases e; omega) (fun j e => by cases e; omega)
    have grF := gr_new gr04 g3 (fun j e => .inr (by cases e; exact Nat.le_refl _))
    have HF := Lib.hid (And.intro p2 (And.intro cuF grF))
    clear p1 p2 g3 cuF grF
    go_wp2_with fail
    exact bodyPost_ret (v := .agg #[.int .i64 (x - n), .int .i64 (y - n)]) (results_cell_row (p := 2) (ty := 25) (by rfl) _ _ w.heap.size _ #[.int .i64 (x - n), .int .i64 (y - n)] (0, 0) _ (by rfl) HF.out.1 Try.underlying25 rfl Try.infoPl) rfl
      ⟨((x - n), (y - n)), rfl, HF.out.2.1, HF.out.2.2⟩
  · go_wp2_with fail
    refine (d_pickint _ B g len cap w1.heap.size 4 4 A 3 [10000, -10000, 10001, 9223372036854775807] (cu1.alloc _) rfl (by omega) (by omega) (by have := cu1.lt; omega) (by intro x hx; simp at hx; omega) (heap_alloc_new w1 _)).mono ?_
    rintro e w2 ⟨x, _, _, rfl, cu2, gr2⟩
    have gA := World.grownBy_alloc w1 (.cells #[.int .i64 10000, .int .i64 (-10000), .int .i64 10001, .int .i64 9223372036854775807] 3) (some g)
    have hA := (Below.heap_alloc w1 (.cells #[.int .i64 10000, .int .i64 (-10000), .int .i64 10001, .int .i64 9223372036854775807] 3) w.heap.size (block_lt hb1)).trans hb1
    have gr02 := grown_trans gr01 (grown_trans gA gr2)
    have hb2 := box_far hA gr2 (fun e => by cases e; omega)
    have hs2 := gr02.size
    clear gA gr2 gr01 cu1 hb1 hA
    go_wp2_with fail
    refine (d_pickint _ B g len cap w2.heap.size 3 3 A 3 [10000, 0, -10001] (cu2.alloc _) rfl (by omega) (by omega) (by have := cu2.lt; omega) (by intro x hx; simp at hx; omega) (heap_alloc_new w2 _)).mono ?_
    rintro e w3 ⟨y, _, _, rfl, cu3, gr3⟩
    have gA := World.grownBy_alloc w2 (.cells #[.int .i64 10000, .int .i64 0, .int .i64 (-10001)] 3) (some g)
    have hA := (Below.heap_alloc w2 (.cells #[.int .i64 10000, .int .i64 0, .int .i64 (-10001)] 3) w.heap.size (block_lt hb2)).trans hb2
    have gr03 := grown_trans gr02 (grown_trans gA gr3)
    have hb3 := box_far hA gr3 (fun e => by cases e; omega)
    have hgl4 := cu3.lt
    clear gA gr3 gr02 cu2 hb2 hA
    obtain ⟨_, x0, y0⟩ := cell_at hb3 (k := 0) rfl (show 0 < 2 by omega)
    have p1 := heap_set_self (k := 0) hb3 (.int .i64 (x))
    obtain ⟨_, x1', y1'⟩ := cell_at p1 (k := 1) rfl (show 1 < 2 by omega)
    have p2 := heap_set_self (k := 1) p1 (.int .i64 (y))
    have g3 := grown_trans (grown_set w3 w.heap.size 0 (.int .i64 (x))) (grown_set _ w.heap.size 1 (.int .i64 (y)))
    have cuF := (cu3).grown_far g3 (fun e => by cases e; omega) (fun j e => by cases e; omega)
    have grF := gr_new gr03 g3 (fun j e => .inr (by cases e; exact Nat.le_refl _))
    have HF := Lib.hid (And.intro p2 (And.intro cuF grF))
    clear p1 p2 g3 cuF grF
    go_wp2_with fail
    exact bodyPost_ret (v := .agg #[.int .i64 (x), .int .i64 (y)]) (results_cell_row (p := 2) (ty := 25) (by rfl) _ _ w.heap.size _ #[.int .i64 (x), .int .i64 (y)] (0, 0) _ (by rfl) HF.out.1 Try.underlying25 rfl Try.infoPl) rfl
      ⟨((x), (y)), rfl, HF.out.2.1, HF.out.2.2⟩
end Go.Proofs.Ythahakefmpajfaa
