/- The laws' own copies: toPlace, toLine, toSight. -/
import Derived.Test.YthahakefmpajfaaLjA
import Derived.Test.YthahakefmpajfaaLiH
import Derived.Test.YthahakefmpajfaaLiJ
import Derived.Test.YthahakefmpajfaaLiM
namespace Go.Proofs.Ythahakefmpajfaa
open Go.RowKit
set_option linter.unusedVariables false
set_option linter.unusedSimpArgs false

theorem cells2 {w : World} {g : Nat} {t : TypeId} {a b : Value} (h : w.heap[g]? = some (.cells #[a, b] t (0, 0))) : w.cell? ⟨g, 0, none⟩ = some a ∧ w.cell? ⟨g, 1, none⟩ = some b :=
  ⟨cell_of_row w _ 0 _ _ _ h, cell_of_row w _ 1 _ _ _ h⟩
theorem cells3 {w : World} {g : Nat} {t : TypeId} {a b c : Value} (h : w.heap[g]? = some (.cells #[a, b, c] t (0, 0))) : w.cell? ⟨g, 0, none⟩ = some a ∧ w.cell? ⟨g, 1, none⟩ = some b ∧ w.cell? ⟨g, 2, none⟩ = some c :=
  ⟨cell_of_row w _ 0 _ _ _ h, cell_of_row w _ 1 _ _ _ h, cell_of_row w _ 2 _ _ _ h⟩
theorem cells4 {w : World} {g : Nat} {t : TypeId} {a b c d : Value} (h : w.heap[g]? = some (.cells #[a, b, c, d] t (0, 0))) : w.cell? ⟨g, 0, none⟩ = some a ∧ w.cell? ⟨g, 1, none⟩ = some b ∧ w.cell? ⟨g, 2, none⟩ = some c ∧ w.cell? ⟨g, 3, none⟩ = some d :=
  ⟨cell_of_row w _ 0 _ _ _ h, cell_of_row w _ 1 _ _ _ h, cell_of_row w _ 2 _ _ _ h, cell_of_row w _ 3 _ _ _ h⟩
theorem frz {w : World} {g k : Nat} {t : TypeId} {cs : Array Value} (h : w.heap[g]? = some (.cells cs t (0, 0))) : w.frozen? ⟨g, k, none⟩ = false := by simp [World.frozen?, h]
theorem set_bel {w w1 : World} {B : Nat} (h : Below B w w1) {q k : Nat} (hq : B ≤ q) (v : Value) : Below B w (w1.setCell ⟨q, k, none⟩ v) := h.setCell (p := ⟨q, k, none⟩) hq v
theorem set_oth {w : World} {g q k : Nat} {o : Obj} (h : w.heap[g]? = some o) (hn : g ≠ q) (v : Value) : (w.setCell ⟨q, k, none⟩ v).heap[g]? = some o := (Below.heap_setCell _ _ _ _ (by simpa using hn)).trans h
theorem Try.infoPl2 : (Try.prog.info? 25).map (·.size) = some 2 := by kernel_rfl
set_option maxRecDepth 100000 in
set_option maxHeartbeats 1000000 in
theorem l_place (p : Int × Int) (w : World) :
    Calls Try.prog 27 #[.agg #[.int .i64 p.1, .int .i64 p.2]] w fun e w' => e = .returned (.agg #[.int .i64 p.1, .int .i64 p.2]) ∧ Below w.heap.size w w' := by
  obtain ⟨x, y⟩ := p
  dsimp only
  have hs := Lib.hid (Bx3.new w #[.int .i64 x, .int .i64 y] 45 #[.int .i64 x, .int .i64 y] 25 #[.int .i64 x, .int .i64 y] 25)
  go_enter Try.func27, Try.ntmps27
  go_wp2
  exact bodyPost_ret (v := .agg #[.int .i64 x, .int .i64 y]) (results_cell_row (p := 2) (ty := 25) (by rfl) _ _ (w.heap.size + 1) _ #[.int .i64 x, .int .i64 y] (0, 0) _ (by rfl) hs.out.2.1 Try.underlying25 rfl Try.infoPl2) rfl
    ⟨rfl, hs.out.2.2.2⟩
theorem Try.infoLn2 : (Try.prog.info? 33).map (·.size) = some 4 := by kernel_rfl
set_option maxRecDepth 100000 in
set_option maxHeartbeats 2000000 in
theorem l_line (l : Ln) (w : World) :
    Calls Try.prog 61 #[.agg #[.int .i64 l.1.1, .int .i64 l.1.2, .int .i64 l.2.1, .int .i64 l.2.2]] w fun e w' => e = .returned (.agg #[.int .i64 l.1.1, .int .i64 l.1.2, .int .i64 l.2.1, .int .i64 l.2.2]) ∧ Below w.heap.size w w' := by
  obtain ⟨⟨x1, x2⟩, x3, x4⟩ := l
  dsimp only
  have hs := Lib.hid (Bx3.new w #[.int .i64 x1, .int .i64 x2, .int .i64 x3, .int .i64 x4] 47 #[.int .i64 0, .int .i64 0, .int .i64 0, .int .i64 0] 33 #[.int .i64 0, .int .i64 0, .int .i64 0, .int .i64 0] 33)
  obtain ⟨c0, c1, c2, c3⟩ := cells4 hs.out.1
  go_enter Try.func61, Try.ntmps61
  go_wp2_with fail
  refine (l_place (x1, x2) _).mono ?_
  rintro e w1 ⟨rfl, b1⟩
  have hs1 := Lib.hid (Bx3.step hs.out b1)
  clear hs b1 c0 c1 c2 c3
  have hp0 := heap_set_self (k := 0) hs1.out.2.2.1 (.int .i64 x1)
  have hp1 := heap_set_self (k := 1) hp0 (.int .i64 x2)
  obtain ⟨v0, e0, f0⟩ := cell_at hs1.out.2.2.1 (k := 0) rfl (show 0 < 4 by omega)
  obtain ⟨v1, e1, f1⟩ := cell_at hp0 (k := 1) rfl (show 1 < 4 by omega)
  have r0 := set_oth (k := 1) (set_oth (k := 0) hs1.out.1 (show w.heap.size ≠ w.heap.size + 2 by omega) (.int .i64 x1)) (show w.heap.size ≠ w.heap.size + 2 by omega) (.int .i64 x2)
  have r1 := set_oth (k := 1) (set_oth (k := 0) hs1.out.2.1 (show w.heap.size + 1 ≠ w.heap.size + 2 by omega) (.int .i64 x1)) (show w.heap.size + 1 ≠ w.heap.size + 2 by omega) (.int .i64 x2)
  have bl := set_bel (k := 1) (set_bel (k := 0) hs1.out.2.2.2 (show w.heap.size ≤ w.heap.size + 2 by omega) (.int .i64 x1)) (show w.heap.size ≤ w.heap.size + 2 by omega) (.int .i64 x2)
  obtain ⟨c0, c1, c2, c3⟩ := cells4 r0
  have HN := Lib.hid (And.intro r0 (And.intro r1 (And.intro hp1 bl)))
  clear hs1 hp0 hp1 r0 r1 bl
  go_wp2_with fail
  refine (l_place (x3, x4) _).mono ?_
  rintro e w2 ⟨rfl, b2⟩
  have q0 := (b2.block w.heap.size (heap_lt HN.out.1)).trans HN.out.1
  have q1 := (b2.block (w.heap.size + 1) (heap_lt HN.out.2.1)).trans HN.out.2.1
  have q2 := (b2.block (w.heap.size + 2) (heap_lt HN.out.2.2.1)).trans HN.out.2.2.1
  have bm := HN.out.2.2.2.trans (b2.mono HN.out.2.2.2.size)
  clear b2 HN c0 c1 c2 c3 e0 e1 f0 f1 v0 v1
  have hp0 := heap_set_self (k := 2) q2 (.int .i64 x3)
  have hp1 := heap_set_self (k := 3) hp0 (.int .i64 x4)
  obtain ⟨v0, e0, f0⟩ := cell_at q2 (k := 2) rfl (show 2 < 4 by omega)
  obtain ⟨v1, e1, f1⟩ := cell_at hp0 (k := 3) rfl (show 3 < 4 by omega)
  have r1 := set_oth (k := 3) (set_oth (k := 2) q1 (show w.heap.size + 1 ≠ w.heap.size + 2 by omega) (.int .i64 x3)) (show w.heap.size + 1 ≠ w.heap.size + 2 by omega) (.int .i64 x4)
  have bl := set_bel (k := 3) (set_bel (k := 2) bm (show w.heap.size ≤ w.heap.size + 2 by omega) (.int .i64 x3)) (show w.heap.size ≤ w.heap.size + 2 by omega) (.int .i64 x4)
  have hp2 : ((w2.setCell ⟨w.heap.size + 2, 2, none⟩ (.int .i64 x3)).setCell ⟨w.heap.size + 2, 3, none⟩ (.int .i64 x4)).heap[w.heap.size + 2]? = some (.cells #[.int .i64 x1, .int .i64 x2, .int .i64 x3, .int .i64 x4] 33 (0, 0)) := hp1
  obtain ⟨d0, d1, d2, d3⟩ := cells4 hp2
  have S4 := Lib.hid (st4 r1 (.int .i64 x1) (.int .i64 x2) (.int .i64 x3) (.int .i64 x4))
  obtain ⟨⟨_, g0, h0⟩, ⟨_, g1, h1⟩, ⟨_, g2, h2⟩, _, g3, h3⟩ := S4.out.1
  have HB := Lib.hid (below_cur bl (Nat.le_refl _) S4.out.2.2 (show w.heap.size ≤ w.heap.size + 1 by omega))
  clear hp0 hp1 hp2 r1 bl q0 q1 q2 bm
  go_wp2
  exact bodyPost_ret (v := .agg #[.int .i64 x1, .int .i64 x2, .int .i64 x3, .int .i64 x4]) (results_cell_row (p := 2) (ty := 33) (by rfl) _ _ (w.heap.size + 1) _ #[.int .i64 x1, .int .i64 x2, .int .i64 x3, .int .i64 x4] (0, 0) _ (by rfl) S4.out.2.1 Try.underlying33 rfl Try.infoLn2) rfl
    ⟨rfl, HB.out⟩
theorem Try.infoSg4 : (Try.prog.info? 86).map (·.size) = some 3 := by kernel_rfl
set_option maxRecDepth 100000 in
set_option maxHeartbeats 2000000 in
theorem l_sight (s : Sg) (w : World) :
    Calls Try.prog 66 #[.agg #[.int .i64 s.1.1, .int .i64 s.1.2, .int .i64 s.2]] w fun e w' => e = .returned (.agg #[.int .i64 s.1.1, .int .i64 s.1.2, .int .i64 s.2]) ∧ Below w.heap.size w w' := by
  obtain ⟨⟨x1, x2⟩, x3⟩ := s
  dsimp only
  have hs := Lib.hid (Bx3.new w #[.int .i64 x1, .int .i64 x2, .int .i64 x3] 99 #[.int .i64 0, .int .i64 0, .int .i64 0] 86 #[.int .i64 0, .int .i64 0, .int .i64 0] 86)
  obtain ⟨c0, c1, c2⟩ := cells3 hs.out.1
  go_enter Try.func66, Try.ntmps66
  go_wp2_with fail
  refine (l_place (x1, x2) _).mono ?_
  rintro e w1 ⟨rfl, b1⟩
  have hs1 := Lib.hid (Bx3.step hs.out b1)
  clear hs b1 c0 c1 c2
  have hp0 := heap_set_self (k := 0) hs1.out.2.2.1 (.int .i64 x1)
  have hp1 := heap_set_self (k := 1) hp0 (.int .i64 x2)
  have hp2 := heap_set_self (k := 2) hp1 (.int .i64 x3)
  obtain ⟨v0, e0, f0⟩ := cell_at hs1.out.2.2.1 (k := 0) rfl (show 0 < 3 by omega)
  obtain ⟨v1, e1, f1⟩ := cell_at hp0 (k := 1) rfl (show 1 < 3 by omega)
  obtain ⟨v2, e2, f2⟩ := cell_at hp1 (k := 2) rfl (show 2 < 3 by omega)
  have r0 := set_oth (k := 1) (set_oth (k := 0) hs1.out.1 (show w.heap.size ≠ w.heap.size + 2 by omega) (.int .i64 x1)) (show w.heap.size ≠ w.heap.size + 2 by omega) (.int .i64 x2)
  have r1 := set_oth (k := 2) (set_oth (k := 1) (set_oth (k := 0) hs1.out.2.1 (show w.heap.size + 1 ≠ w.heap.size + 2 by omega) (.int .i64 x1)) (show w.heap.size + 1 ≠ w.heap.size + 2 by omega) (.int .i64 x2)) (show w.heap.size + 1 ≠ w.heap.size + 2 by omega) (.int .i64 x3)
  have bl := set_bel (k := 2) (set_bel (k := 1) (set_bel (k := 0) hs1.out.2.2.2 (show w.heap.size ≤ w.heap.size + 2 by omega) (.int .i64 x1)) (show w.heap.size ≤ w.heap.size + 2 by omega) (.int .i64 x2)) (show w.heap.size ≤ w.heap.size + 2 by omega) (.int .i64 x3)
  obtain ⟨c0, c1, c2⟩ := cells3 r0
  have hp3 : (((w1.setCell ⟨w.heap.size + 2, 0, none⟩ (.int .i64 x1)).setCell ⟨w.heap.size + 2, 1, none⟩ (.int .i64 x2)).setCell ⟨w.heap.size + 2, 2, none⟩ (.int .i64 x3)).heap[w.heap.size + 2]? = some (.cells #[.int .i64 x1, .int .i64 x2, .int .i64 x3] 86 (0, 0)) := hp2
  obtain ⟨d0, d1, d2⟩ := cells3 hp3
  have S3 := Lib.hid (st3 r1 (.int .i64 x1) (.int .i64 x2) (.int .i64 x3))
  obtain ⟨⟨_, g0, h0⟩, ⟨_, g1, h1⟩, _, g2, h2⟩ := S3.out.1
  have HB := Lib.hid (below_cur bl (Nat.le_refl _) S3.out.2.2 (show w.heap.size ≤ w.heap.size + 1 by omega))
  clear hp0 hp1 hp2 hp3 r0 r1 bl hs1
  go_wp2
  exact bodyPost_ret (v := .agg #[.int .i64 x1, .int .i64 x2, .int .i64 x3]) (results_cell_row (p := 2) (ty := 86) (by rfl) _ _ (w.heap.size + 1) _ #[.int .i64 x1, .int .i64 x2, .int .i64 x3] (0, 0) _ (by rfl) S3.out.2.1 Try.underlying86 rfl Try.infoSg4) rfl
    ⟨rfl, HB.out⟩
end Go.Proofs.Ythahakefmpajfaa
