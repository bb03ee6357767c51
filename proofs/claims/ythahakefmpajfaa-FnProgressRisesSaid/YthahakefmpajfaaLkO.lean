/- The drawing of what is asked of rounded marks: l01Place, DrawRoundedAt. -/
import Derived.Test.YthahakefmpajfaaLkN
namespace Go.Proofs.Ythahakefmpajfaa
open Go.RowKit
set_option linter.unusedVariables false
set_option linter.unusedSimpArgs false

set_option maxHeartbeats 1000000 in
theorem d_spot (n : Nat) (hn : n ≤ 1000) (w : World) (B g len cap : Nat) (A : Option Addr) (hc : Cur w B g A len cap) :
    Calls Try.prog 54 #[.pointer (some ⟨g, 0, none⟩), .int .i64 n] w fun e w' => ∃ r : Int, -9223372036854775808 ≤ r ∧ r ≤ 9223372036854775807 ∧ e = .returned (.int .i64 r) ∧ Cur w' B g A len cap ∧ w.grownBy w' (some g) := by
  have v1 : wrap64 ((n : Int) + 1) = (n : Int) + 1 := by unfold wrap64; omega
  go_enter Try.func54, Try.ntmps54
  go_wp2_with fail
  refine (d_once 15 _ B g len cap A hc (by omega)).mono ?_
  rintro e w1 ⟨t, rfl, cu1, gr1⟩
  cases t
  · go_wp2_with fail
    refine (d_below n _ B g len cap A cu1 (by omega)).mono ?_
    rintro e w2 ⟨x, x0, x1, x2, rfl, cu2, gr2⟩
    have x3 : x ≤ 1000 := by
      rcases Nat.eq_zero_or_pos n with h | h
      · have := x2 (by omega); omega
      · have := x1 (by omega); omega
    clear x1 x2
    go_wp2
    go_ret
    exact ⟨x, by omega, by omega, rfl, cu2, grown_trans gr1 gr2⟩
  · go_wp2_with fail
    refine (d_pickint _ B g len cap w1.heap.size 5 5 A 3 [-1, n, n + 1, 9223372036854775807, -9223372036854775808] (cu1.alloc _) rfl (by omega) (by omega) (by have := cu1.lt; omega) (by intro x hx; simp at hx; omega) (heap_alloc_new w1 _)).mono ?_
    rintro e w2 ⟨x, x0, x1, rfl, cu2, gr2⟩
    go_wp2
    go_ret
    exact ⟨x, x0, x1, rfl, cu2, grown_trans gr1 (grown_trans (World.grownBy_alloc w1 _ _) gr2)⟩
section
variable {P : Program}
theorem res_cell_tmp3k {fn : Func} {p u v x : Tmp} {ty : TypeId} (h : fn.results = #[.cell p ty, .tmp u, .tmp v, .tmp x]) (tmps : Array Value) (w : World) (g : Nat) (t : TypeId) (cs : Array Value) (fr : Nat × Nat) (d : TypeDesc) (V1 V2 V3 : Value)
    (hp : tmps.getD p undef = .pointer (some ⟨g, 0, none⟩)) (hg : w.heap[g]? = some (.cells cs t fr))
    (hu : P.underlying ty = some d) (hd : (match d with | .struct _ | .array _ _ => true | _ => false) = true) (hi : (P.info? ty).map (·.size) = some cs.size) (h1 : tmps.getD u undef = V1) (h2 : tmps.getD v undef = V2) (h3 : tmps.getD x undef = V3) :
    (results fn tmps).run P w = .ok (.tuple #[.agg cs, V1, V2, V3]) w := by
  have hp' : tmps[p]?.getD undef = .pointer (some ⟨g, 0, none⟩) := by simpa using hp
  subst h1 h2 h3
  simp [results, h, hp', asAddr, run_loadVar_row w g t ty cs fr d hg hu hd hi]
end
/-- Nine stores into a block of nine cells. -/
def set9 (w : World) (q : Nat) (s t : Ln) (v : Value) : World := (((((((((w.setCell ⟨q, 0, none⟩ (.int .i64 s.1.1)).setCell ⟨q, 1, none⟩ (.int .i64 s.1.2)).setCell ⟨q, 2, none⟩ (.int .i64 s.2.1)).setCell ⟨q, 3, none⟩ (.int .i64 s.2.2)).setCell ⟨q, 4, none⟩ (v)).setCell ⟨q, 5, none⟩ (.int .i64 t.1.1)).setCell ⟨q, 6, none⟩ (.int .i64 t.1.2)).setCell ⟨q, 7, none⟩ (.int .i64 t.2.1)).setCell ⟨q, 8, none⟩ (.int .i64 t.2.2))
theorem st9 {w : World} {q : Nat} {ty : TypeId} (h : w.heap[q]? = some (.cells (cs9 ((0, 0), (0, 0)) ((0, 0), (0, 0)) (.slice none 0 0)) ty (0, 0))) (s t : Ln) (v : Value) :
    ((∃ y, w.cell? ⟨q, 0, none⟩ = some y ∧ w.frozen? ⟨q, 0, none⟩ = false) ∧
    (∃ y, (w.setCell ⟨q, 0, none⟩ (.int .i64 s.1.1)).cell? ⟨q, 1, none⟩ = some y ∧ (w.setCell ⟨q, 0, none⟩ (.int .i64 s.1.1)).frozen? ⟨q, 1, none⟩ = false) ∧
    (∃ y, ((w.setCell ⟨q, 0, none⟩ (.int .i64 s.1.1)).setCell ⟨q, 1, none⟩ (.int .i64 s.1.2)).cell? ⟨q, 2, none⟩ = some y ∧ ((w.setCell ⟨q, 0, none⟩ (.int .i64 s.1.1)).setCell ⟨q, 1, none⟩ (.int .i64 s.1.2)).frozen? ⟨q, 2, none⟩ = false) ∧
    (∃ y, (((w.setCell ⟨q, 0, none⟩ (.int .i64 s.1.1)).setCell ⟨q, 1, none⟩ (.int .i64 s.1.2)).setCell ⟨q, 2, none⟩ (.int .i64 s.2.1)).cell? ⟨q, 3, none⟩ = some y ∧ (((w.setCell ⟨q, 0, none⟩ (.int .i64 s.1.1)).setCell ⟨q, 1, none⟩ (.int .i64 s.1.2)).setCell ⟨q, 2, none⟩ (.int .i64 s.2.1)).frozen? ⟨q, 3, none⟩ = false) ∧
    (∃ y, ((((w.setCell ⟨q, 0, none⟩ (.int .i64 s.1.1)).setCell ⟨q, 1, none⟩ (.int .i64 s.1.2)).setCell ⟨q, 2, none⟩ (.int .i64 s.2.1)).setCell ⟨q, 3, none⟩ (.int .i64 s.2.2)).cell? ⟨q, 4, none⟩ = some y ∧ ((((w.setCell ⟨q, 0, none⟩ (.int .i64 s.1.1)).setCell ⟨q, 1, none⟩ (.int .i64 s.1.2)).setCell ⟨q, 2, none⟩ (.int .i64 s.2.1)).setCell ⟨q, 3, none⟩ (.int .i64 s.2.2)).frozen? ⟨q, 4, none⟩ = false) ∧
    (∃ y, (((((w.setCell ⟨q, 0, none⟩ (.int .i64 s.1.1)).setCell ⟨q, 1, none⟩ (.int .i64 s.1.2)).setCell ⟨q, 2, none⟩ (.int .i64 s.2.1)).setCell ⟨q, 3, none⟩ (.int .i64 s.2.2)).setCell ⟨q, 4, none⟩ (v)).cell? ⟨q, 5, none⟩ = some y ∧ (((((w.setCell ⟨q, 0, none⟩ (.int .i64 s.1.1)).setCell ⟨q, 1, none⟩ (.int .i64 s.1.2)).setCell ⟨q, 2, none⟩ (.int .i64 s.2.1)).setCell ⟨q, 3, none⟩ (.int .i64 s.2.2)).setCell ⟨q, 4, none⟩ (v)).frozen? ⟨q, 5, none⟩ = false) ∧
    (∃ y, ((((((w.setCell ⟨q, 0, none⟩ (.int .i64 s.1.1)).setCell ⟨q, 1, none⟩ (.int .i64 s.1.2)).setCell ⟨q, 2, none⟩ (.int .i64 s.2.1)).setCell ⟨q, 3, none⟩ (.int .i64 s.2.2)).setCell ⟨q, 4, none⟩ (v)).setCell ⟨q, 5, none⟩ (.int .i64 t.1.1)).cell? ⟨q, 6, none⟩ = some y ∧ ((((((w.setCell ⟨q, 0, none⟩ (.int .i64 s.1.1)).setCell ⟨q, 1, none⟩ (.int .i64 s.1.2)).setCell ⟨q, 2, none⟩ (.int .i64 s.2.1)).setCell ⟨q, 3, none⟩ (.int .i64 s.2.2)).setCell ⟨q, 4, none⟩ (v)).setCell ⟨q, 5, none⟩ (.int .i64 t.1.1)).frozen? ⟨q, 6, none⟩ = false) ∧
    (∃ y, (((((((w.setCell ⟨q, 0, none⟩ (.int .i64 s.1.1)).setCell ⟨q, 1, none⟩ (.int .i64 s.1.2)).setCell ⟨q, 2, none⟩ (.int .i64 s.2.1)).setCell ⟨q, 3, none⟩ (.int .i64 s.2.2)).setCell ⟨q, 4, none⟩ (v)).setCell ⟨q, 5, none⟩ (.int .i64 t.1.1)).setCell ⟨q, 6, none⟩ (.int .i64 t.1.2)).cell? ⟨q, 7, none⟩ = some y ∧ (((((((w.setCell ⟨q, 0, none⟩ (.int .i64 s.1.1)).setCell ⟨q, 1, none⟩ (.int .i64 s.1.2)).setCell ⟨q, 2, none⟩ (.int .i64 s.2.1)).setCell ⟨q, 3, none⟩ (.int .i64 s.2.2)).setCell ⟨q, 4, none⟩ (v)).setCell ⟨q, 5, none⟩ (.int .i64 t.1.1)).setCell ⟨q, 6, none⟩ (.int .i64 t.1.2)).frozen? ⟨q, 7, none⟩ = false) ∧
    (∃ y, ((((((((w.setCell ⟨q, 0, none⟩ (.int .i64 s.1.1)).setCell ⟨q, 1, none⟩ (.int .i64 s.1.2)).setCell ⟨q, 2, none⟩ (.int .i64 s.2.1)).setCell ⟨q, 3, none⟩ (.int .i64 s.2.2)).setCell ⟨q, 4, none⟩ (v)).setCell ⟨q, 5, none⟩ (.int .i64 t.1.1)).setCell ⟨q, 6, none⟩ (.int .i64 t.1.2)).setCell ⟨q, 7, none⟩ (.int .i64 t.2.1)).cell? ⟨q, 8, none⟩ = some y ∧ ((((((((w.setCell ⟨q, 0, none⟩ (.int .i64 s.1.1)).setCell ⟨q, 1, none⟩ (.int .i64 s.1.2)).setCell ⟨q, 2, none⟩ (.int .i64 s.2.1)).setCell ⟨q, 3, none⟩ (.int .i64 s.2.2)).setCell ⟨q, 4, none⟩ (v)).setCell ⟨q, 5, none⟩ (.int .i64 t.1.1)).setCell ⟨q, 6, none⟩ (.int .i64 t.1.2)).setCell ⟨q, 7, none⟩ (.int .i64 t.2.1)).frozen? ⟨q, 8, none⟩ = false)) ∧
    (set9 w q s t v).heap[q]? = some (.cells (cs9 s t v) ty (0, 0)) ∧ w.grownBy (set9 w q s t v) (some q) := by
  have q0 := h
  have c0 := cell_at q0 (k := 0) rfl (show 0 < 9 by omega)
  have q1 : (w.setCell ⟨q, 0, none⟩ (.int .i64 s.1.1)).heap[q]? = some (.cells #[.int .i64 s.1.1, .int .i64 0, .int .i64 0, .int .i64 0, .slice none 0 0, .int .i64 0, .int .i64 0, .int .i64 0, .int .i64 0] ty (0, 0)) := heap_set_self (k := 0) q0 (.int .i64 s.1.1)
  have c1 := cell_at q1 (k := 1) rfl (show 1 < 9 by omega)
  have q2 : ((w.setCell ⟨q, 0, none⟩ (.int .i64 s.1.1)).setCell ⟨q, 1, none⟩ (.int .i64 s.1.2)).heap[q]? = some (.cells #[.int .i64 s.1.1, .int .i64 s.1.2, .int .i64 0, .int .i64 0, .slice none 0 0, .int .i64 0, .int .i64 0, .int .i64 0, .int .i64 0] ty (0, 0)) := heap_set_self (k := 1) q1 (.int .i64 s.1.2)
  have c2 := cell_at q2 (k := 2) rfl (show 2 < 9 by omega)
  have q3 : (((w.setCell ⟨q, 0, none⟩ (.int .i64 s.1.1)).setCell ⟨q, 1, none⟩ (.int .i64 s.1.2)).setCell ⟨q, 2, none⟩ (.int .i64 s.2.1)).heap[q]? = some (.cells #[.int .i64 s.1.1, .int .i64 s.1.2, .int .i64 s.2.1, .int .i64 0, .slice none 0 0, .int .i64 0, .int .i64 0, .int .i64 0, .int .i64 0] ty (0, 0)) := heap_set_self (k := 2) q2 (.int .i64 s.2.1)
  have c3 := cell_at q3 (k := 3) rfl (show 3 < 9 by omega)
  have q4 : ((((w.setCell ⟨q, 0, none⟩ (.int .i64 s.1.1)).setCell ⟨q, 1, none⟩ (.int .i64 s.1.2)).setCell ⟨q, 2, none⟩ (.int .i64 s.2.1)).setCell ⟨q, 3, none⟩ (.int .i64 s.2.2)).heap[q]? = some (.cells #[.int .i64 s.1.1, .int .i64 s.1.2, .int .i64 s.2.1, .int .i64 s.2.2, .slice none 0 0, .int .i64 0, .int .i64 0, .int .i64 0, .int .i64 0] ty (0, 0)) := heap_set_self (k := 3) q3 (.int .i64 s.2.2)
  have c4 := cell_at q4 (k := 4) rfl (show 4 < 9 by omega)
  have q5 : (((((w.setCell ⟨q, 0, none⟩ (.int .i64 s.1.1)).setCell ⟨q, 1, none⟩ (.int .i64 s.1.2)).setCell ⟨q, 2, none⟩ (.int .i64 s.2.1)).setCell ⟨q, 3, none⟩ (.int .i64 s.2.2)).setCell ⟨q, 4, none⟩ (v)).heap[q]? = some (.cells #[.int .i64 s.1.1, .int .i64 s.1.2, .int .i64 s.2.1, .int .i64 s.2.2, v, .int .i64 0, .int .i64 0, .int .i64 0, .int .i64 0] ty (0, 0)) := heap_set_self (k := 4) q4 (v)
  have c5 := cell_at q5 (k := 5) rfl (show 5 < 9 by omega)
  have q6 : ((((((w.setCell ⟨q, 0, none⟩ (.int .i64 s.1.1)).setCell ⟨q, 1, none⟩ (.int .i64 s.1.2)).setCell ⟨q, 2, none⟩ (.int .i64 s.2.1)).setCell ⟨q, 3, none⟩ (.int .i64 s.2.2)).setCell ⟨q, 4, none⟩ (v)).setCell ⟨q, 5, none⟩ (.int .i64 t.1.1)).heap[q]? = some (.cells #[.int .i64 s.1.1, .int .i64 s.1.2, .int .i64 s.2.1, .int .i64 s.2.2, v, .int .i64 t.1.1, .int .i64 0, .int .i64 0, .int .i64 0] ty (0, 0)) := heap_set_self (k := 5) q5 (.int .i64 t.1.1)
  have c6 := cell_at q6 (k := 6) rfl (show 6 < 9 by omega)
  have q7 : (((((((w.setCell ⟨q, 0, none⟩ (.int .i64 s.1.1)).setCell ⟨q, 1, none⟩ (.int .i64 s.1.2)).setCell ⟨q, 2, none⟩ (.int .i64 s.2.1)).setCell ⟨q, 3, none⟩ (.int .i64 s.2.2)).setCell ⟨q, 4, none⟩ (v)).setCell ⟨q, 5, none⟩ (.int .i64 t.1.1)).setCell ⟨q, 6, none⟩ (.int .i64 t.1.2)).heap[q]? = some (.cells #[.int .i64 s.1.1, .int .i64 s.1.2, .int .i64 s.2.1, .int .i64 s.2.2, v, .int .i64 t.1.1, .int .i64 t.1.2, .int .i64 0, .int .i64 0] ty (0, 0)) := heap_set_self (k := 6) q6 (.int .i64 t.1.2)
  have c7 := cell_at q7 (k := 7) rfl (show 7 < 9 by omega)
  have q8 : ((((((((w.setCell ⟨q, 0, none⟩ (.int .i64 s.1.1)).setCell ⟨q, 1, none⟩ (.int .i64 s.1.2)).setCell ⟨q, 2, none⟩ (.int .i64 s.2.1)).setCell ⟨q, 3, none⟩ (.int .i64 s.2.2)).setCell ⟨q, 4, none⟩ (v)).setCell ⟨q, 5, none⟩ (.int .i64 t.1.1)).setCell ⟨q, 6, none⟩ (.int .i64 t.1.2)).setCell ⟨q, 7, none⟩ (.int .i64 t.2.1)).heap[q]? = some (.cells #[.int .i64 s.1.1, .int .i64 s.1.2, .int .i64 s.2.1, .int .i64 s.2.2, v, .int .i64 t.1.1, .int .i64 t.1.2, .int .i64 t.2.1, .int .i64 0] ty (0, 0)) := heap_set_self (k := 7) q7 (.int .i64 t.2.1)
  have c8 := cell_at q8 (k := 8) rfl (show 8 < 9 by omega)
  have q9 : (((((((((w.setCell ⟨q, 0, none⟩ (.int .i64 s.1.1)).setCell ⟨q, 1, none⟩ (.int .i64 s.1.2)).setCell ⟨q, 2, none⟩ (.int .i64 s.2.1)).setCell ⟨q, 3, none⟩ (.int .i64 s.2.2)).setCell ⟨q, 4, none⟩ (v)).setCell ⟨q, 5, none⟩ (.int .i64 t.1.1)).setCell ⟨q, 6, none⟩ (.int .i64 t.1.2)).setCell ⟨q, 7, none⟩ (.int .i64 t.2.1)).setCell ⟨q, 8, none⟩ (.int .i64 t.2.2)).heap[q]? = some (.cells #[.int .i64 s.1.1, .int .i64 s.1.2, .int .i64 s.2.1, .int .i64 s.2.2, v, .int .i64 t.1.1, .int .i64 t.1.2, .int .i64 t.2.1, .int .i64 t.2.2] ty (0, 0)) := heap_set_self (k := 8) q8 (.int .i64 t.2.2)
  exact ⟨⟨c0, c1, c2, c3, c4, c5, c6, c7, c8⟩, q9, grown_trans (grown_trans (grown_trans (grown_trans (grown_trans (grown_trans (grown_trans (grown_trans (grown_set w q 0 (.int .i64 s.1.1)) (grown_set _ q 1 (.int .i64 s.1.2))) (grown_set _ q 2 (.int .i64 s.2.1))) (grown_set _ q 3 (.int .i64 s.2.2))) (grown_set _ q 4 (v))) (grown_set _ q 5 (.int .i64 t.1.1))) (grown_set _ q 6 (.int .i64 t.1.2))) (grown_set _ q 7 (.int .i64 t.2.1))) (grown_set _ q 8 (.int .i64 t.2.2))⟩
/-- What stands while a course and its track are drawn. -/
def RSt (w : World) (B g : Nat) (A : Option Addr) (len cap gx : Nat) (cs : Array Value) (v : Value) (n : Nat) (wx : World) : Prop :=
  Below w.heap.size w wx ∧ Cur wx B g A len cap ∧ w.heap.size < g ∧ wx.heap[w.heap.size]? = some (.cells (cs9 ((0, 0), (0, 0)) ((0, 0), (0, 0)) (.slice none 0 0)) 36 (0, 0)) ∧ wx.heap[gx]? = some (.cells cs 36 (0, 0)) ∧ g < gx ∧ OwnM wx (g + 1) v n
theorem RSt.draw {w w1 w2 : World} {B g : Nat} {A : Option Addr} {len cap gx : Nat} {cs : Array Value} {v : Value} {n : Nat} (h : RSt w B g A len cap gx cs v n w1) (c : Cur w2 B g A len cap) (k : w1.grownBy w2 (some g)) : RSt w B g A len cap gx cs v n w2 := by
  obtain ⟨h1, h2, h3, h4, h5, h6, h7⟩ := h
  exact ⟨below_cur h1 (Nat.le_refl _) k (by omega), c, h3, box_far h4 k (fun e => by injection e with e; omega), box_far h5 k (fun e => by injection e with e; omega), h6, h7.kept k (fun j e q => by injection e with e; have := (h7.lt q).1; omega)⟩
theorem RSt.drew {w w1 : World} {B g : Nat} {A : Option Addr} {len cap gx : Nat} {cs : Array Value} {v : Value} {n : Nat} (h : RSt w B g A len cap gx cs v n w1) : RSt w B g A len cap gx cs v n w1.drew :=
  h.draw (h.2.1.grown_far (grown_drewN w1 1 none) (by simp) (fun _ e => by cases e)) ⟨rfl, rfl, rfl, Nat.le_refl _, fun _ _ _ => rfl⟩
theorem own_cur {p : Nat → Value → Prop} {t : TypeId} {z g : Nat} {w w' : World} {v : Value} {n : Nat} (h : OwnC p t z w (g + 1) v n) (k : w.grownBy w' (some g)) : OwnC p t z w' (g + 1) v n := h.kept k (fun j e q => by injection e with e; have := (h.lt q).1; omega)
/-- What is drawn of a course and a track. -/
def RdE (w : World) (e : Ending) (w' : World) : Prop := ∃ (s t : Ln) (v : Value) (n : Nat) (k : Int) (vt : Value) (nt : Nat) (b : Int), n ≤ 21 ∧ nt ≤ 201 ∧ (-9223372036854775808 ≤ k ∧ k ≤ 9223372036854775807) ∧ (-9223372036854775808 ≤ b ∧ b ≤ 9223372036854775807) ∧
  e = .returned (.tuple #[.agg (cs9 s t v), .int .i64 k, vt, .int .i64 b]) ∧ OwnM w' w.heap.size v n ∧ OwnG w' w.heap.size vt nt ∧ Below w.heap.size w w'
set_option maxRecDepth 100000 in
set_option maxHeartbeats 8000000 in
theorem d_roundedAt (w : World) (len cap : Nat) (A : Option Addr) (hcode : Code w w.heap.size A len) :
    Calls Try.prog 18 #[.slice A len cap] w (RdE w) := by
  have b0 : Below w.heap.size w (w.alloc (.cells (cs9 ((0, 0), (0, 0)) ((0, 0), (0, 0)) (.slice none 0 0)) 36)) := (Below.refl _ w).alloc (Nat.le_refl _) _
  have s1 : (w.alloc (.cells (cs9 ((0, 0), (0, 0)) ((0, 0), (0, 0)) (.slice none 0 0)) 36)).heap.size = w.heap.size + 1 := by simp
  have hc1 := code_step9 hcode b0 (Nat.le_succ _)
  have hr0 := heap_alloc_new w (.cells (cs9 ((0, 0), (0, 0)) ((0, 0), (0, 0)) (.slice none 0 0)) 36)
  simp only [cs9] at b0 s1 hc1 hr0
  go_enter Try.func18, Try.ntmps18
  go_wp2_with fail
  refine (d_new _ (w.heap.size + 1) len cap A (by rw [s1]; exact Nat.le_refl _) hc1).mono ?_
  rintro e w1 ⟨g, rfl, cu1, b1⟩
  have R1 := Lib.hid (And.intro (b0.trans (b1.mono (Nat.le_succ _))) ((b1.block w.heap.size (by omega)).trans hr0))
  have hg := cu1.1
  clear hc1 b0 b1 hr0 s1
  go_wp2_with fail
  refine (d_course _ _ g len cap A cu1).mono ?_
  rintro e w2 ⟨s, t, v, n, hn, rfl, o2, cu2, gr2⟩
  have hl1 := cu1.lt
  have hl2 := cu2.lt
  have hx2 := heap_alloc_new w2 (.cells (cs9 s t v) 36)
  have ga := World.grownBy_alloc w2 (.cells (cs9 s t v) 36) (some g)
  have HR := Lib.hid (show RSt w (w.heap.size + 1) g A len cap w2.heap.size (cs9 s t v) v n (w2.alloc (.cells (cs9 s t v) 36)) from
    ⟨below_cur R1.out.1 (Nat.le_refl _) (grown_trans gr2 ga) (by omega), cu2.alloc _, by omega, box_far R1.out.2 (grown_trans gr2 ga) (fun e => by injection e with e; omega), hx2, hl2, own_cur (o2.low (by omega)) ga⟩)
  obtain ⟨Av, cv, rfl, _⟩ := o2.value
  obtain ⟨⟨s1, s2⟩, s3, s4⟩ := s
  obtain ⟨⟨t1, t2⟩, t3, t4⟩ := t
  simp only [cs9] at HR
  clear o2 cu2 gr2 hx2 ga R1 cu1
  unfold cs9
  dsimp only
  go_wp2_with fail
  refine (d_sail _ _ (g + 1) g len cap n A ((s1, s2), (s3, s4)) ((t1, t2), (t3, t4)) _ HR.out.2.1 hn HR.out.2.2.2.2.2.2 (fun e => by have := (HR.out.2.2.2.2.2.2.lt e).1; omega)).mono ?_
  rintro e w3 ⟨vt, nt, hnt, rfl, ot, cu3, gr3⟩
  have HT := Lib.hid (show RSt w (w.heap.size + 1) g A len cap w2.heap.size _ _ n w3 ∧ OwnG w3 (g + 1) vt nt from ⟨HR.out.draw cu3 gr3, ot.low (by simp; omega)⟩)
  generalize w2.heap.size = gx at *
  clear ot cu3 gr3 HR hl1 hl2
  go_wp2_with fail
  refine (d_once 6 _ _ g len cap A HT.out.1.2.1 (by omega)).mono ?_
  rintro e w4 ⟨t6, rfl, cu4, gr4⟩
  have HU := Lib.hid (show RSt w (w.heap.size + 1) g A len cap gx _ _ n w4 ∧ OwnG w4 (g + 1) vt nt from ⟨HT.out.1.draw cu4 gr4, own_cur HT.out.2 gr4⟩)
  clear cu4 gr4 HT
  go_upto_if 18 with fail
  go_cut [8] (fun s8 wx => ∃ (vt : Value) (nt : Nat), s8 = vt ∧ nt ≤ 201 ∧ RSt w (w.heap.size + 1) g A len cap gx #[.int .i64 s1, .int .i64 s2, .int .i64 s3, .int .i64 s4, .slice Av n cv, .int .i64 t1, .int .i64 t2, .int .i64 t3, .int .i64 t4] (.slice Av n cv) n wx ∧ OwnG wx (g + 1) vt nt)
  case first =>
    cases t6
    · go_wp2_with fail
      go_meet
      exact ⟨_, _, rfl, by omega, HU.out⟩
    · go_wp2_with fail
      refine (d_track _ _ g len cap A HU.out.1.2.1).mono ?_
      rintro e w5 ⟨nt', vt', hnt', rfl, ot, cu5, gr5⟩
      have hl := HU.out.1.2.1.lt
      have HV := Lib.hid (And.intro (HU.out.1.draw cu5 gr5) (ot.low hl))
      clear ot cu5 gr5 hl
      go_wp2_with fail
      go_meet
      exact ⟨_, _, rfl, hnt', HV.out⟩
  case rest =>
  clear HU
  obtain ⟨vt, nt, rfl, hnt, hst⟩ := hcut
  obtain ⟨At, ct, rfl, _⟩ := hst.2.value
  have HS := Lib.hid hst
  obtain ⟨_, _, _, _, c4, _, _, _, _⟩ := cells9 hst.1.2.2.2.2.1
  clear hst
  go_wp2_with fail
  refine (d_spot n (by omega) _ _ g len cap A HS.out.1.2.1).mono ?_
  rintro e w5 ⟨k, k0, k1, rfl, cu5, gr5⟩
  have HT := Lib.hid (And.intro (HS.out.1.draw cu5 gr5) (own_cur HS.out.2 gr5))
  clear cu5 gr5 HS c4
  go_wp2_with fail
  refine (d_once 3 _ _ g len cap A HT.out.1.2.1 (by omega)).mono ?_
  rintro e w6 ⟨t3', rfl, cu6, gr6⟩
  have HU := Lib.hid (And.intro (HT.out.1.draw cu6 gr6) (own_cur HT.out.2 gr6))
  clear cu6 gr6 HT
  cases t3'
  · go_upto_region 9 with fail
    have HD := Lib.hid (show RSt w (w.heap.size + 1) g A len cap gx _ _ n w6.drew ∧ OwnG w6.drew (g + 1) _ nt from And.intro HU.out.1.drew (own_cur HU.out.2 ⟨rfl, rfl, rfl, Nat.le_refl _, fun _ _ _ => rfl⟩))
    obtain ⟨c0, c1, c2, c3, c4, c5, c6, c7, c8⟩ := cells9 HU.out.1.2.2.2.2.1
    go_region_with ((go_at_call 54; refine (d_spot nt (by omega) _ _ g len cap A HD.out.1.2.1).mono ?_; rintro e w7 ⟨b, hb0, hb1, rfl, cu7, gr7⟩; have HE := Lib.hid (And.intro (HD.out.1.draw cu7 gr7) (own_cur HD.out.2 gr7)); obtain ⟨d0, d1, d2, d3, d4, d5, d6, d7, d8⟩ := cells9 HE.out.1.2.2.2.2.1; have H9 := Lib.hid (st9 HE.out.1.2.2.2.1 ((s1, s2), (s3, s4)) ((t1, t2), (t3, t4)) (.slice Av n cv)); obtain ⟨⟨_, x0, y0⟩, ⟨_, x1, y1⟩, ⟨_, x2, y2⟩, ⟨_, x3, y3⟩, ⟨_, x4, y4⟩, ⟨_, x5, y5⟩, ⟨_, x6, y6⟩, ⟨_, x7, y7⟩, _, x8, y8⟩ := H9.out.1; dsimp only at *; clear cu7 gr7))
    all_goals (
      go_wp2_with fail
      exact bodyPost_ret (v := .tuple #[.agg (cs9 ((s1, s2), (s3, s4)) ((t1, t2), (t3, t4)) (.slice Av n cv)), .int .i64 k, .slice At nt ct, .int .i64 b]) (res_cell_tmp3k (p := 2) (u := 3) (v := 4) (x := 5) (ty := 36) (by rfl) _ _ w.heap.size _ (cs9 ((s1, s2), (s3, s4)) ((t1, t2), (t3, t4)) (.slice Av n cv)) (0, 0) _ _ _ _ (by rfl) H9.out.2.1 Try.underlying36 rfl Try.infoCoS (by rfl) (by rfl) (by rfl)) rfl ⟨_, _, _, n, k, _, nt, b, hn, hnt, ⟨k0, k1⟩, ⟨hb0, hb1⟩, rfl, (HE.out.1.2.2.2.2.2.2.kept H9.out.2.2 (fun j e q => by injection e with e; have := (HE.out.1.2.2.2.2.2.2.lt q).1; omega)).low (by omega), (HE.out.2.kept H9.out.2.2 (fun j e q => by injection e with e; have := (HE.out.2.lt q).1; omega)).low (by omega), below_cur HE.out.1.1 (Nat.le_refl _) H9.out.2.2 (Nat.le_refl _)⟩)
  · obtain ⟨c0, c1, c2, c3, c4, c5, c6, c7, c8⟩ := cells9 HU.out.1.2.2.2.2.1
    have H9 := Lib.hid (st9 HU.out.1.2.2.2.1 ((s1, s2), (s3, s4)) ((t1, t2), (t3, t4)) (.slice Av n cv))
    obtain ⟨⟨_, x0, y0⟩, ⟨_, x1, y1⟩, ⟨_, x2, y2⟩, ⟨_, x3, y3⟩, ⟨_, x4, y4⟩, ⟨_, x5, y5⟩, ⟨_, x6, y6⟩, ⟨_, x7, y7⟩, _, x8, y8⟩ := H9.out.1
    dsimp only at *
    go_wp2_with fail
    exact bodyPost_ret (v := .tuple #[.agg (cs9 ((s1, s2), (s3, s4)) ((t1, t2), (t3, t4)) (.slice Av n cv)), .int .i64 k, .slice At nt ct, .int .i64 0]) (res_cell_tmp3k (p := 2) (u := 3) (v := 4) (x := 5) (ty := 36) (by rfl) _ _ w.heap.size _ (cs9 ((s1, s2), (s3, s4)) ((t1, t2), (t3, t4)) (.slice Av n cv)) (0, 0) _ _ _ _ (by rfl) H9.out.2.1 Try.underlying36 rfl Try.infoCoS (by rfl) (by rfl) (by rfl)) rfl ⟨_, _, _, n, k, _, nt, 0, hn, hnt, ⟨k0, k1⟩, ⟨by omega, by omega⟩, rfl, (HU.out.1.2.2.2.2.2.2.kept H9.out.2.2 (fun j e q => by injection e with e; have := (HU.out.1.2.2.2.2.2.2.lt q).1; omega)).low (by omega), (HU.out.2.kept H9.out.2.2 (fun j e q => by injection e with e; have := (HU.out.2.lt q).1; omega)).low (by omega), below_cur HU.out.1.1 (Nat.le_refl _) H9.out.2.2 (Nat.le_refl _)⟩
section
variable {P : Program}
theorem res_cell_tmp2k {fn : Func} {p u v : Tmp} {ty : TypeId} (h : fn.results = #[.cell p ty, .tmp u, .tmp v]) (tmps : Array Value) (w : World) (g : Nat) (t : TypeId) (cs : Array Value) (fr : Nat × Nat) (d : TypeDesc) (V1 V2 : Value)
    (hp : tmps.getD p undef = .pointer (some ⟨g, 0, none⟩)) (hg : w.heap[g]? = some (.cells cs t fr))
    (hu : P.underlying ty = some d) (hd : (match d with | .struct _ | .array _ _ => true | _ => false) = true) (hi : (P.info? ty).map (·.size) = some cs.size) (h1 : tmps.getD u undef = V1) (h2 : tmps.getD v undef = V2) :
    (results fn tmps).run P w = .ok (.tuple #[.agg cs, V1, V2]) w := by
  have hp' : tmps[p]?.getD undef = .pointer (some ⟨g, 0, none⟩) := by simpa using hp
  subst h1 h2
  simp [results, h, hp', asAddr, run_loadVar_row w g t ty cs fr d hg hu hd hi]
end
/-- What is drawn of a course, a track and a sight to begin with. -/
def PdE (w : World) (e : Ending) (w' : World) : Prop := ∃ (s t : Ln) (v : Value) (n : Nat) (vt : Value) (nt : Nat) (b : Int), n ≤ 21 ∧ nt ≤ 201 ∧ (-9223372036854775808 ≤ b ∧ b ≤ 9223372036854775807) ∧
  e = .returned (.tuple #[.agg (cs9 s t v), vt, .int .i64 b]) ∧ OwnM w' w.heap.size v n ∧ OwnG w' w.heap.size vt nt ∧ Below w.heap.size w w'
set_option maxRecDepth 100000 in
set_option maxHeartbeats 8000000 in
theorem d_progress (w : World) (len cap : Nat) (A : Option Addr) (hlen : len ≤ 9223372036854775807) (hcode : Code w w.heap.size A len) :
    Calls Try.prog 20 #[.slice A len cap] w (PdE w) := by
  have b0 : Below w.heap.size w (w.alloc (.cells (cs9 ((0, 0), (0, 0)) ((0, 0), (0, 0)) (.slice none 0 0)) 36)) := (Below.refl _ w).alloc (Nat.le_refl _) _
  have hs0 : (w.alloc (.cells (cs9 ((0, 0), (0, 0)) ((0, 0), (0, 0)) (.slice none 0 0)) 36)).heap.size = w.heap.size + 1 := by simp
  have hc1 := code_step9 hcode b0 (show w.heap.size ≤ (w.alloc (.cells (cs9 ((0, 0), (0, 0)) ((0, 0), (0, 0)) (.slice none 0 0)) 36)).heap.size by omega)
  have hr0 := heap_alloc_new w (.cells (cs9 ((0, 0), (0, 0)) ((0, 0), (0, 0)) (.slice none 0 0)) 36)
  simp only [cs9] at b0 hs0 hc1 hr0
  go_enter Try.func20, Try.ntmps20
  go_wp2_with fail
  refine (d_roundedAt _ len cap A hc1).mono ?_
  rintro e w1 ⟨s, t, v, n, k, vt, nt, b, hn, hnt, _, hb, rfl, oM, oG, b1⟩
  obtain ⟨Av, cv, rfl, _⟩ := oM.value
  obtain ⟨At, ct, rfl, _⟩ := oG.value
  obtain ⟨⟨s1, s2⟩, s3, s4⟩ := s
  obtain ⟨⟨t1, t2⟩, t3, t4⟩ := t
  have hx2 := heap_alloc_new w1 (.cells (cs9 ((s1, s2), (s3, s4)) ((t1, t2), (t3, t4)) (.slice Av n cv)) 36)
  have hsz := b1.size
  rw [hs0] at oM oG
  have hR1 := (b1.block w.heap.size (by omega)).trans hr0
  have hR := (Below.heap_alloc w1 (.cells (cs9 ((s1, s2), (s3, s4)) ((t1, t2), (t3, t4)) (.slice Av n cv)) 36) w.heap.size (by omega)).trans hR1
  have ga := World.grownBy_alloc w1 (.cells (cs9 ((s1, s2), (s3, s4)) ((t1, t2), (t3, t4)) (.slice Av n cv)) 36) none
  have H9 := Lib.hid (st9 hR ((s1, s2), (s3, s4)) ((t1, t2), (t3, t4)) (.slice Av n cv))
  have HO := Lib.hid (And.intro (oM.kept ga (fun j e => by cases e)) (And.intro (oG.kept ga (fun j e => by cases e)) ((b0.trans (b1.mono (by omega))).alloc (by omega) (.cells (cs9 ((s1, s2), (s3, s4)) ((t1, t2), (t3, t4)) (.slice Av n cv)) 36))))
  have HX := Lib.hid hx2
  clear oM oG b1 hx2 hR1 hR ga b0 hr0 hc1 hsz hs0
  unfold cs9 at HX H9 HO ⊢
  dsimp only at HX H9 HO ⊢
  go_upto_if 19 with fail
  generalize hw2 : w1.alloc (.cells #[.int .i64 s1, .int .i64 s2, .int .i64 s3, .int .i64 s4, .slice Av n cv, .int .i64 t1, .int .i64 t2, .int .i64 t3, .int .i64 t4] 36) = w2 at *
  generalize w1.heap.size = gx at *
  clear hw2
  obtain ⟨c0, c1, c2, c3, c4, c5, c6, c7, c8⟩ := cells9 HX.out
  obtain ⟨⟨_, x0, y0⟩, ⟨_, x1, y1⟩, ⟨_, x2, y2⟩, ⟨_, x3, y3⟩, ⟨_, x4, y4⟩, ⟨_, x5, y5⟩, ⟨_, x6, y6⟩, ⟨_, x7, y7⟩, _, x8, y8⟩ := H9.out.1
  clear hcode hlen HX
  cases (len : Int) % 2 == 0
  case true =>
    go_wp2_with fail
    exact bodyPost_ret (v := .tuple #[.agg (cs9 ((s1, s2), (s3, s4)) ((t1, t2), (t3, t4)) (.slice Av n cv)), .slice At nt ct, .int .i64 0]) (res_cell_tmp2k (p := 2) (u := 3) (v := 4) (ty := 36) (by rfl) _ _ w.heap.size _ (cs9 ((s1, s2), (s3, s4)) ((t1, t2), (t3, t4)) (.slice Av n cv)) (0, 0) _ _ _ (by rfl) H9.out.2.1 Try.underlying36 rfl Try.infoCoS (by rfl) (by rfl)) rfl ⟨_, _, _, n, _, nt, 0, hn, hnt, ⟨by omega, by omega⟩, rfl, (HO.out.1.kept H9.out.2.2 (fun j e q => by injection e with e; have := (HO.out.1.lt q).1; omega)).low (by omega), (HO.out.2.1.kept H9.out.2.2 (fun j e q => by injection e with e; have := (HO.out.2.1.lt q).1; omega)).low (by omega), below_cur HO.out.2.2 (Nat.le_refl _) H9.out.2.2 (Nat.le_refl _)⟩
  case false =>
    go_wp2_with fail
    exact bodyPost_ret (v := .tuple #[.agg (cs9 ((s1, s2), (s3, s4)) ((t1, t2), (t3, t4)) (.slice Av n cv)), .slice At nt ct, .int .i64 b]) (res_cell_tmp2k (p := 2) (u := 3) (v := 4) (ty := 36) (by rfl) _ _ w.heap.size _ (cs9 ((s1, s2), (s3, s4)) ((t1, t2), (t3, t4)) (.slice Av n cv)) (0, 0) _ _ _ (by rfl) H9.out.2.1 Try.underlying36 rfl Try.infoCoS (by rfl) (by rfl)) rfl ⟨_, _, _, n, _, nt, b, hn, hnt, hb, rfl, (HO.out.1.kept H9.out.2.2 (fun j e q => by injection e with e; have := (HO.out.1.lt q).1; omega)).low (by omega), (HO.out.2.1.kept H9.out.2.2 (fun j e q => by injection e with e; have := (HO.out.2.1.lt q).1; omega)).low (by omega), below_cur HO.out.2.2 (Nat.le_refl _) H9.out.2.2 (Nat.le_refl _)⟩
end Go.Proofs.Ythahakefmpajfaa
