/- The drawing of what is asked of lines: DrawSideOf, DrawStartTime. -/
import Derived.Test.YthahakefmpajfaaLiI
namespace Go.Proofs.Ythahakefmpajfaa
open Go.RowKit
set_option linter.unusedVariables false
set_option linter.unusedSimpArgs false

section
variable {P : Program}
theorem res_cells9 {fn : Func} {p q : Tmp} {ty ty2 : TypeId} (h : fn.results = #[.cell p ty, .cell q ty2]) (tmps : Array Value) (w : World) (g g2 : Nat) (t t2 : TypeId) (cs cs2 : Array Value) (fr fr2 : Nat × Nat) (d d2 : TypeDesc)
    (hp : tmps.getD p undef = .pointer (some ⟨g, 0, none⟩)) (hq : tmps.getD q undef = .pointer (some ⟨g2, 0, none⟩)) (hg : w.heap[g]? = some (.cells cs t fr)) (hg2 : w.heap[g2]? = some (.cells cs2 t2 fr2))
    (hu : P.underlying ty = some d) (hu2 : P.underlying ty2 = some d2) (hd : (match d with | .struct _ | .array _ _ => true | _ => false) = true) (hd2 : (match d2 with | .struct _ | .array _ _ => true | _ => false) = true)
    (hi : (P.info? ty).map (·.size) = some cs.size) (hi2 : (P.info? ty2).map (·.size) = some cs2.size) :
    (results fn tmps).run P w = .ok (.tuple #[.agg cs, .agg cs2]) w := by
  have hp' : tmps[p]?.getD undef = .pointer (some ⟨g, 0, none⟩) := by simpa using hp
  have hq' : tmps[q]?.getD undef = .pointer (some ⟨g2, 0, none⟩) := by simpa using hq
  simp [results, h, hp', hq', asAddr, run_loadVar_row w g t ty cs fr d hg hu hd hi, run_loadVar_row w g2 t2 ty2 cs2 fr2 d2 hg2 hu2 hd2 hi2]
theorem res_cell_tt9 {fn : Func} {p u v : Tmp} {ty : TypeId} (h : fn.results = #[.cell p ty, .tmp u, .tmp v]) (tmps : Array Value) (w : World) (g : Nat) (t : TypeId) (cs : Array Value) (fr : Nat × Nat) (d : TypeDesc)
    (hp : tmps.getD p undef = .pointer (some ⟨g, 0, none⟩)) (hg : w.heap[g]? = some (.cells cs t fr))
    (hu : P.underlying ty = some d) (hd : (match d with | .struct _ | .array _ _ => true | _ => false) = true) (hi : (P.info? ty).map (·.size) = some cs.size) :
    (results fn tmps).run P w = .ok (.tuple #[.agg cs, tmps.getD u undef, tmps.getD v undef]) w := by
  have hp' : tmps[p]?.getD undef = .pointer (some ⟨g, 0, none⟩) := by simpa using hp
  simp [results, h, hp', asAddr, run_loadVar_row w g t ty cs fr d hg hu hd hi]
end
def set2 (w : World) (q : Nat) (a b : Value) : World := (w.setCell ⟨q, 0, none⟩ a).setCell ⟨q, 1, none⟩ b
theorem st2 {w6 : World} {q : Nat} {t : TypeId} {z0 z1 : Value} (r : w6.heap[q]? = some (.cells #[z0, z1] t (0, 0))) (a b : Value) :
    ((∃ y, w6.cell? ⟨q, 0, none⟩ = some y ∧ w6.frozen? ⟨q, 0, none⟩ = false) ∧ (∃ y, (w6.setCell ⟨q, 0, none⟩ a).cell? ⟨q, 1, none⟩ = some y ∧ (w6.setCell ⟨q, 0, none⟩ a).frozen? ⟨q, 1, none⟩ = false)) ∧
    (set2 w6 q a b).heap[q]? = some (.cells #[a, b] t (0, 0)) ∧ w6.grownBy (set2 w6 q a b) (some q) := by
  have p0 := heap_set_self (k := 0) r a
  have p1 := heap_set_self (k := 1) p0 b
  exact ⟨⟨cell_at r (k := 0) rfl (show 0 < 2 by omega), cell_at p0 (k := 1) rfl (show 1 < 2 by omega)⟩, p1, grown_trans (grown_set _ q 0 a) (grown_set _ q 1 b)⟩
theorem code_step9 {w w1 : World} {B B' : Nat} {A : Option Addr} {len : Nat} (h : Code w B A len) (hb : Below B w w1) (hB : B ≤ B') : Code w1 B' A len :=
  ⟨h.1, fun hn => by
    obtain ⟨b, off, e, h1, h2⟩ := h.2 hn
    refine ⟨b, off, e, Nat.lt_of_lt_of_le h1 hB, fun j hj => ?_⟩
    obtain ⟨c, c0, c1, hc⟩ := h2 j hj
    exact ⟨c, c0, c1, (hb.cell (p := ⟨b, off + j, none⟩) h1).trans hc⟩⟩
end Go.Proofs.Ythahakefmpajfaa
