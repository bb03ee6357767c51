/- spec.FlowAt; the drawing of a flow. -/
import Derived.Test.YtonfenekjocopaaTdD
import Derived.Deep.RegionLaw
import Derived.StillTailTactics
namespace Go.Proofs.Ytonfenekjocopaa
open Go.RowKit Ieee
set_option linter.unusedSimpArgs false
set_option linter.unusedVariables false
attribute [local go_sem] st_cplx

theorem Code.step {w w1 : World} {B B' : Nat} {A : Option Addr} {len : Nat} (h : Code w B A len) (hb : Below B w w1) (hB : B ≤ B') : Code w1 B' A len :=
  ⟨h.1, fun hn => by
    obtain ⟨b, off, e, h1, h2⟩ := h.2 hn
    refine ⟨b, off, e, Nat.lt_of_lt_of_le h1 hB, fun j hj => ?_⟩
    obtain ⟨c, c0, c1, hc⟩ := h2 j hj
    exact ⟨c, c0, c1, (hb.cell (p := ⟨b, off + j, none⟩) h1).trans hc⟩⟩
section
variable {P : Program}
theorem res_cell_tmp {fn : Func} {p u : Tmp} {ty : TypeId} (h : fn.results = #[.cell p ty, .tmp u]) (tmps : Array Value) (w : World) (g : Nat) (t : TypeId) (cs : Array Value) (fr : Nat × Nat) (d : TypeDesc)
    (hp : tmps.getD p undef = .pointer (some ⟨g, 0, none⟩)) (hg : w.heap[g]? = some (.cells cs t fr))
    (hu : P.underlying ty = some d) (hd : (match d with | .struct _ | .array _ _ => true | _ => false) = true) (hi : (P.info? ty).map (·.size) = some cs.size) :
    (results fn tmps).run P w = .ok (.tuple #[.agg cs, tmps.getD u undef]) w := by
  have hp' : tmps[p]?.getD undef = .pointer (some ⟨g, 0, none⟩) := by simpa using hp
  simp [results, h, hp', asAddr, run_loadVar_row w g t ty cs fr d hg hu hd hi]
end
theorem ld_row {w : World} {q : Nat} {cs : Array Value} (h : w.heap[q]? = some (.cells cs 110 (0, 0))) (hs : cs.size = 14) : (Instr.loadAt 110 (.pointer (some ⟨q, 0, none⟩))).run Try.prog w = .ok (.agg cs) w := by
  simp only [Instr.loadAt, Instr.sureAddr, Sem.run_bind, Sem.run_pure, Result.andThen_ok, run_loadVar_row w q _ 110 cs (0, 0) _ h Try.underlying110 rfl (by rw [hs]; exact Try.infoStS)]
theorem st_row {w : World} {r : Nat} {cs z : Array Value} (h : w.heap[r]? = some (.cells z 110 (0, 0))) (hz : z.size = 14) (hs : StV cs) : (Instr.storeAt 110 (.pointer (some ⟨r, 0, none⟩)) (.agg cs)).run Try.prog w = .ok () (w.setRow r cs) := by
  simp only [Instr.storeAt, Instr.sureAddr, Sem.run_bind, Sem.run_pure, Result.andThen_ok, run_storeVar_row w r _ 110 z cs h (by rw [hs.1]; exact Try.infoStS) (by rw [hz, hs.1]) hs.one]
--14
theorem wrap_bd (n : Int) : -9223372036854775808 ≤ IntKind.i64.wrap n ∧ IntKind.i64.wrap n ≤ 9223372036854775807 := by
  have h : IntKind.i64.wrap n = wrap64 n := IntWalk.i64_left n
  rw [h]; exact wrap64_bd n
theorem cells14 {w : World} {q : Nat} {a0 a1 a2 a3 a4 a5 a6 a7 a8 a9 a10 a11 a12 a13 : Value} (h : w.heap[q]? = some (.cells #[a0, a1, a2, a3, a4, a5, a6, a7, a8, a9, a10, a11, a12, a13] 110 (0, 0))) :
    w.cell? ⟨q, 0, none⟩ = some a0 ∧ w.cell? ⟨q, 1, none⟩ = some a1 ∧ w.cell? ⟨q, 2, none⟩ = some a2 ∧ w.cell? ⟨q, 3, none⟩ = some a3 ∧ w.cell? ⟨q, 4, none⟩ = some a4 ∧ w.cell? ⟨q, 5, none⟩ = some a5 ∧ w.cell? ⟨q, 6, none⟩ = some a6 ∧ w.cell? ⟨q, 7, none⟩ = some a7 ∧ w.cell? ⟨q, 8, none⟩ = some a8 ∧ w.cell? ⟨q, 9, none⟩ = some a9 ∧ w.cell? ⟨q, 10, none⟩ = some a10 ∧ w.cell? ⟨q, 11, none⟩ = some a11 ∧ w.cell? ⟨q, 12, none⟩ = some a12 ∧ w.cell? ⟨q, 13, none⟩ = some a13 :=
  ⟨(cell_of_row w q 0 _ _ _ h).trans rfl, (cell_of_row w q 1 _ _ _ h).trans rfl, (cell_of_row w q 2 _ _ _ h).trans rfl, (cell_of_row w q 3 _ _ _ h).trans rfl, (cell_of_row w q 4 _ _ _ h).trans rfl, (cell_of_row w q 5 _ _ _ h).trans rfl, (cell_of_row w q 6 _ _ _ h).trans rfl, (cell_of_row w q 7 _ _ _ h).trans rfl, (cell_of_row w q 8 _ _ _ h).trans rfl, (cell_of_row w q 9 _ _ _ h).trans rfl, (cell_of_row w q 10 _ _ _ h).trans rfl, (cell_of_row w q 11 _ _ _ h).trans rfl, (cell_of_row w q 12 _ _ _ h).trans rfl, (cell_of_row w q 13 _ _ _ h).trans rfl⟩
theorem soft14 {w : World} {q : Nat} {a0 a1 a2 a3 a4 a5 a6 a7 a8 a9 a10 a11 a12 a13 : Value} (h : w.heap[q]? = some (.cells #[a0, a1, a2, a3, a4, a5, a6, a7, a8, a9, a10, a11, a12, a13] 110 (0, 0))) :
    w.frozen? ⟨q, 0, none⟩ = false ∧ w.frozen? ⟨q, 1, none⟩ = false ∧ w.frozen? ⟨q, 2, none⟩ = false ∧ w.frozen? ⟨q, 3, none⟩ = false ∧ w.frozen? ⟨q, 4, none⟩ = false ∧ w.frozen? ⟨q, 5, none⟩ = false ∧ w.frozen? ⟨q, 6, none⟩ = false ∧ w.frozen? ⟨q, 7, none⟩ = false ∧ w.frozen? ⟨q, 8, none⟩ = false ∧ w.frozen? ⟨q, 9, none⟩ = false ∧ w.frozen? ⟨q, 10, none⟩ = false ∧ w.frozen? ⟨q, 11, none⟩ = false ∧ w.frozen? ⟨q, 12, none⟩ = false ∧ w.frozen? ⟨q, 13, none⟩ = false := by
  refine ⟨?_, ?_, ?_, ?_, ?_, ?_, ?_, ?_, ?_, ?_, ?_, ?_, ?_, ?_⟩ <;> simp [World.frozen?, h]
theorem size14 {z : Array Value} (h : z.size = 14) : ∃ a0 a1 a2 a3 a4 a5 a6 a7 a8 a9 a10 a11 a12 a13 : Value, z = #[a0, a1, a2, a3, a4, a5, a6, a7, a8, a9, a10, a11, a12, a13] := by
  obtain ⟨l0⟩ := z
  have h0 : l0.length = 14 := h
  obtain ⟨a0, l1, e0, h1⟩ := cons_of h0
  obtain ⟨a1, l2, e1, h2⟩ := cons_of h1
  obtain ⟨a2, l3, e2, h3⟩ := cons_of h2
  obtain ⟨a3, l4, e3, h4⟩ := cons_of h3
  obtain ⟨a4, l5, e4, h5⟩ := cons_of h4
  obtain ⟨a5, l6, e5, h6⟩ := cons_of h5
  obtain ⟨a6, l7, e6, h7⟩ := cons_of h6
  obtain ⟨a7, l8, e7, h8⟩ := cons_of h7
  obtain ⟨a8, l9, e8, h9⟩ := cons_of h8
  obtain ⟨a9, l10, e9, h10⟩ := cons_of h9
  obtain ⟨a10, l11, e10, h11⟩ := cons_of h10
  obtain ⟨a11, l12, e11, h12⟩ := cons_of h11
  obtain ⟨a12, l13, e12, h13⟩ := cons_of h12
  obtain ⟨a13, l14, e13, h14⟩ := cons_of h13
  have e14 : l14 = [] := List.eq_nil_of_length_eq_zero h14
  refine ⟨a0, a1, a2, a3, a4, a5, a6, a7, a8, a9, a10, a11, a12, a13, ?_⟩
  rw [e0, e1, e2, e3, e4, e5, e6, e7, e8, e9, e10, e11, e12, e13, e14]
theorem put_list {q : Nat} {t : TypeId} : ∀ (vs rest pre : List Value) (w : World), vs.length = rest.length → w.heap[q]? = some (.cells ⟨pre ++ rest⟩ t (0, 0)) → (w.setCells q pre.length vs).heap[q]? = some (.cells ⟨pre ++ vs⟩ t (0, 0))
  | [], [], pre, w, _, h => h
  | [], _ :: _, _, _, e, _ => by cases e
  | _ :: _, [], _, _, e, _ => by cases e
  | v :: vs, r :: rest, pre, w, e, h => by
    have h1 := heap_set_self (k := pre.length) h v
    have e1 : (⟨pre ++ r :: rest⟩ : Array Value).setIfInBounds pre.length v = ⟨(pre ++ [v]) ++ rest⟩ := by
      simp [Array.setIfInBounds, List.set_append]
    rw [e1] at h1
    have h2 := put_list vs rest (pre ++ [v]) _ (by simpa using e) h1
    rw [List.length_append, List.append_assoc] at h2
    exact h2
theorem put14 {w : World} {q : Nat} {b0 b1 b2 b3 b4 b5 b6 b7 b8 b9 b10 b11 b12 b13 a0 a1 a2 a3 a4 a5 a6 a7 a8 a9 a10 a11 a12 a13 : Value} (h : w.heap[q]? = some (.cells #[b0, b1, b2, b3, b4, b5, b6, b7, b8, b9, b10, b11, b12, b13] 110 (0, 0))) :
    (w.setCells q 0 [a0, a1, a2, a3, a4, a5, a6, a7, a8, a9, a10, a11, a12, a13]).heap[q]? = some (.cells #[a0, a1, a2, a3, a4, a5, a6, a7, a8, a9, a10, a11, a12, a13] 110 (0, 0)) :=
  put_list [a0, a1, a2, a3, a4, a5, a6, a7, a8, a9, a10, a11, a12, a13] [b0, b1, b2, b3, b4, b5, b6, b7, b8, b9, b10, b11, b12, b13] [] w rfl h
theorem StIs.lit {cs : Array Value} {Z : Stn} (h : StIs cs Z) : cs = #[.complex .f64 Z.a Z.b, .complex .f32 (Z.x 0) (Z.y 0), .complex .f32 (Z.x 1) (Z.y 1), .complex .f32 (Z.x 2) (Z.y 2), .complex .f32 (Z.x 3) (Z.y 3), .complex .f32 (Z.x 4) (Z.y 4), .complex .f32 (Z.x 5) (Z.y 5), .complex .f32 (Z.x 6) (Z.y 6), .complex .f32 (Z.x 7) (Z.y 7), .complex .f32 (Z.x 8) (Z.y 8), .complex .f32 (Z.x 9) (Z.y 9), .complex .f32 (Z.x 10) (Z.y 10), .complex .f32 (Z.x 11) (Z.y 11), .complex .f32 (Z.x 12) (Z.y 12)] := by
  obtain ⟨a0, a1, a2, a3, a4, a5, a6, a7, a8, a9, a10, a11, a12, a13, rfl⟩ := size14 h.1
  have e0 : a0 = .complex .f64 Z.a Z.b := by have := h.2.2.1; simpa using this
  have e1 : a1 = .complex .f32 (Z.x 0) (Z.y 0) := by have := (h.2.2.2 0 (by omega)).2; simpa using this
  have e2 : a2 = .complex .f32 (Z.x 1) (Z.y 1) := by have := (h.2.2.2 1 (by omega)).2; simpa using this
  have e3 : a3 = .complex .f32 (Z.x 2) (Z.y 2) := by have := (h.2.2.2 2 (by omega)).2; simpa using this
  have e4 : a4 = .complex .f32 (Z.x 3) (Z.y 3) := by have := (h.2.2.2 3 (by omega)).2; simpa using this
  have e5 : a5 = .complex .f32 (Z.x 4) (Z.y 4) := by have := (h.2.2.2 4 (by omega)).2; simpa using this
  have e6 : a6 = .complex .f32 (Z.x 5) (Z.y 5) := by have := (h.2.2.2 5 (by omega)).2; simpa using this
  have e7 : a7 = .complex .f32 (Z.x 6) (Z.y 6) := by have := (h.2.2.2 6 (by omega)).2; simpa using this
  have e8 : a8 = .complex .f32 (Z.x 7) (Z.y 7) := by have := (h.2.2.2 7 (by omega)).2; simpa using this
  have e9 : a9 = .complex .f32 (Z.x 8) (Z.y 8) := by have := (h.2.2.2 8 (by omega)).2; simpa using this
  have e10 : a10 = .complex .f32 (Z.x 9) (Z.y 9) := by have := (h.2.2.2 9 (by omega)).2; simpa using this
  have e11 : a11 = .complex .f32 (Z.x 10) (Z.y 10) := by have := (h.2.2.2 10 (by omega)).2; simpa using this
  have e12 : a12 = .complex .f32 (Z.x 11) (Z.y 11) := by have := (h.2.2.2 11 (by omega)).2; simpa using this
  have e13 : a13 = .complex .f32 (Z.x 12) (Z.y 12) := by have := (h.2.2.2 12 (by omega)).2; simpa using this
  rw [e0, e1, e2, e3, e4, e5, e6, e7, e8, e9, e10, e11, e12, e13]
--/14
/-- An element of a list of stations. -/
theorem OwnC.elem {w : World} {B n i : Nat} {v : Value} (h : OwnS w B v n) (hi : i < n) :
    ∃ g cap es, v = .slice (some ⟨g, 0, none⟩) n cap ∧ n ≤ cap ∧ cap ≤ maxLen ∧ B ≤ g ∧ g < w.heap.size ∧ StV es ∧ w.rangeAt g (i * 14) es.toList := by
  obtain ⟨g, cap, cs, rfl, h1, h2, h3, h4, h5, h6⟩ := h.form (by omega)
  have hsz : i * 14 + 14 ≤ cs.size := by rw [h5]; omega
  have hget : ∀ c, (cs.extract (i * 14) (i * 14 + 14))[c]? = if c < 14 then cs[i * 14 + c]? else none := fun c => by
    rw [Array.getElem?_extract]
    simp only [Nat.min_eq_left hsz, Nat.add_sub_cancel_left]
  refine ⟨g, cap, cs.extract (i * 14) (i * 14 + 14), rfl, h1, h2, h3, block_lt h4, ⟨by rw [Array.size_extract]; omega, fun c x hx => ?_⟩, fun j v hv => ?_⟩
  · rw [hget] at hx
    split at hx
    · rename_i hc
      obtain ⟨y, y1, y2⟩ := h6 (i * 14 + c) (by omega)
      rw [hx] at y1
      cases y1
      rwa [show (i * 14 + c) % 14 = c by omega] at y2
    · cases hx
  · rw [cell_of_row w g (i * 14 + j) _ _ _ h4]
    have hv' : (cs.extract (i * 14) (i * 14 + 14))[j]? = some v := by rw [← Array.getElem?_toList]; exact hv
    rw [hget] at hv'
    split at hv'
    · exact hv'
    · cases hv'
/-- What stands while a flow is drawn. -/
def FSt (w : World) (g : Nat) (A : Option Addr) (len cap q : Nat) (wx : World) : Prop :=
  Below w.heap.size w wx ∧ Cur wx (w.heap.size + 1) g A len cap ∧ (∃ z, wx.heap[w.heap.size]? = some (.cells z 110 (0, 0)) ∧ z.size = 14) ∧ g < q ∧ ∃ cs, wx.heap[q]? = some (.cells cs 110 (0, 0)) ∧ StV cs
theorem FSt.draw {w w1 w2 : World} {g len cap q : Nat} {A : Option Addr} (h : FSt w g A len cap q w1) (c : Cur w2 (w.heap.size + 1) g A len cap) (k : w1.grownBy w2 (some g)) : FSt w g A len cap q w2 := by
  obtain ⟨h1, h2, ⟨z, h3, h4⟩, h5, cs, h6, h7⟩ := h
  have := c.1
  exact ⟨below_cur h1 (Nat.le_refl _) k (by omega), c, ⟨z, box_far h3 k (fun e => by cases e; omega), h4⟩, h5, cs, box_far h6 k (fun e => by cases e; omega), h7⟩
theorem FSt.drew {w w1 : World} {g len cap q : Nat} {A : Option Addr} (h : FSt w g A len cap q w1) : FSt w g A len cap q w1.drew := by
  have k : w1.grownBy w1.drew (some g) := ⟨rfl, rfl, rfl, Nat.le_refl _, fun _ _ _ => rfl⟩
  exact h.draw (cur_drew h.2.1 (w := w1) (grown_refl _ _)).1 k
theorem FSt.set {w w1 : World} {g len cap q c : Nat} {A : Option Addr} {x : Value} (h : FSt w g A len cap q w1) (hx : CellAt c x) : FSt w g A len cap q (w1.setCell ⟨q, c, none⟩ x) := by
  obtain ⟨h1, h2, ⟨z, h3, h4⟩, h5, cs, h6, h7⟩ := h
  have := h2.1
  have k := grown_set w1 q c x
  exact ⟨h1.setCell (show w.heap.size ≤ (⟨q, c, none⟩ : Addr).block by show w.heap.size ≤ q; omega) x, h2.grown_far k (fun e => by cases e; omega) (fun j e => by cases e; omega), ⟨z, box_far h3 k (fun e => by cases e; omega), h4⟩, h5, _, heap_set_self h6 x, h7.set hx⟩
end Go.Proofs.Ytonfenekjocopaa
