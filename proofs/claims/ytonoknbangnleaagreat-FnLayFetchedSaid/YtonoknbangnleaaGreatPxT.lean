/- The laws' own copies: toFloat32S, toIntS, toFloat32SS, toPolar. -/
import Derived.Test.YtonoknbangnleaaGreatPxS
import Derived.Test.YtonoknbangnleaaGreatPoU
import Derived.Test.YtonoknbangnleaaGreatPxE
import Derived.Deep.OwnRows
namespace Go.Proofs.YtonoknbangnleaaGreat
open Go.RowKit Ieee
set_option linter.unusedSimpArgs false
set_option linter.unusedVariables false

theorem Tryz.infoF : (Tryz.prog.info? 35).map (fun i => (i.zero, i.size, i.bytes)) = some (some (.float .f32 0), 1, 4) := by kernel_rfl
theorem Tryz.infoI : (Tryz.prog.info? 3).map (fun i => (i.zero, i.size, i.bytes)) = some (some (.int .i64 0), 1, 8) := by kernel_rfl
theorem Tryz.infoFS : (Tryz.prog.info? 24).map (fun i => (i.zero, i.size, i.bytes)) = some (some (.slice none 0 0), 1, 24) := by kernel_rfl
theorem Tryz.infoP : (Tryz.prog.info? 28).map (·.size) = some 3 := by kernel_rfl
/-- A row of the call's own: a block that holds it, and nothing else. -/
def OwnRow (w : World) (g n : Nat) (t : TypeId) (V : Nat → Value) : Prop := ∃ cs, w.heap[g]? = some (.cells cs t (0, 0)) ∧ cs.size = n ∧ ∀ j, j < n → cs[j]? = some (V j)
theorem OwnRow.row {w : World} {g n : Nat} {t : TypeId} {V : Nat → Value} (h : OwnRow w g n t V) : Row w (some ⟨g, 0, none⟩) n V := fun _ => by
  obtain ⟨cs, hb, hs, hc⟩ := h
  refine ⟨g, 0, rfl, fun j hj => ?_⟩
  rw [cell_of_row w g (0 + j) _ _ _ hb, Nat.zero_add]; exact hc j hj
theorem OwnRow.lt {w : World} {g n : Nat} {t : TypeId} {V : Nat → Value} (h : OwnRow w g n t V) : g < w.heap.size := by
  obtain ⟨cs, hb, _⟩ := h
  rcases Nat.lt_or_ge g w.heap.size with h' | h'
  · exact h'
  · rw [Array.getElem?_eq_none h'] at hb; cases hb
theorem OwnRow.block {w w' : World} {g n : Nat} {t : TypeId} {V : Nat → Value} (h : OwnRow w g n t V) (e : w'.heap[g]? = w.heap[g]?) : OwnRow w' g n t V := by
  obtain ⟨cs, hb, hs, hc⟩ := h
  exact ⟨cs, e.trans hb, hs, hc⟩
theorem OwnRow.below {w w' : World} {g n : Nat} {t : TypeId} {V : Nat → Value} (h : OwnRow w g n t V) (b : Below w.heap.size w w') : OwnRow w' g n t V := h.block (b.block g h.lt)
theorem heap_set_self {w : World} {g k : Nat} {cs : Array Value} {t : TypeId} (h : w.heap[g]? = some (.cells cs t (0, 0))) (v : Value) : (w.setCell ⟨g, k, none⟩ v).heap[g]? = some (.cells (cs.setIfInBounds k v) t (0, 0)) := by
  simp [World.setCell, Array.getElem?_modify, h]
theorem heap_set_size (w : World) (a : Addr) (v : Value) : (w.setCell a v).heap.size = w.heap.size := by simp [World.setCell]
theorem set_get {cs : Array Value} {k n : Nat} {V : Nat → Value} (hs : cs.size = n) (h : ∀ j, j < k → cs[j]? = some (V j)) (hk : k < n) : (cs.setIfInBounds k (V k)).size = n ∧ ∀ j, j < k + 1 → (cs.setIfInBounds k (V k))[j]? = some (V j) := by
  refine ⟨by simpa using hs, fun j hj => ?_⟩
  rw [Array.getElem?_setIfInBounds]
  by_cases e : k = j
  · subst e; simp [hs, hk]
  · rw [if_neg e]; exact h j (by omega)
theorem made_size (z : Value) (n : Nat) : (madeCells #[z] n).size = n := by simp [madeCells]
theorem store_at {P : Program} {w : World} {g k n : Nat} {cs : Array Value} {t : TypeId} (hb : w.heap[g]? = some (.cells cs t (0, 0))) (hs : cs.size = n) (hk : k < n) (v : Value) (hv : v.oneCell' = true) : (store ⟨g, k, none⟩ v).run P w = .ok () (w.setCell ⟨g, k, none⟩ v) := by
  have hc : w.cell? ⟨g, k, none⟩ = some cs[k] := by
    rw [cell_of_row w _ k _ _ _ hb]; exact Array.getElem?_eq_getElem (by omega)
  have hf : w.frozen? ⟨g, k, none⟩ = false := by simp [World.frozen?, hb]
  rw [run_store _ _ _ _ _ hv, hc]; simp [hf]

theorem cell_at {w : World} {g k n : Nat} {cs : Array Value} {t : TypeId} (hb : w.heap[g]? = some (.cells cs t (0, 0))) (hs : cs.size = n) (hk : k < n) : ∃ v, w.cell? ⟨g, k, none⟩ = some v ∧ w.frozen? ⟨g, k, none⟩ = false :=
  ⟨cs[k], by rw [cell_of_row w _ k _ _ _ hb]; exact Array.getElem?_eq_getElem (by omega), by simp [World.frozen?, hb]⟩
/-- A copy of a polar, from block b on. -/
def copyAt (b : Nat) (Q : Pol) : Pol := ⟨some ⟨b, 0, none⟩, Q.nw, Q.nw, Q.ws, some ⟨b + 1, 0, none⟩, Q.na, Q.na, Q.av, some ⟨b + 2, 0, none⟩, Q.ns, Q.ns, fun i => some ⟨b + 3 + i, 0, none⟩, Q.rn, Q.rn, Q.sp⟩
/-- .. in memory of its own. -/
def Made (w : World) (b : Nat) (Q : Pol) : Prop :=
  OwnRow w b Q.nw 35 (fun j => fv (Q.ws j)) ∧ OwnRow w (b + 1) Q.na 3 (fun j => iv (Q.av j)) ∧ OwnRow w (b + 2) Q.ns 24 (fun i => .slice (some ⟨b + 3 + i, 0, none⟩) (Q.rn i) (Q.rn i)) ∧
    ∀ i, i < Q.ns → OwnRow w (b + 3 + i) (Q.rn i) 35 (fun j => fv (Q.sp i j))
theorem Made.polIn {w w0 : World} {b : Nat} {Q : Pol} (h : Made w b Q) (hQ : PolIn w0 Q) : PolIn w (copyAt b Q) :=
  ⟨⟨h.1.row, hQ.1.2⟩, ⟨h.2.1.row, hQ.2.1.2⟩, ⟨h.2.2.1.row, hQ.2.2.1.2⟩, fun i hi => ⟨(h.2.2.2 i hi).row, (hQ.2.2.2 i hi).2⟩⟩
theorem Made.below {w w' : World} {b : Nat} {Q : Pol} (h : Made w b Q) (k : Below w.heap.size w w') : Made w' b Q :=
  ⟨h.1.below k, h.2.1.below k, h.2.2.1.below k, fun i hi => (h.2.2.2 i hi).below k⟩
theorem copy_ok (b : Nat) (Q : Pol) : PolOk (copyAt b Q) ↔ PolOk Q := Iff.rfl
theorem copy_spd (b : Nat) (Q : Pol) (x : Nat) (a : Int) : spd (copyAt b Q) x a = spd Q x a := rfl
theorem copy_ask (b : Nat) (Q : Pol) (x : Nat) (a : Int) : AskOk (copyAt b Q) x a ↔ AskOk Q x a := Iff.rfl
theorem copy_made (b : Nat) (Q : Pol) (x : Nat) (a : Nat) : madeW (copyAt b Q) x a = madeW Q x a := rfl
theorem copy_same (b c : Nat) (Q : Pol) : Same4 (copyAt b Q) (copyAt c Q) := ⟨rfl, rfl, rfl, rfl, rfl, rfl, rfl⟩
end Go.Proofs.YtonoknbangnleaaGreat
