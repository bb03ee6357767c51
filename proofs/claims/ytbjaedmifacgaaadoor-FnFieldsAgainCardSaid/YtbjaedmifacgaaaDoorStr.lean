/- The walks of the laws' helpers over slices of strings: markText, eqStringS, markStringS, heldStringS. -/
import Derived.Test.YtbjaedmifacgaaaDoorNum1
import Derived.Laws.Rows
import Derived.Deep.QuietTactic
import Derived.BigQuiet
import Derived.Deep.RegionHeld3
import Derived.Deep.AppendLies
import Derived.Deep.DrawnRows
namespace Go.Proofs.YtbjaedmifacgaaaDoor
open Go.RowKit

/-- The text of a mark. -/
def markL (k : Nat) : List UInt8 := if k = 0 then [109, 48] else 109 :: Lib.decDigits k
def markS (k : Nat) : ByteArray := ⟨(markL k).toArray⟩
theorem markS_zero : markS 0 = ⟨#[109, 48]⟩ := rfl
theorem mark_end {t : ByteArray} {N : Nat} (hN : N ≠ 0) (he : frontD 0 ++ t.data.toList = Lib.decDigits N) : Ending.returned (.string ((⟨#[109]⟩ : ByteArray) ++ t)) = .returned (.string (markS N)) := by
  have : (⟨#[109]⟩ : ByteArray) ++ t = markS N := str_ext (by rw [str_cat, frontD_zero he]; simp [markS, markL, hN])
  rw [this]
theorem markS_size (k : Nat) (hk : k ≤ 9223372036854775808) : (markS k).size ≤ 21 := by
  rw [str_size]
  have := dec_len k hk
  unfold markS markL
  split <;> simp <;> omega



/-- A slice whose cells hold these strings. -/
def StrRow (w : World) (A : Option Addr) (n : Nat) (xs : List ByteArray) : Prop :=
  xs.length = n ∧ (n ≠ 0 → ∃ b, A = some ⟨b, 0, none⟩ ∧ ∀ j, j < n → ∃ t, xs[j]? = some t ∧ w.cell? ⟨b, j, none⟩ = some (.string t))

theorem below_dn (w : World) (n : Nat) : Below w.heap.size w (w.drewN n) := ⟨rfl, rfl, rfl, Nat.le_refl _, fun _ _ => rfl⟩
theorem StrRow.below {w w' : World} {A : Option Addr} {n : Nat} {xs : List ByteArray} (h : StrRow w A n xs) (hb : Below w.heap.size w w') : StrRow w' A n xs :=
  ⟨h.1, fun hn => by
    obtain ⟨b, e, hc⟩ := h.2 hn
    refine ⟨b, e, fun j hj => ?_⟩
    obtain ⟨t, e1, e2⟩ := hc j hj
    exact ⟨t, e1, (World.cell?_of_block (hb.block b (World.block_lt_of_cell? w _ e2))).trans e2⟩⟩


/-- A block that holds strings only. -/
def strCells (xs : List ByteArray) : Array Value := (xs.map Value.string).toArray
def StrBlock (w : World) (g : Nat) (xs : List ByteArray) : Prop := w.heap[g]? = some (.cells (strCells xs) 9 (0, 0))
theorem StrBlock.cell {w : World} {g : Nat} {xs : List ByteArray} (h : StrBlock w g xs) (j : Nat) (t : ByteArray) (hj : xs[j]? = some t) : w.cell? ⟨g, j, none⟩ = some (.string t) := by
  rw [cell_of_row w g j _ _ _ h]
  simp [strCells, hj]
theorem StrBlock.row {w : World} {g : Nat} {xs : List ByteArray} (h : StrBlock w g xs) : StrRow w (some ⟨g, 0, none⟩) xs.length xs :=
  ⟨rfl, fun _ => ⟨g, rfl, fun j hj => ⟨xs[j], List.getElem?_eq_getElem hj, h.cell j _ (List.getElem?_eq_getElem hj)⟩⟩⟩
theorem StrBlock.lt {w : World} {g : Nat} {xs : List ByteArray} (h : StrBlock w g xs) : g < w.heap.size := by
  rcases Nat.lt_or_ge g w.heap.size with h' | h'
  · exact h'
  · unfold StrBlock at h; rw [Array.getElem?_eq_none h'] at h; cases h
theorem StrBlock.frozen {w : World} {g : Nat} {xs : List ByteArray} (h : StrBlock w g xs) (j : Nat) : w.frozen? ⟨g, j, none⟩ = false := by
  unfold StrBlock at h; simp [World.frozen?, h]
theorem StrBlock.below {w w' : World} {g : Nat} {xs : List ByteArray} (h : StrBlock w g xs) (hb : Below w.heap.size w w') : StrBlock w' g xs := (hb.block g h.lt).trans h
theorem StrBlock.set {w : World} {g : Nat} {xs : List ByteArray} (h : StrBlock w g xs) (j : Nat) (t : ByteArray) : StrBlock (w.setCell ⟨g, j, none⟩ (.string t)) g (xs.set j t) := by
  unfold StrBlock at *
  simp [World.setCell, Array.getElem?_modify, h, strCells, List.map_set]


end Go.Proofs.YtbjaedmifacgaaaDoor
