/- Places and lines (spec): PlaceOk, LineOk, heights, SideOf, Crossing. -/
import Derived.Test.YtibkhmdnfloemaaLiA
import Derived.Test.YtibkhmdnfloemaaLwA
import Derived.Laws.StructEq
namespace Go.Proofs.Ytibkhmdnfloemaa
open Go.RowKit
set_option linter.unusedVariables false
set_option linter.unusedSimpArgs false

/-! ### Boxes: what a function has laid of its own stands, and nothing old has turned -/
theorem heap_lt {w : World} {g : Nat} {o : Obj} (h : w.heap[g]? = some o) : g < w.heap.size := by
  rcases Nat.lt_or_ge g w.heap.size with h' | h'
  · exact h'
  · rw [Array.getElem?_eq_none h'] at h; cases h
def Bx1 (w : World) (c1 : Array Value) (t1 : TypeId) (wr : World) : Prop := wr.heap[w.heap.size]? = some (.cells c1 t1 (0, 0)) ∧ Below w.heap.size w wr
def Bx2 (w : World) (c1 : Array Value) (t1 : TypeId) (c2 : Array Value) (t2 : TypeId) (wr : World) : Prop :=
  wr.heap[w.heap.size]? = some (.cells c1 t1 (0, 0)) ∧ wr.heap[w.heap.size + 1]? = some (.cells c2 t2 (0, 0)) ∧ Below w.heap.size w wr
def Bx3 (w : World) (c1 : Array Value) (t1 : TypeId) (c2 : Array Value) (t2 : TypeId) (c3 : Array Value) (t3 : TypeId) (wr : World) : Prop :=
  wr.heap[w.heap.size]? = some (.cells c1 t1 (0, 0)) ∧ wr.heap[w.heap.size + 1]? = some (.cells c2 t2 (0, 0)) ∧ wr.heap[w.heap.size + 2]? = some (.cells c3 t3 (0, 0)) ∧ Below w.heap.size w wr
theorem Bx1.step {w w1 w2 : World} {c1 : Array Value} {t1 : TypeId} (h : Bx1 w c1 t1 w1) (b : Below w1.heap.size w1 w2) : Bx1 w c1 t1 w2 :=
  ⟨(b.block _ (heap_lt h.1)).trans h.1, h.2.trans (b.mono h.2.size)⟩
theorem Bx2.step {w w1 w2 : World} {c1 c2 : Array Value} {t1 t2 : TypeId} (h : Bx2 w c1 t1 c2 t2 w1) (b : Below w1.heap.size w1 w2) : Bx2 w c1 t1 c2 t2 w2 :=
  ⟨(b.block _ (heap_lt h.1)).trans h.1, (b.block _ (heap_lt h.2.1)).trans h.2.1, h.2.2.trans (b.mono h.2.2.size)⟩
theorem Bx3.step {w w1 w2 : World} {c1 c2 c3 : Array Value} {t1 t2 t3 : TypeId} (h : Bx3 w c1 t1 c2 t2 c3 t3 w1) (b : Below w1.heap.size w1 w2) : Bx3 w c1 t1 c2 t2 c3 t3 w2 :=
  ⟨(b.block _ (heap_lt h.1)).trans h.1, (b.block _ (heap_lt h.2.1)).trans h.2.1, (b.block _ (heap_lt h.2.2.1)).trans h.2.2.1, h.2.2.2.trans (b.mono h.2.2.2.size)⟩
theorem Bx1.drew {w w1 : World} {c1 : Array Value} {t1 : TypeId} (h : Bx1 w c1 t1 w1) : Bx1 w c1 t1 w1.drew := ⟨h.1, h.2.drew⟩
theorem Bx2.drew {w w1 : World} {c1 c2 : Array Value} {t1 t2 : TypeId} (h : Bx2 w c1 t1 c2 t2 w1) : Bx2 w c1 t1 c2 t2 w1.drew := ⟨h.1, h.2.1, h.2.2.drew⟩
theorem Bx3.drew {w w1 : World} {c1 c2 c3 : Array Value} {t1 t2 t3 : TypeId} (h : Bx3 w c1 t1 c2 t2 c3 t3 w1) : Bx3 w c1 t1 c2 t2 c3 t3 w1.drew := ⟨h.1, h.2.1, h.2.2.1, h.2.2.2.drew⟩
theorem Bx1.new (w : World) (c1 : Array Value) (t1 : TypeId) : Bx1 w c1 t1 (w.alloc (.cells c1 t1)) := ⟨heap_alloc_new w _, (Below.refl _ w).alloc (Nat.le_refl _) _⟩
theorem Bx2.new (w : World) (c1 : Array Value) (t1 : TypeId) (c2 : Array Value) (t2 : TypeId) : Bx2 w c1 t1 c2 t2 ((w.alloc (.cells c1 t1)).alloc (.cells c2 t2)) := by
  have h := Bx1.new w c1 t1
  have n := heap_alloc_new (w.alloc (.cells c1 t1)) (.cells c2 t2)
  rw [World.size_alloc] at n
  have k := h.step ((Below.refl _ _).alloc (Nat.le_refl _) (.cells c2 t2))
  exact ⟨k.1, n, k.2⟩
theorem Bx3.new (w : World) (c1 : Array Value) (t1 : TypeId) (c2 : Array Value) (t2 : TypeId) (c3 : Array Value) (t3 : TypeId) : Bx3 w c1 t1 c2 t2 c3 t3 (((w.alloc (.cells c1 t1)).alloc (.cells c2 t2)).alloc (.cells c3 t3)) := by
  have h := Bx2.new w c1 t1 c2 t2
  have n := heap_alloc_new ((w.alloc (.cells c1 t1)).alloc (.cells c2 t2)) (.cells c3 t3)
  rw [World.size_alloc, World.size_alloc] at n
  have k := h.step ((Below.refl _ _).alloc (Nat.le_refl _) (.cells c3 t3))
  exact ⟨k.1, k.2.1, n, k.2.2⟩
theorem liB_bool (l : Ln) : liB l = ((plB l.1 && plB l.2) && !((l.1.1 == l.2.1) && (l.1.2 == l.2.2))) := by
  unfold liB
  congr 1
  obtain ⟨⟨a, b⟩, c, d⟩ := l
  by_cases h1 : a = c <;> by_cases h2 : b = d <;> simp [h1, h2]
end Go.Proofs.Ytibkhmdnfloemaa
