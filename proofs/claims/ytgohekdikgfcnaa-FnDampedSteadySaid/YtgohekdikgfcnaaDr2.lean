/- The drawing of chapter 1: l01Number, DrawClamp; the law FnClamped. -/
import Derived.Test.YtgohekdikgfcnaaDr1
namespace Go.Proofs.Ytgohekdikgfcnaa
open Go.RowKit

theorem Cur.lt {w : World} {B g len cap : Nat} {A : Option Addr} (h : Cur w B g A len cap) : g < w.heap.size := by
  obtain ⟨_, _, i, n, _, _, _, _, hb⟩ := h
  rcases Nat.lt_or_ge g w.heap.size with h | h
  · exact h
  · rw [Array.getElem?_eq_none h] at hb; cases hb
theorem Cur.grown_far {w w' : World} {B g len cap : Nat} {A : Option Addr} (h : Cur w B g A len cap) {row : Option Nat} (hg : w.grownBy w' row) (hr : row ≠ some g) (hB : ∀ k, row = some k → B ≤ k) : Cur w' B g A len cap := by
  have hlt := h.lt
  obtain ⟨h1, ⟨h2, h3⟩, i, n, a, b, c, d, hb⟩ := h
  refine ⟨h1, ⟨h2, fun hn => ?_⟩, i, n, a, b, c, d, (hg.block g hlt (fun e => hr e.symm)).trans hb⟩
  obtain ⟨b', off, e, hb', hc⟩ := h3 hn
  refine ⟨b', off, e, hb', fun j hj => ?_⟩
  obtain ⟨x, x0, x1, hx⟩ := hc j hj
  exact ⟨x, x0, x1, (World.cell?_of_block (hg.block b' (World.block_lt_of_cell? w _ hx) (fun e => by have := hB _ e.symm; omega))).trans hx⟩
theorem Cur.alloc {w : World} {B g len cap : Nat} {A : Option Addr} (h : Cur w B g A len cap) (o : Obj) : Cur (w.alloc o) B g A len cap :=
  h.grown_far (World.grownBy_alloc w o none) (by simp) (fun _ h => by cases h)


theorem below_cur {w w1 w2 : World} {B g : Nat} (h : Below B w w1) (hB : B ≤ w.heap.size) (hg : w1.grownBy w2 (some g)) (hb : B ≤ g) : Below B w w2 :=
  h.grown hg (Nat.le_trans hB h.size) (fun k e => by injection e with e; omega)

end Go.Proofs.Ytgohekdikgfcnaa
