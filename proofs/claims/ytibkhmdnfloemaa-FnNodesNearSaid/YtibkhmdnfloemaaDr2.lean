/- The drawing of chapter 1: l01Number, DrawClamp; the law FnClamped. -/
import Derived.Test.YtibkhmdnfloemaaDr1
namespace Go.Proofs.Ytibkhmdnfloemaa
open Go.RowKit

theorem Cur.lt {w : World} {B g len cap : Nat} {A : Option Addr} (h : Cur w B g A len cap) : g < w.heap.size := by
  obtain ⟨_, _, i, n, _, _, _, _, hb⟩ := h
  rcases Nat.lt_or_ge g w.heap.size with h | h
  · exact h
  · rw [Array.getElem?_eq_none h] at hb; cases hb
theorem Cur.grown_far {w w' : World} {B g len cap : Nat} {A : Option Addr} (h : Cur w B g A len cap) {row : Option Nat} (hg : w.grownBy w' row) (hr : row ≠ some g) (hB : ∀ k, row = some k → B ≤ k) : Cur w' B g A len cap := by
  have hlt := h.lt
  obtain ⟨h1, ⟨h2, h3⟩, i, n, a, b, c, d, hb⟩ := h
  refine ⟨h1, ⟨h2, fun hn => ?_⟩, i, n, a, b, c, d, (hg.block g hlt (fun e => hr e.symm)).trans hb⟩
  obtain ⟨b', off, e, hb', hc⟩ := h3 hn
  refine ⟨b', off, e, hb', fun j hj => ?_⟩
  obtain ⟨x, x0, x1, hx⟩ := hc j hj
  exact ⟨x, x0, x1, (World.cell?_of_block (hg.block b' (World.block_lt_of_cell? w _ hx) (fun e => by have := hB _ e.symm; omega))).trans hx⟩
theorem Cur.alloc {w : World} {B g len cap : Nat} {A : Option Addr} (h : Cur w B g A len cap) (o : Obj) : Cur (w.alloc o) B g A len cap :=
  h.grown_far (World.grownBy_alloc w o none) (by simp) (fun _ h => by cases h)

set_option maxRecDepth 100000 in
set_option maxHeartbeats 1000000 in
theorem d_number (w : World) (B g len cap : Nat) (A : Option Addr) (hc : Cur w B g A len cap) :
    Calls Try.prog 32 #[.pointer (some ⟨g, 0, none⟩)] w fun e w' => ∃ x : Int, -9223372036854775808 ≤ x ∧ x ≤ 9223372036854775807 ∧ e = .returned (.int .i64 x) ∧ Cur w' B g A len cap ∧ w.grownBy w' (some g) := by
  go_enter Try.func32, Try.ntmps32
  go_wp2_with fail
  refine (d_below _ _ B g len cap A hc (by omega)).mono ?_
  rintro e w1 ⟨x, x0, x1, x2, rfl, cur1, gr1⟩
  have x3 := x1 (by omega)
  clear x1 x2
  by_cases hx0 : x = 0
  · subst hx0
    go_wp2_with fail
    have hlt := cur1.lt
    refine (d_pickint _ B g len cap w1.heap.size 10 10 A 3 [-1, 0, 127, 128, 16383, 16384, 1000000000, 1000000001, 9223372036854775807, -9223372036854775808] (cur1.alloc _) rfl (by omega) (by omega) (by omega) (by intro x hx; simp at hx; omega) (heap_alloc_new w1 _)).mono ?_
    rintro e w2 ⟨y, y0, y1, rfl, cur2, gr2⟩
    go_wp2
    go_ret
    exact ⟨y, y0, y1, rfl, cur2, grown_trans gr1 (grown_trans (World.grownBy_alloc w1 _ _) gr2)⟩
  · by_cases hx1 : x = 1
    · subst hx1
      go_wp2_with fail
      refine (d_below _ _ B g len cap A cur1 (by omega)).mono ?_
      rintro e w2 ⟨y, y0, y1, y2, rfl, cur2, gr2⟩
      have y3 := y1 (by omega)
      clear y1 y2
      go_wp2
      go_ret
      exact ⟨y, by omega, by omega, rfl, cur2, grown_trans gr1 gr2⟩
    · have e0 : (x == 0) = false := by simpa using hx0
      have e1 : (x == 1) = false := by simpa using hx1
      go_wp2_with fail
      refine (d_below _ _ B g len cap A cur1 (by omega)).mono ?_
      rintro e w2 ⟨y, y0, y1, y2, rfl, cur2, gr2⟩
      have y3 := y1 (by omega)
      clear y1 y2
      go_wp2
      go_ret
      exact ⟨y, by omega, by omega, rfl, cur2, grown_trans gr1 gr2⟩

theorem below_cur {w w1 w2 : World} {B g : Nat} (h : Below B w w1) (hB : B ≤ w.heap.size) (hg : w1.grownBy w2 (some g)) (hb : B ≤ g) : Below B w w2 :=
  h.grown hg (Nat.le_trans hB h.size) (fun k e => by injection e with e; omega)

end Go.Proofs.Ytibkhmdnfloemaa
