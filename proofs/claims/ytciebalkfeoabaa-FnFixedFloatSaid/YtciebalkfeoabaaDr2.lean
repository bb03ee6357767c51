/- The drawing of chapter 1: l01Number, DrawClamp; the law FnClamped. -/
import Derived.Test.YtciebalkfeoabaaDr1
import Derived.Test.YtciebalkfeoabaaClamp
namespace Go.Proofs.Ytciebalkfeoabaa
open Go.RowKit

theorem Cur.lt {w : World} {B g len cap : Nat} {A : Option Addr} (h : Cur w B g A len cap) : g < w.heap.size := by
  obtain ⟨_, _, i, n, _, _, _, _, hb⟩ := h
  rcases Nat.lt_or_ge g w.heap.size with h | h
  · exact h
  · rw [Array.getElem?_eq_none h] at hb; cases hb
theorem Cur.grown_far {w w' : World} {B g len cap : Nat} {A : Option Addr} (h : Cur w B g A len cap) {row : Option Nat} (hg : w.grownBy w' row) (hr : row ≠ some g) (hB : ∀ k, row = some k → B ≤ k) : Cur w' B g A len cap := by
  have hlt := h.lt
  obtain ⟨h1, ⟨h2, h3⟩, i, n, a, b, c, d, hb⟩ := h
  refine ⟨h1, ⟨h2, fun hn => ?_⟩, i, n, a, b, c, d, (hg.block g hlt (fun e => hr e.symm)).trans hb⟩
  obtain ⟨b', off, e, hb', hc⟩ := h3 hn
  refine ⟨b', off, e, hb', fun j hj => ?_⟩
  obtain ⟨x, x0, x1, hx⟩ := hc j hj
  exact ⟨x, x0, x1, (World.cell?_of_block (hg.block b' (World.block_lt_of_cell? w _ hx) (fun e => by have := hB _ e.symm; omega))).trans hx⟩
theorem Cur.alloc {w : World} {B g len cap : Nat} {A : Option Addr} (h : Cur w B g A len cap) (o : Obj) : Cur (w.alloc o) B g A len cap :=
  h.grown_far (World.grownBy_alloc w o none) (by simp) (fun _ h => by cases h)

set_option maxRecDepth 100000 in
set_option maxHeartbeats 1000000 in
theorem d_number (w : World) (B g len cap : Nat) (A : Option Addr) (hc : Cur w B g A len cap) :
    Calls Try.prog 26 #[.pointer (some ⟨g, 0, none⟩)] w fun e w' => ∃ x : Int, -9223372036854775808 ≤ x ∧ x ≤ 9223372036854775807 ∧ e = .returned (.int .i64 x) ∧ Cur w' B g A len cap ∧ w.grownBy w' (some g) := by
  go_enter Try.func26, Try.ntmps26
  go_wp2_with fail
  refine (d_below _ _ B g len cap A hc (by omega)).mono ?_
  rintro e w1 ⟨x, x0, x1, x2, rfl, cur1, gr1⟩
  have x3 := x1 (by omega)
  clear x1 x2
  by_cases hx0 : x = 0
  · subst hx0
    go_wp2_with fail
    have hlt := cur1.lt
    refine (d_pickint _ B g len cap w1.heap.size 10 10 A 3 [-1, 0, 127, 128, 16383, 16384, 1000000000, 1000000001, 9223372036854775807, -9223372036854775808] (cur1.alloc _) rfl (by omega) (by omega) (by omega) (by intro x hx; simp at hx; omega) (heap_alloc_new w1 _)).mono ?_
    rintro e w2 ⟨y, y0, y1, rfl, cur2, gr2⟩
    go_wp2
    go_ret
    exact ⟨y, y0, y1, rfl, cur2, grown_trans gr1 (grown_trans (World.grownBy_alloc w1 _ _) gr2)⟩
  · by_cases hx1 : x = 1
    · subst hx1
      go_wp2_with fail
      refine (d_below _ _ B g len cap A cur1 (by omega)).mono ?_
      rintro e w2 ⟨y, y0, y1, y2, rfl, cur2, gr2⟩
      have y3 := y1 (by omega)
      clear y1 y2
      go_wp2
      go_ret
      exact ⟨y, by omega, by omega, rfl, cur2, grown_trans gr1 gr2⟩
    · have e0 : (x == 0) = false := by simpa using hx0
      have e1 : (x == 1) = false := by simpa using hx1
      go_wp2_with fail
      refine (d_below _ _ B g len cap A cur1 (by omega)).mono ?_
      rintro e w2 ⟨y, y0, y1, y2, rfl, cur2, gr2⟩
      have y3 := y1 (by omega)
      clear y1 y2
      go_wp2
      go_ret
      exact ⟨y, by omega, by omega, rfl, cur2, grown_trans gr1 gr2⟩

theorem below_cur {w w1 w2 : World} {B g : Nat} (h : Below B w w1) (hB : B ≤ w.heap.size) (hg : w1.grownBy w2 (some g)) (hb : B ≤ g) : Below B w w2 :=
  h.grown hg (Nat.le_trans hB h.size) (fun k e => by injection e with e; omega)

set_option maxRecDepth 100000 in
set_option maxHeartbeats 1000000 in
theorem d_clamp (w : World) (len cap : Nat) (A : Option Addr) (hcode : Code w w.heap.size A len) :
    Calls Try.prog 11 #[.slice A len cap] w fun e w' => ∃ n a b : Int, e = .returned (.tuple #[.int .i64 n, .int .i64 a, .int .i64 b]) ∧ Below w.heap.size w w' := by
  go_enter Try.func11, Try.ntmps11
  go_wp2_with fail
  refine (d_new w w.heap.size len cap A (Nat.le_refl _) hcode).mono ?_
  rintro e w1 ⟨g, rfl, cur1, b1⟩
  go_wp2_with fail
  refine (d_once _ _ _ g len cap A cur1 (by omega)).mono ?_
  rintro e w2 ⟨t, rfl, cur2, gr2⟩
  have b2 := below_cur b1 (Nat.le_refl _) gr2 cur2.1
  cases t
  · go_wp2_with fail
    refine (d_below _ _ _ g len cap A cur2 (by omega)).mono ?_
    rintro e w3 ⟨x, x0, x1, x2, rfl, cur3, gr3⟩
    have x3 := x1 (by omega)
    clear x1 x2
    go_wp2_with fail
    refine (d_below _ _ _ g len cap A cur3 (by omega)).mono ?_
    rintro e w4 ⟨y, y0, y1, y2, rfl, cur4, gr4⟩
    have y3 := y1 (by omega)
    clear y1 y2
    go_wp2_with fail
    refine (d_below _ _ _ g len cap A cur4 (by omega)).mono ?_
    rintro e w5 ⟨z, z0, z1, z2, rfl, cur5, gr5⟩
    have z3 := z1 (by omega)
    clear z1 z2
    go_wp2
    go_ret3
    exact ⟨_, _, _, rfl, below_cur b2 (Nat.le_refl _) (grown_trans (grown_trans gr3 gr4) gr5) cur2.1⟩
  · go_wp2_with fail
    refine (d_number _ _ g len cap A cur2).mono ?_
    rintro e w3 ⟨x, x0, x1, rfl, cur3, gr3⟩
    go_wp2_with fail
    refine (d_number _ _ g len cap A cur3).mono ?_
    rintro e w4 ⟨y, y0, y1, rfl, cur4, gr4⟩
    go_wp2_with fail
    refine (d_number _ _ g len cap A cur4).mono ?_
    rintro e w5 ⟨z, z0, z1, rfl, cur5, gr5⟩
    go_wp2
    go_ret3
    exact ⟨_, _, _, rfl, below_cur b2 (Nat.le_refl _) (grown_trans (grown_trans gr3 gr4) gr5) cur2.1⟩

theorem clamp_low {n a b : Int} (h : b < a ∨ n < a) : clampOf n a b = a := by unfold clampOf; rw [if_pos h]
theorem clamp_high {n a b : Int} (h : ¬ b < a) (h1 : b < n) : clampOf n a b = b := by unfold clampOf; rw [if_neg (by omega), if_pos h1]
theorem clamp_mid {n a b : Int} (h1 : a ≤ n) (h2 : n ≤ b) : clampOf n a b = n := by unfold clampOf; rw [if_neg (by omega), if_neg (by omega)]

set_option maxRecDepth 100000 in
set_option maxHeartbeats 2000000 in
theorem w_FnClamped (a0 : Option Addr) (len cap : Nat) (zs : List Int) (w : World) (hr : IsRow .u8 w a0 len cap zs) :
    Calls Try.prog 3 #[.slice a0 len cap] w fun e w' => e = .returned (.bool true) ∧ Below w.heap.size w w' := by
  by_cases hbig : len ≤ 1048576
  · have hcode := code_of_row hr hbig
    have q3 : clampOf 7 3 5 = 5 := clamp_high (by omega) (by omega)
    go_enter Try.func3, Try.ntmps3
    go_wp2_with (first
      | (go_at_call 10; go_in)
      | (go_at_call 11; ((with_reducible refine (d_clamp _ len cap a0 hcode).mono ?_); rintro e w1 ⟨n, a, b, rfl, b1⟩)))
    by_cases h1 : b < a
    · have q1 := clamp_low (n := n) (a := a) (b := b) (Or.inl h1)
      go_wp2_with (go_at_call 12; ((with_reducible refine (i_clamp _ _ _ _).mono ?_); rintro e w' ⟨rfl, rfl⟩))
      go_ret
      exact ⟨rfl, b1⟩
    · by_cases h2 : n < a
      · have q1 := clamp_low (n := n) (a := a) (b := b) (Or.inr h2)
        have q2 := clamp_mid (n := a) (a := a) (b := b) (by omega) (by omega)
        go_wp2_with (go_at_call 12; ((with_reducible refine (i_clamp _ _ _ _).mono ?_); rintro e w' ⟨rfl, rfl⟩))
        go_ret
        exact ⟨rfl, b1⟩
      · by_cases h3 : b < n
        · have q1 := clamp_high (n := n) (a := a) (b := b) h1 h3
          have q2 := clamp_mid (n := b) (a := a) (b := b) (by omega) (by omega)
          go_wp2_with (go_at_call 12; ((with_reducible refine (i_clamp _ _ _ _).mono ?_); rintro e w' ⟨rfl, rfl⟩))
          go_ret
          exact ⟨rfl, b1⟩
        · have q1 := clamp_mid (n := n) (a := a) (b := b) (by omega) (by omega)
          go_wp2_with (go_at_call 12; ((with_reducible refine (i_clamp _ _ _ _).mono ?_); rintro e w' ⟨rfl, rfl⟩))
          go_ret
          exact ⟨rfl, b1⟩
  · go_enter Try.func3, Try.ntmps3
    go_wp2
    go_ret
    exact ⟨rfl, Below.refl _ _⟩
end Go.Proofs.Ytciebalkfeoabaa
