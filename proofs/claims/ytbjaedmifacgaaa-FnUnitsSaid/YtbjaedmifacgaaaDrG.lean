/- The drawing of degrees: l02Degrees, DrawBetween, DrawAside, DrawTurn; the walk of the law FnBetweenAside. -/
import Derived.Test.YtbjaedmifacgaaaDr2
import Derived.Test.YtbjaedmifacgaaaDeg
namespace Go.Proofs.Ytbjaedmifacgaaa
open Go.RowKit

theorem tdiv_two (x : Int) (x0 : -9223372036854775808 ≤ x) (x1 : x ≤ 9223372036854775807) : -4611686018427387904 ≤ x.tdiv 2 ∧ x.tdiv 2 ≤ 4611686018427387903 := by
  rcases Int.le_total 0 x with h | h
  · rw [Int.tdiv_eq_ediv_of_nonneg h]; omega
  · obtain ⟨m, rfl⟩ : ∃ m, x = -m := ⟨-x, by omega⟩
    rw [Int.neg_tdiv, Int.tdiv_eq_ediv_of_nonneg (by omega)]; omega

set_option maxRecDepth 100000 in
set_option maxHeartbeats 1000000 in
theorem d_degrees (w : World) (B g len cap : Nat) (A : Option Addr) (hc : Cur w B g A len cap) :
    Calls Try.prog 38 #[.pointer (some ⟨g, 0, none⟩)] w fun e w' => ∃ x : Int, -4611686018427390000 ≤ x ∧ x ≤ 4611686018427390000 ∧ e = .returned (.int .i64 x) ∧ Cur w' B g A len cap ∧ w.grownBy w' (some g) := by
  go_enter Try.func38, Try.ntmps38
  go_wp2_with fail
  refine (d_once _ _ _ g len cap A hc (by omega)).mono ?_
  rintro e w1 ⟨t, rfl, cur1, gr1⟩
  cases t
  · go_wp2_with fail
    refine (d_below _ _ _ g len cap A cur1 (by omega)).mono ?_
    rintro e w2 ⟨x, x0, x1, x2, rfl, cur2, gr2⟩
    have x3 := x1 (by omega)
    clear x1 x2
    go_wp2
    go_ret
    exact ⟨x, by omega, by omega, rfl, cur2, grown_trans gr1 gr2⟩
  · go_wp2_with fail
    refine (d_number _ _ g len cap A cur1).mono ?_
    rintro e w2 ⟨x, x0, x1, rfl, cur2, gr2⟩
    obtain ⟨y0, y1⟩ := tdiv_two x x0 x1
    go_wp2
    go_ret
    exact ⟨x.tdiv 2 - 200, by omega, by omega, rfl, cur2, grown_trans gr1 gr2⟩
set_option maxRecDepth 100000 in
set_option maxHeartbeats 1000000 in
theorem d_turn (w : World) (len cap : Nat) (A : Option Addr) (hcode : Code w w.heap.size A len) :
    Calls Try.prog 15 #[.slice A len cap] w fun e w' => ∃ a : Int, -4611686018427390000 ≤ a ∧ a ≤ 4611686018427390000 ∧ e = .returned (.int .i64 a) ∧ Below w.heap.size w w' := by
  go_enter Try.func15, Try.ntmps15
  go_wp2_with fail
  refine (d_new w w.heap.size len cap A (Nat.le_refl _) hcode).mono ?_
  rintro e w1 ⟨g, rfl, cur1, b1⟩
  go_wp2_with fail
  refine (d_degrees _ _ g len cap A cur1).mono ?_
  rintro e w2 ⟨a, a0, a1, rfl, cur2, gr2⟩
  go_wp2
  go_ret
  exact ⟨a, a0, a1, rfl, below_cur b1 (Nat.le_refl _) gr2 cur1.1⟩
set_option maxRecDepth 100000 in
set_option maxHeartbeats 1000000 in
theorem d_between (w : World) (len cap : Nat) (A : Option Addr) (hcode : Code w w.heap.size A len) :
    Calls Try.prog 49 #[.slice A len cap] w fun e w' => ∃ a b : Int, -4611686018427390000 ≤ a ∧ a ≤ 4611686018427390000 ∧ -4611686018427390000 ≤ b ∧ b ≤ 4611686018427390180 ∧ e = .returned (.tuple #[.int .i64 a, .int .i64 b]) ∧ Below w.heap.size w w' := by
  go_enter Try.func49, Try.ntmps49
  go_wp2_with fail
  refine (d_new w w.heap.size len cap A (Nat.le_refl _) hcode).mono ?_
  rintro e w1 ⟨g, rfl, cur1, b1⟩
  go_wp2_with fail
  refine (d_degrees _ _ g len cap A cur1).mono ?_
  rintro e w2 ⟨a, a0, a1, rfl, cur2, gr2⟩
  have b2 := below_cur b1 (Nat.le_refl _) gr2 cur1.1
  go_wp2_with fail
  refine (d_once _ _ _ g len cap A cur2 (by omega)).mono ?_
  rintro e w3 ⟨t, rfl, cur3, gr3⟩
  have b3 := below_cur b2 (Nat.le_refl _) gr3 cur2.1
  cases t
  · go_wp2_with fail
    refine (d_degrees _ _ g len cap A cur3).mono ?_
    rintro e w4 ⟨b, c0, c1, rfl, cur4, gr4⟩
    go_wp2
    go_ret2
    exact ⟨a, b, a0, a1, c0, by omega, rfl, below_cur b3 (Nat.le_refl _) gr4 cur3.1⟩
  · go_wp2
    go_ret2
    exact ⟨a, a + 180, a0, a1, by omega, by omega, rfl, b3⟩
set_option maxHeartbeats 400000 in
theorem d_aside (w : World) (len cap : Nat) (A : Option Addr) (hcode : Code w w.heap.size A len) :
    Calls Try.prog 23 #[.slice A len cap] w fun e w' => ∃ a b : Int, -4611686018427390000 ≤ a ∧ a ≤ 4611686018427390000 ∧ -4611686018427390000 ≤ b ∧ b ≤ 4611686018427390180 ∧ e = .returned (.tuple #[.int .i64 a, .int .i64 b]) ∧ Below w.heap.size w w' := by
  go_enter Try.func23, Try.ntmps23
  go_wp2_with fail
  refine (d_between w len cap A hcode).mono ?_
  rintro e w1 ⟨a, b, a0, a1, c0, c1, rfl, b1⟩
  go_wp2
  go_ret2
  exact ⟨a, b, a0, a1, c0, c1, rfl, b1⟩

set_option maxRecDepth 100000 in
set_option maxHeartbeats 2000000 in
theorem w_FnBetweenAside (a0 : Option Addr) (len cap : Nat) (zs : List Int) (w : World) (hr : IsRow .u8 w a0 len cap zs) :
    Calls Try.prog 6 #[.slice a0 len cap] w fun e w' => e = .returned (.bool true) ∧ Below w.heap.size w w' := by
  by_cases hbig : len ≤ 1048576
  · have hcode := code_of_row hr hbig
    go_enter Try.func6, Try.ntmps6
    go_wp2_with (first
      | (go_at_call 12; go_in)
      | (go_at_call 23; ((with_reducible refine (d_aside _ len cap a0 hcode).mono ?_); rintro e w1 ⟨a, b, _, _, _, _, rfl, b1⟩)))
    obtain ⟨d, hd⟩ : ∃ d, asd a b = d := ⟨_, rfl⟩
    obtain ⟨n, hn⟩ : ∃ n, btw a b = n := ⟨_, rfl⟩
    have hn2 : btw b a = n := by rw [← hn]; unfold btw; split <;> split <;> omega
    have hd0 : -179 ≤ d ∧ d ≤ 180 := by rw [← hd]; unfold asd; split <;> omega
    have hm : (a % 360 + d) % 360 = b % 360 := by rw [← hd]; unfold asd; split <;> omega
    have hx : (0 ≤ d ∧ n = d) ∨ (d < 0 ∧ n = -d) := by rw [← hd, ← hn]; unfold asd btw; split <;> omega
    have ci := fun w => i_asd a b w
    have cn := fun w => i_btw a b w
    have cm := fun w => i_btw b a w
    rw [hd] at ci
    rw [hn] at cn
    rw [hn2] at cm
    clear hd hn hn2
    have la := fun w => l_deg a w
    have lb := fun w => l_deg b w
    have ls := fun w => l_deg (a % 360 + d) w
    rw [hm] at ls
    have hA : 0 ≤ a % 360 ∧ a % 360 < 360 := by omega
    clear hm
    generalize a % 360 = x at *
    generalize b % 360 = y at *
    rcases hx with ⟨h1, rfl⟩ | ⟨h1, rfl⟩
    all_goals
      go_wp2_with (first
        | (go_at_call 24; ((with_reducible refine (ci _).mono ?_); rintro e w' ⟨rfl, rfl⟩))
        | (go_at_call 25; ((with_reducible refine (cn _).mono ?_); rintro e w' ⟨rfl, rfl⟩))
        | (go_at_call 25; ((with_reducible refine (cm _).mono ?_); rintro e w' ⟨rfl, rfl⟩))
        | (go_at_call 18; ((with_reducible refine (la _).mono ?_); rintro e w' ⟨rfl, rfl⟩))
        | (go_at_call 18; ((with_reducible refine (lb _).mono ?_); rintro e w' ⟨rfl, rfl⟩))
        | (go_at_call 18; ((with_reducible refine (ls _).mono ?_); rintro e w' ⟨rfl, rfl⟩)))
      go_ret
      exact ⟨rfl, b1⟩
  · go_enter Try.func6, Try.ntmps6
    go_wp2
    go_ret
    exact ⟨rfl, Below.refl _ _⟩
end Go.Proofs.Ytbjaedmifacgaaa
