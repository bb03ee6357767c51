/- The walks of DrawFormatInt and of the law FnNumbers. -/
import Derived.Test.YtciebalkfeoabaaDoorDr2
import Derived.Test.YtciebalkfeoabaaDoorParse2
import Derived.Test.YtciebalkfeoabaaDoorM4
namespace Go.Proofs.YtciebalkfeoabaaDoor
open Go.RowKit

theorem mul_bd {a b : Int} (a0 : 0 ≤ a) (a1 : a < 1000000) (b0 : -1000000 ≤ b) (b1 : b < 1000000) : -1000000000000 ≤ a * b ∧ a * b ≤ 1000000000000 := by
  refine ⟨?_, ?_⟩
  · have h1 : a * (-1000000) ≤ a * b := Int.mul_le_mul_of_nonneg_left b0 a0
    omega
  · have h1 : a * b ≤ a * 1000000 := Int.mul_le_mul_of_nonneg_left (by omega) a0
    omega

set_option maxRecDepth 100000 in
set_option maxHeartbeats 1000000 in
theorem d_fmtint (w : World) (len cap : Nat) (A : Option Addr) (hcode : Code w w.heap.size A len) :
    Calls Tryd.prog 18 #[.slice A len cap] w fun e w' => ∃ n : Int, -9223372036854775808 ≤ n ∧ n ≤ 9223372036854775807 ∧ e = .returned (.int .i64 n) ∧ Below w.heap.size w w' := by
  go_enter Tryd.func18, Tryd.ntmps18
  go_wp2_with fail
  refine (d_new w w.heap.size len cap A (Nat.le_refl _) hcode).mono ?_
  rintro e w1 ⟨g, rfl, cur1, b1⟩
  go_wp2_with fail
  refine (d_once _ _ _ g len cap A cur1 (by omega)).mono ?_
  rintro e w2 ⟨t, rfl, cur2, gr2⟩
  have b2 := below_cur b1 (Nat.le_refl _) gr2 cur2.1
  cases t
  · go_wp2_with fail
    refine (d_number _ _ g len cap A cur2).mono ?_
    rintro e w3 ⟨x, x0, x1, rfl, cur3, gr3⟩
    go_wp2
    go_ret
    exact ⟨x, x0, x1, rfl, below_cur b2 (Nat.le_refl _) gr3 cur2.1⟩
  · go_wp2_with fail
    refine (d_below _ _ _ g len cap A cur2 (by omega)).mono ?_
    rintro e w3 ⟨x, x0, x1, x2, rfl, cur3, gr3⟩
    have x3 := x1 (by omega)
    clear x1 x2
    go_wp2_with fail
    refine (d_below _ _ _ g len cap A cur3 (by omega)).mono ?_
    rintro e w4 ⟨y, y0, y1, y2, rfl, cur4, gr4⟩
    have y3 := y1 (by omega)
    clear y1 y2
    obtain ⟨m0, m1⟩ := mul_bd (a := x) (b := y - 1000000) x0 x3 (by omega) (by omega)
    go_wp2
    go_ret
    exact ⟨x * (y - 1000000), by omega, by omega, rfl, below_cur b2 (Nat.le_refl _) (grown_trans gr3 gr4) cur2.1⟩

theorem i_fmtD (n : Int) (w : World) (h0 : -9223372036854775808 ≤ n) (h1 : n ≤ 9223372036854775807) (ht : TabI w) :
    Calls Tryd.prog 16 #[.int .i64 n] w fun e w' => e = .returned (.string (decStr n)) ∧ Below w.heap.size w w' := i_fmt n w h0 h1 ht
theorem decStr_pos (n : Int) (h0 : -9223372036854775808 ≤ n) (h1 : n ≤ 9223372036854775807) : 1 ≤ (decStr n).size ∧ (decStr n).size ≤ 21 := by
  rw [str_size, decStr_list]
  refine ⟨?_, Lib.itoa_length_le n h0 h1⟩
  unfold Lib.itoa
  split
  · simp
  · rw [Lib.decDigits]; split <;> simp

abbrev Tabs_FnNumbers (w : World) : Prop := TabI w
set_option maxRecDepth 100000 in
set_option maxHeartbeats 2000000 in
theorem w_FnNumbers (a0 : Option Addr) (len cap : Nat) (zs : List Int) (w : World) (hr : IsRow .u8 w a0 len cap zs) (ht : Tabs_FnNumbers w) :
    Calls Tryd.prog 4 #[.slice a0 len cap] w fun e w' => e = .returned (.bool true) ∧ Below w.heap.size w w' := by
  by_cases hbig : len ≤ 1048576
  · have hcode := code_of_row hr hbig
    go_enter Tryd.func4, Tryd.ntmps4
    go_wp2_with (first
      | (go_at_call 13; go_in)
      | (go_at_call 18; ((with_reducible refine (d_fmtint _ len cap a0 hcode).mono ?_); rintro e w1 ⟨n, n0, n1, rfl, b1⟩)))
    obtain ⟨z0, z1⟩ := decStr_pos n n0 n1
    have hne : ((decStr n).toList.isEmpty) = false := by rw [ByteArray.toList_eq]; rw [List.isEmpty_eq_false_iff_exists_mem]; exact ⟨_, List.getElem_mem (n := 0) (by rw [← str_size]; omega)⟩
    have hpu := Lib.hid (pu_text n)
    have hz : (decStr n).size ≤ 9223372036854775807 := by omega
    refine (i_fmtD n _ n0 n1 (TabI.below ht b1)).mono ?_
    rintro e w2 ⟨rfl, b2⟩
    have b12 := b1.trans (b2.mono b1.size)
    go_wp2_with fail
    refine (i_puint (decStr n) _ hz (TabI.below ht b12)).mono ?_
    rintro e w3 ⟨rfl, b3⟩
    have b13 := b12.trans (b3.mono b12.size)
    by_cases h0 : 0 ≤ n
    · by_cases h1 : n ≤ 1000000000
      · obtain ⟨p1, p2⟩ := hpu.out.1 ⟨h0, h1⟩
        go_wp2
        go_ret
        exact ⟨rfl, b13⟩
      · have p1 := hpu.out.2 (fun h => h1 h.2)
        go_wp2
        go_ret
        exact ⟨rfl, b13⟩
    · have p1 := hpu.out.2 (fun h => h0 h.1)
      go_wp2
      go_ret
      exact ⟨rfl, b13⟩
  · go_enter Tryd.func4, Tryd.ntmps4
    go_wp2
    go_ret
    exact ⟨rfl, Below.refl _ _⟩
end Go.Proofs.YtciebalkfeoabaaDoor
