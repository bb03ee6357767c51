/- The walks of DrawFormatFixed and of the law FnFixedText. -/
import Derived.Test.YtciebalkfeoabaaDoorDr2
import Derived.Test.YtciebalkfeoabaaDoorPFix1
namespace Go.Proofs.YtciebalkfeoabaaDoor
open Go.RowKit

set_option maxRecDepth 100000 in
set_option maxHeartbeats 1000000 in
theorem d_fmtfix (w : World) (len cap : Nat) (A : Option Addr) (hcode : Code w w.heap.size A len) :
    Calls Tryd.prog 24 #[.slice A len cap] w fun e w' => ∃ n : Int, -9223372036854775808 ≤ n ∧ n ≤ 9223372036854775807 ∧ e = .returned (.int .i64 n) ∧ Below w.heap.size w w' := by
  go_enter Tryd.func24, Tryd.ntmps24
  go_wp2_with fail
  refine (d_new w w.heap.size len cap A (Nat.le_refl _) hcode).mono ?_
  rintro e w1 ⟨g, rfl, cur1, b1⟩
  go_wp2_with fail
  refine (d_below _ _ _ g len cap A cur1 (by omega)).mono ?_
  rintro e w2 ⟨x, x0, x1, x2, rfl, cur2, gr2⟩
  have x3 := x1 (by omega)
  clear x1 x2
  have b2 := below_cur b1 (Nat.le_refl _) gr2 cur2.1
  by_cases hx0 : x = 0
  · subst hx0
    go_wp2_with fail
    refine (d_number _ _ g len cap A cur2).mono ?_
    rintro e w3 ⟨y, y0, y1, rfl, cur3, gr3⟩
    go_wp2
    go_ret
    exact ⟨y, y0, y1, rfl, below_cur b2 (Nat.le_refl _) gr3 cur2.1⟩
  · by_cases hx1 : x = 1
    · subst hx1
      go_wp2_with fail
      have hlt := cur2.lt
      refine (d_pickint _ _ g len cap w2.heap.size 7 7 A 3 [1000000000, 1000000001, -1000000000, -1000000001, 999, 1000, -1] (cur2.alloc _) rfl (by omega) (by omega) (by omega) (by intro x hx; simp at hx; omega) (heap_alloc_new w2 _)).mono ?_
      rintro e w3 ⟨y, y0, y1, rfl, cur3, gr3⟩
      go_wp2
      go_ret
      exact ⟨y, y0, y1, rfl, below_cur b2 (Nat.le_refl _) (grown_trans (World.grownBy_alloc w2 _ _) gr3) cur2.1⟩
    · have e0 : (x == 0) = false := by simpa using hx0
      have e1 : (x == 1) = false := by simpa using hx1
      go_wp2_with fail
      refine (d_below _ _ _ g len cap A cur2 (by omega)).mono ?_
      rintro e w3 ⟨y, y0, y1, y2, rfl, cur3, gr3⟩
      have y3 := y1 (by omega)
      clear y1 y2
      go_wp2
      go_ret
      exact ⟨y - 2000000, by omega, by omega, rfl, below_cur b2 (Nat.le_refl _) gr3 cur2.1⟩

theorem fixText_size {n : Int} (h0 : -1000000000 ≤ n) (h1 : n ≤ 1000000000) : 1 ≤ (fixText n).size ∧ (fixText n).size ≤ 20 := by
  rw [str_size]
  have hm : ∀ m : Nat, m ≤ 1000000000 → 1 ≤ (fixL m).length ∧ (fixL m).length ≤ 14 := fun m hm => by
    obtain ⟨_, _, _, _, h2, h3⟩ := fixL_head m
    have := nDigits_le10 (m / 1000) (by omega)
    omega
  by_cases hn : n < 0
  · obtain ⟨m, rfl⟩ : ∃ m : Nat, n = -(m : Int) := ⟨n.natAbs, by omega⟩
    rw [fixText_neg m (by omega) (by omega), List.length_cons]
    have := hm m (by omega); omega
  · obtain ⟨m, rfl⟩ : ∃ m : Nat, n = m := ⟨n.toNat, by omega⟩
    rw [fixText_pos m (by omega)]
    have := hm m (by omega); omega
theorem fixText_le (n : Int) : (fixText n).size ≤ 20 := by
  by_cases h : -1000000000 ≤ n ∧ n ≤ 1000000000
  · exact (fixText_size h.1 h.2).2
  · rw [fixText_out h]; decide
theorem some_str {s : ByteArray} (h : 1 ≤ s.size) : (s.toList.isEmpty) = false := by
  rw [ByteArray.toList_eq]; rw [List.isEmpty_eq_false_iff_exists_mem]; exact ⟨_, List.getElem_mem (n := 0) (by rw [← str_size]; omega)⟩

abbrev Tabs_FnFixedText (w : World) : Prop := TabI w ∧ w.ShapedOpen Tryd.prog
set_option maxRecDepth 100000 in
set_option maxHeartbeats 2000000 in
theorem w_FnFixedText (a0 : Option Addr) (len cap : Nat) (zs : List Int) (w : World) (hr : IsRow .u8 w a0 len cap zs) (hts : Tabs_FnFixedText w) :
    Calls Tryd.prog 6 #[.slice a0 len cap] w fun e w' => e = .returned (.bool true) ∧ Below w.heap.size w w' := by
  obtain ⟨ht, hsh⟩ := hts
  have hm := TabM.of hsh
  clear hsh
  by_cases hbig : len ≤ 1048576
  · have hcode := code_of_row hr hbig
    go_enter Tryd.func6, Tryd.ntmps6
    go_wp2_with (first
      | (go_at_call 13; go_in)
      | (go_at_call 24; ((with_reducible refine (d_fmtfix _ len cap a0 hcode).mono ?_); rintro e w1 ⟨n, n0, n1, rfl, b1⟩)))
    refine (i_ff n _ (TabI.below ht b1)).mono ?_
    rintro e w2 ⟨rfl, b2⟩
    have b12 := b1.trans (b2.mono b1.size)
    go_wp2_with fail
    have hz := fixText_le n
    refine (i_pf (fixText n) _ (by omega) (TabI.below ht b12) (TabM.below hm b12)).mono ?_
    rintro e w3 ⟨rfl, b3⟩
    have b13 := b12.trans (b3.mono b12.size)
    by_cases h0 : -1000000000 ≤ n
    · by_cases h1 : n ≤ 1000000000
      · obtain ⟨p1, p2⟩ := pf_text h0 h1
        have hs := some_str (fixText_size h0 h1).1
        go_wp2
        go_ret
        exact ⟨rfl, b13⟩
      · have hf := fixText_out (n := n) (fun h => h1 h.2)
        obtain ⟨p1, p2⟩ := pf_empty
        rw [hf] at *
        go_wp2
        go_ret
        exact ⟨rfl, b13⟩
    · have hf := fixText_out (n := n) (fun h => h0 h.1)
      obtain ⟨p1, p2⟩ := pf_empty
      rw [hf] at *
      go_wp2
      go_ret
      exact ⟨rfl, b13⟩
  · go_enter Tryd.func6, Tryd.ntmps6
    go_wp2
    go_ret
    exact ⟨rfl, Below.refl _ _⟩
end Go.Proofs.YtciebalkfeoabaaDoor
