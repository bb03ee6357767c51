/- The drawing of heights; the walks of the laws FnExactHeightAt and FnHeights. -/
import Derived.Test.YtbklmfchbojboaaDoorHtA
import Derived.Deep.RegionHeld3
namespace Go.Proofs.YtbklmfchbojboaaDoor
open Go.RowKit
set_option linter.unusedVariables false
set_option linter.unusedSimpArgs false

theorem fell_turn (h l m : Int) : fell l h m = - fell h l m := by
  unfold fell
  rw [show l - h = -(h - l) by omega, Int.neg_mul, Int.neg_tdiv]
theorem hgt_sum (h l m : Int) : hgt h l m + hgt l h m = h + l := by
  unfold hgt; rw [fell_turn h l m]; omega
theorem hgt_first (h l : Int) : hgt h l 0 = h := by
  unfold hgt fell
  rw [show ovr 0 6 = 0 by decide, Int.mul_zero, Int.zero_tdiv]; omega
theorem hgt_last (h l : Int) : hgt h l 360 = l := by
  unfold hgt fell
  rw [show ovr 360 6 = 720 by decide, Int.mul_tdiv_cancel _ (by decide)]; omega
theorem fell_le (h l m : Int) (hd : l ≤ h) : 0 ≤ fell h l m ∧ fell h l m ≤ h - l := by
  obtain ⟨o0, o1⟩ := ovr_six m
  have a := Int.mul_nonneg (show 0 ≤ h - l by omega) o0
  have b := Int.mul_le_mul (Int.le_refl (h - l)) o1 o0 (by omega)
  unfold fell
  rw [Int.tdiv_eq_ediv_of_nonneg a]
  omega
theorem hgt_between (h l m : Int) : (l ≤ h → l ≤ hgt h l m ∧ hgt h l m ≤ h) ∧ (h ≤ l → h ≤ hgt h l m ∧ hgt h l m ≤ l) := by
  refine ⟨fun hd => ?_, fun hd => ?_⟩
  · have := fell_le h l m hd
    unfold hgt; omega
  · have := fell_le l h m hd
    rw [fell_turn h l m] at this
    unfold hgt; omega

abbrev Tabs_FnExactHeightAt (w : World) : Prop := TabT w
abbrev Tabs_FnHeights (w : World) : Prop := TabT w

set_option maxRecDepth 100000 in
set_option maxHeartbeats 2000000 in
theorem w_FnExactHeightAt (high low m : Int) (w : World) (_ : (Lit.int .i64 high).wf = true) (_ : (Lit.int .i64 low).wf = true) (_ : (Lit.int .i64 m).wf = true) (ht : Tabs_FnExactHeightAt w) :
    Calls Tryd.prog 4 #[.int .i64 high, .int .i64 low, .int .i64 m] w fun e w' => e = .returned (.bool true) ∧ Below w.heap.size w w' := by
  by_cases hok : HtOk high low m
  · go_enter Tryd.func4, Tryd.ntmps4
    go_wp2_with (first
      | (go_at_call 8; ((with_reducible refine (s_ht _ _ _ _ hok).mono ?_); rintro e w1 ⟨rfl, b1⟩))
      | (go_at_call 7; ((with_reducible refine (i_ht _ _ _ _ hok (ht.below b1)).mono ?_); rintro e w' ⟨rfl, rfl⟩)))
    go_ret
    exact ⟨rfl, b1⟩
  · go_enter Tryd.func4, Tryd.ntmps4
    go_wp2_with (first
      | (go_at_call 8; ((with_reducible refine (s_ht_no _ _ _ _ hok).mono ?_); rintro e w' ⟨rfl, rfl⟩))
      | (go_at_call 7; ((with_reducible refine (i_ht_no _ _ _ _ hok).mono ?_); rintro e w' ⟨rfl, rfl⟩)))
    go_ret
    exact ⟨rfl, Below.refl _ _⟩

set_option maxRecDepth 100000 in
set_option maxHeartbeats 1000000 in
theorem d_height (w : World) (len cap : Nat) (A : Option Addr) (hcode : Code w w.heap.size A len) :
    Calls Tryd.prog 6 #[.slice A len cap] w fun e w' => ∃ h l m : Int, e = .returned (.tuple #[.int .i64 h, .int .i64 l, .int .i64 m]) ∧ Below w.heap.size w w' := by
  go_enter Tryd.func6, Tryd.ntmps6
  go_wp2_with fail
  refine (d_new w w.heap.size len cap A (Nat.le_refl _) hcode).mono ?_
  rintro e w1 ⟨g, rfl, cur1, b1⟩
  go_wp2_with fail
  refine (d_below _ _ _ g len cap A cur1 (by omega)).mono ?_
  rintro e w2 ⟨x, x0, x1, x2, rfl, cur2, gr2⟩
  have x3 := x1 (by omega)
  have b2 := below_cur b1 (Nat.le_refl _) gr2 cur1.1
  clear x1 x2
  go_wp2_with fail
  refine (d_below _ _ _ g len cap A cur2 (by omega)).mono ?_
  rintro e w3 ⟨y, y0, y1, y2, rfl, cur3, gr3⟩
  have y3 := y1 (by omega)
  have b3 := below_cur b2 (Nat.le_refl _) gr3 cur1.1
  clear y1 y2
  go_wp2_with fail
  refine (d_once _ _ _ g len cap A cur3 (by omega)).mono ?_
  rintro e w4 ⟨t, rfl, cur4, gr4⟩
  have b4 := below_cur b3 (Nat.le_refl _) gr4 cur1.1
  cases t
  all_goals
    first
      | (go_wp2_with fail
         refine (d_number _ _ g len cap A cur4).mono ?_
         rintro e w5 ⟨z, z0, z1, rfl, cur5, gr5⟩
         have b5 := below_cur b4 (Nat.le_refl _) gr5 cur1.1
         go_wp2_with fail)
      | (have b5 := b4
         have cur5 := cur4
         go_wp2_with fail)
    refine (d_below _ _ _ g len cap A cur5 (by omega)).mono ?_
    rintro e w6 ⟨k, k0, k1, k2, rfl, cur6, gr6⟩
    have k3 := k1 (by omega)
    have b6 := below_cur b5 (Nat.le_refl _) gr6 cur1.1
    clear k1 k2
    by_cases hk0 : k = 0
    · subst hk0
      go_wp2_with fail
      refine (d_below _ _ _ g len cap A cur6 (by omega)).mono ?_
      rintro e w7 ⟨u, u0, u1, u2, rfl, cur7, gr7⟩
      have u3 := u1 (by omega)
      have b7 := below_cur b6 (Nat.le_refl _) gr7 cur1.1
      clear u1 u2
      go_wp2
      go_ret3
      exact ⟨_, _, _, rfl, b7⟩
    · have e0 : (k == 0) = false := by simpa using hk0
      by_cases hk1 : k = 1
      · subst hk1
        go_wp2_with fail
        refine (d_number _ _ g len cap A cur6).mono ?_
        rintro e w7 ⟨u, u0, u1, rfl, cur7, gr7⟩
        have b7 := below_cur b6 (Nat.le_refl _) gr7 cur1.1
        go_wp2
        go_ret3
        exact ⟨_, _, _, rfl, b7⟩
      · have e1 : (k == 1) = false := by simpa using hk1
        go_wp2_with fail
        refine (d_below _ _ _ g len cap A cur6 (by omega)).mono ?_
        rintro e w7 ⟨u, u0, u1, u2, rfl, cur7, gr7⟩
        have b7 := below_cur b6 (Nat.le_refl _) gr7 cur1.1
        go_wp2
        go_ret3
        exact ⟨_, _, _, rfl, b7⟩

set_option maxRecDepth 100000 in
set_option maxHeartbeats 4000000 in
theorem w_FnHeights (a0 : Option Addr) (len cap : Nat) (zs : List Int) (w : World) (hr : IsRow .u8 w a0 len cap zs) (ht : Tabs_FnHeights w) :
    Calls Tryd.prog 3 #[.slice a0 len cap] w fun e w' => e = .returned (.bool true) ∧ Below w.heap.size w w' := by
  by_cases hbig : len ≤ 1048576
  · have hcode := code_of_row hr hbig
    go_enter Tryd.func3, Tryd.ntmps3
    go_wp2_with (first
      | (go_at_call 5; go_in)
      | (go_at_call 6; ((with_reducible refine (d_height _ len cap a0 hcode).mono ?_); rintro e w1 ⟨h, l, m, rfl, b1⟩)))
    by_cases hok : HtOk h l m
    · have hok2 : HtOk l h m := ⟨hok.2.1, hok.1, hok.2.2⟩
      have hok3 : HtOk h l 0 := ⟨hok.1, hok.2.1, by omega, by omega⟩
      have hok4 : HtOk h l 360 := ⟨hok.1, hok.2.1, by omega, by omega⟩
      have t1 := ht.below b1
      have D1 := fun w h => i_ht _ _ _ w hok h
      have D2 := fun w h => i_ht _ _ _ w hok2 h
      have D3 := fun w h => i_ht _ _ _ w hok3 h
      have D4 := fun w h => i_ht _ _ _ w hok4 h
      rw [hgt_first] at D3
      rw [hgt_last] at D4
      have hs := hgt_sum h l m
      obtain ⟨q1, q2⟩ := hgt_between h l m
      obtain ⟨⟨h0, h1⟩, ⟨l0, l1⟩, _⟩ := id hok
      have D5 := fun w => s_ht _ _ _ w hok
      have hx : -1000000000 ≤ hgt h l m ∧ hgt h l m ≤ 1000000000 := by rcases Int.le_total l h with hh | hh; have := q1 hh; omega; have := q2 hh; omega
      generalize hgt h l m = x at *
      generalize hgt l h m = y at *
      obtain rfl : y = h + l - x := by omega
      obtain ⟨x0, x1⟩ := hx
      clear hs hok hok2 hok3 hok4
      have hcase : (l < h ∧ l ≤ x ∧ x ≤ h) ∨ (h < l ∧ h ≤ x ∧ x ≤ l) ∨ (h ≤ l ∧ l ≤ h ∧ x ≤ h ∧ h ≤ x) := by
        rcases Int.lt_or_le h l with hh | hh
        · exact .inr (.inl ⟨hh, q2 (by omega)⟩)
        · rcases Int.lt_or_le l h with h2 | h2
          · exact .inl ⟨h2, q1 hh⟩
          · exact .inr (.inr ⟨h2, hh, by have := q1 hh; omega, by have := q1 hh; omega⟩)
      clear q1 q2
      rcases hcase with ⟨c1, c2, c3⟩ | ⟨c1, c2, c3⟩ | ⟨c1, c2, c3, c4⟩
      case' inr.inr =>
        obtain rfl : h = l := by omega
        obtain rfl : x = h := by omega
      all_goals
        go_wp2_with (first
          | (go_at_call 7; (first
              | ((with_reducible refine (D1 _ t1).mono ?_); rintro e w' ⟨rfl, rfl⟩)
              | ((with_reducible refine (D2 _ t1).mono ?_); rintro e w' ⟨rfl, rfl⟩)
              | ((with_reducible refine (D3 _ (t1.below b2)).mono ?_); rintro e w' ⟨rfl, rfl⟩)
              | ((with_reducible refine (D4 _ (t1.below b2)).mono ?_); rintro e w' ⟨rfl, rfl⟩)))
          | (go_at_call 8; ((with_reducible refine (D5 _).mono ?_); rintro e w2 ⟨rfl, b2⟩)))
        go_ret
        exact ⟨rfl, b1.trans (b2.mono b1.size)⟩
    · have hok2 : ¬ HtOk l h m := fun hh => hok ⟨hh.2.1, hh.1, hh.2.2⟩
      go_wp2_with (first
        | (go_at_call 7; (first
            | ((with_reducible refine (i_ht_no _ _ _ _ hok).mono ?_); rintro e w' ⟨rfl, rfl⟩)
            | ((with_reducible refine (i_ht_no _ _ _ _ hok2).mono ?_); rintro e w' ⟨rfl, rfl⟩)))
        | (go_at_call 8; ((with_reducible refine (s_ht_no _ _ _ _ hok).mono ?_); rintro e w' ⟨rfl, rfl⟩)))
      go_ret
      exact ⟨rfl, b1⟩
  · go_enter Tryd.func3, Tryd.ntmps3
    have hb2 : (1048576 : Int) < (len : Int) := by omega
    go_wp2_with (go_at_call 5; go_in)
    go_ret
    exact ⟨rfl, Below.refl _ _⟩
end Go.Proofs.YtbklmfchbojboaaDoor
