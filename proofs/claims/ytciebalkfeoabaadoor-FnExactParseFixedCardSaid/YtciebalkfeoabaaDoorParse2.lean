/- The walks of impl.ParseUint and of the law FnExactParseUint. -/
import Derived.Test.YtciebalkfeoabaaDoorParse1
namespace Go.Proofs.YtciebalkfeoabaaDoor
open Go.RowKit

theorem sc_of_pu {s : ByteArray} (h : scOk s = false) : puOk s = false := by
  refine pu_not fun hh => ?_
  have h0 : ¬ 1 ≤ s.size := fun h1 => by rw [sc_yes h1 hh.1 hh.2.1] at h; cases h
  have hz : s.size = 0 := by omega
  have h3 := hh.2.2.2
  rw [hz, numTo_zero, show (0 : Int) = ((0 : Nat) : Int) from rfl, Lib.itoa_nonneg, Lib.decDigits_one (by omega)] at h3
  have := congrArg List.length h3
  rw [← str_size, hz] at this
  cases this
theorem sc_facts {s : ByteArray} (h : scOk s = true) : 1 ≤ s.size ∧ s.size ≤ 10 ∧ allDig s s.size ∧ scVal s = numTo s s.size := by
  have h' := h
  unfold scOk at h'
  simp only [decide_eq_true_eq] at h'
  exact ⟨h'.1, h'.2.1, h'.2.2, by unfold scVal; rw [h]; rfl⟩

set_option maxHeartbeats 1000000 in
theorem i_puint (s : ByteArray) (w : World) (hs : s.size ≤ 9223372036854775807) (ht : TabI w) :
    Calls Tryd.prog 19 #[.string s] w fun e w' => e = .returned (.tuple #[.int .i64 (puVal s), .bool (puOk s)]) ∧ Below w.heap.size w w' := by
  by_cases hsc : scOk s = true
  · obtain ⟨h1, h10, hd, hv⟩ := sc_facts hsc
    obtain ⟨n0, n1⟩ := numTo_bd hd h10
    by_cases h9 : 1000000000 < numTo s s.size
    · have hno := Lib.hid (pu_no (s := s) (pu_not (fun h => by have := h.2.2.1; omega)))
      clear hd
      go_enter Tryd.func19, Tryd.ntmps19
      go_wp2_with (go_at_call 43; ((with_reducible refine (i_scan _ _ hs).mono ?_); rintro e w1 ⟨rfl, rfl⟩))
      go_ret2
      exact ⟨hno.out, Below.refl _ _⟩
    · by_cases hq : Lib.itoa (numTo s s.size) = s.data.toList
      · have hy := Lib.hid (pu_yes h10 hd (by omega) hq)
        have hb : (Lib.itoa (numTo s s.size) == s.toList) = true := by rw [ByteArray.toList_eq]; simpa using hq
        clear hd hq
        go_enter Tryd.func19, Tryd.ntmps19
        go_wp2_with (first
          | (go_at_call 43; ((with_reducible refine (i_scan _ _ hs).mono ?_); rintro e w1 ⟨rfl, rfl⟩))
          | (go_at_call 16; ((with_reducible refine (i_fmt _ _ (by omega) (by omega) ht).mono ?_); rintro e w1 ⟨rfl, b1⟩)))
        go_ret2
        exact ⟨hy.out, b1⟩
      · have hno := Lib.hid (pu_no (s := s) (pu_not (fun h => hq h.2.2.2)))
        have hb : (Lib.itoa (numTo s s.size) == s.toList) = false := by rw [ByteArray.toList_eq]; simpa using hq
        clear hd hq
        go_enter Tryd.func19, Tryd.ntmps19
        go_wp2_with (first
          | (go_at_call 43; ((with_reducible refine (i_scan _ _ hs).mono ?_); rintro e w1 ⟨rfl, rfl⟩))
          | (go_at_call 16; ((with_reducible refine (i_fmt _ _ (by omega) (by omega) ht).mono ?_); rintro e w1 ⟨rfl, b1⟩)))
        go_ret2
        exact ⟨hno.out, b1⟩
  · have hsc' : scOk s = false := by simpa using hsc
    have hno := Lib.hid (pu_no (s := s) (sc_of_pu hsc'))
    clear hsc
    go_enter Tryd.func19, Tryd.ntmps19
    go_wp2_with (go_at_call 43; ((with_reducible refine (i_scan _ _ hs).mono ?_); rintro e w1 ⟨rfl, rfl⟩))
    go_ret2
    exact ⟨hno.out, Below.refl _ _⟩

abbrev Tabs_FnExactParseUint (w : World) : Prop := TabI w
set_option maxHeartbeats 400000 in
theorem w_FnExactParseUint (s : ByteArray) (w : World) (hs : s.size ≤ maxLen) (ht : Tabs_FnExactParseUint w) :
    Calls Tryd.prog 9 #[.string s] w fun e w' => e = .returned (.bool true) ∧ Below w.heap.size w w' := by
  unfold maxLen at hs
  by_cases h : s.size ≤ 1048576
  · go_enter Tryd.func9, Tryd.ntmps9
    go_wp2_with (first
      | (go_at_call 29; ((with_reducible refine (s_puint_any _ _ h).mono ?_); rintro e w1 ⟨rfl, b1⟩))
      | (go_at_call 19; ((with_reducible refine (i_puint _ _ hs (TabI.below ht b1)).mono ?_); rintro e w2 ⟨rfl, b2⟩)))
    go_ret
    exact ⟨rfl, b1.trans (b2.mono b1.size)⟩
  · go_enter Tryd.func9, Tryd.ntmps9
    go_wp2
    all_goals go_ret
    all_goals exact ⟨rfl, Below.refl _ _⟩
end Go.Proofs.YtciebalkfeoabaaDoor
