/- The walk of the law FnExactDecodeHex. -/
import Derived.Test.YtciebalkfeoabaaHex4
import Derived.Test.YtciebalkfeoabaaHex5
namespace Go.Proofs.Ytciebalkfeoabaa
open Go.RowKit

set_option maxHeartbeats 400000 in
theorem s_dec_no (s : ByteArray) (w : World) (hm : s.size ≤ maxLen) (h : 40000 < s.size ∨ s.size % 2 ≠ 0) :
    Calls Try.prog 18 #[.string s] w fun e w' => e = .returned (.tuple #[.string ⟨#[]⟩, .bool false]) ∧ w = w' := by
  unfold maxLen at hm
  by_cases h1 : 40000 < s.size
  · clear h
    go_enter Try.func18, Try.ntmps18
    go_wp2
    all_goals go_ret2
    all_goals exact ⟨rfl, rfl⟩
  · have h2 : (s.size : Int) % 2 = 1 := by omega
    clear h
    go_enter Try.func18, Try.ntmps18
    go_wp2
    all_goals go_ret2
    all_goals exact ⟨rfl, rfl⟩

set_option maxHeartbeats 400000 in
theorem i_dec_no (s : ByteArray) (w : World) (hm : s.size ≤ maxLen) (h : 40000 < s.size ∨ s.size % 2 ≠ 0) :
    Calls Try.prog 19 #[.string s] w fun e w' => e = .returned (.tuple #[.string ⟨#[]⟩, .bool false]) ∧ w = w' := by
  unfold maxLen at hm
  by_cases h1 : s.size % 2 = 0
  · have h2 : (s.size : Int) % 2 = 0 := by omega
    have h3 : 40000 < s.size := by omega
    clear h
    go_enter Try.func19, Try.ntmps19
    go_wp2
    all_goals go_ret2
    all_goals exact ⟨rfl, rfl⟩
  · have h2 : (s.size : Int) % 2 = 1 := by omega
    clear h
    go_enter Try.func19, Try.ntmps19
    go_wp2
    all_goals go_ret2
    all_goals exact ⟨rfl, rfl⟩

set_option maxHeartbeats 400000 in
theorem w_FnExactDecodeHex (s : ByteArray) (w : World) (hs : s.size ≤ maxLen) :
    Calls Try.prog 6 #[.string s] w fun e w' => e = .returned (.bool true) ∧ Below w.heap.size w w' := by
  by_cases h0 : s.size ≤ 1048576
  · by_cases h1 : s.size ≤ 40000 ∧ s.size % 2 = 0
    · obtain ⟨h1, h2⟩ := h1
      have hd : Hid (s.size % 2 = 0) := h2
      clear h2
      go_enter Try.func6, Try.ntmps6
      go_wp2_with (first
        | (go_at_call 18; refine (s_dec_loop _ _ h1 hd.out).mono ?_; rintro e w1 ⟨h, b1⟩; rcases h with ⟨g, rfl⟩ | ⟨g, rfl⟩)
        | (go_at_call 19; refine (i_dec_loop _ _ h1 hd.out).mono ?_; rintro e w2 ⟨h, b2⟩; rcases h with ⟨g', rfl⟩ | ⟨g', rfl⟩))
      all_goals go_ret
      all_goals exact ⟨rfl, b1.trans (b2.mono b1.size)⟩
    · have hn : 40000 < s.size ∨ s.size % 2 ≠ 0 := by omega
      have HN := Lib.hid hn
      clear hn h1
      have hs' : s.size ≤ maxLen := hs
      unfold maxLen at hs
      go_enter Try.func6, Try.ntmps6
      go_wp2_with (first | (go_at_call 18; refine (s_dec_no _ _ hs' HN.out).mono ?_; rintro e w1 ⟨rfl, rfl⟩) | (go_at_call 19; refine (i_dec_no _ _ hs' HN.out).mono ?_; rintro e w2 ⟨rfl, rfl⟩))
      all_goals go_ret
      all_goals exact ⟨rfl, Below.refl _ _⟩
  · unfold maxLen at hs
    go_enter Try.func6, Try.ntmps6
    go_wp2
    all_goals go_ret
    all_goals exact ⟨rfl, Below.refl _ _⟩
end Go.Proofs.Ytciebalkfeoabaa
