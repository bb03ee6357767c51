/- The walk of the law FnExactEncodeHex. -/
import Derived.Test.YtciebalkfeoabaaHex1
import Derived.Test.YtciebalkfeoabaaHex2
namespace Go.Proofs.Ytciebalkfeoabaa
open Go.RowKit

set_option maxHeartbeats 400000 in
theorem s_enc_long (s : ByteArray) (w : World) (hs : 20000 < s.size) :
    Calls Try.prog 16 #[.string s] w fun e w' => e = .returned (.tuple #[.string ⟨#[]⟩, .bool false]) ∧ w = w' := by
  go_enter Try.func16, Try.ntmps16
  go_wp2
  go_ret2
  exact ⟨rfl, rfl⟩

set_option maxHeartbeats 400000 in
theorem i_enc_long (s : ByteArray) (w : World) (hs : 20000 < s.size) :
    Calls Try.prog 17 #[.string s] w fun e w' => e = .returned (.tuple #[.string ⟨#[]⟩, .bool false]) ∧ w = w' := by
  go_enter Try.func17, Try.ntmps17
  go_wp2
  go_ret2
  exact ⟨rfl, rfl⟩

set_option maxHeartbeats 400000 in
theorem w_FnExactEncodeHex (s : ByteArray) (w : World) (hs : s.size ≤ maxLen) :
    Calls Try.prog 5 #[.string s] w fun e w' => e = .returned (.bool true) ∧ Below w.heap.size w w' := by
  unfold maxLen at hs
  by_cases h1 : s.size ≤ 20000
  · go_enter Try.func5, Try.ntmps5
    go_wp2_with (first | (go_at_call 16; refine (s_enc_loop _ _ h1).mono ?_; rintro e w1 ⟨rfl, b1⟩) | (go_at_call 17; refine (i_enc_loop _ _ h1).mono ?_; rintro e w2 ⟨rfl, b2⟩))
    go_ret
    exact ⟨rfl, b1.trans (b2.mono b1.size)⟩
  · have h2 : 20000 < s.size := by omega
    go_enter Try.func5, Try.ntmps5
    go_wp2_with (first | (go_at_call 16; refine (s_enc_long _ _ h2).mono ?_; rintro e w1 ⟨rfl, rfl⟩) | (go_at_call 17; refine (i_enc_long _ _ h2).mono ?_; rintro e w2 ⟨rfl, rfl⟩))
    all_goals go_ret
    all_goals exact ⟨rfl, Below.refl _ _⟩
end Go.Proofs.Ytciebalkfeoabaa
