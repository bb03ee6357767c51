/- The walks of spec.ParseUint, impl.scanDigits, impl.ParseUint and of the law FnExactParseUint. -/
import Derived.Test.YtciebalkfeoabaaDoorRows
import Derived.Test.YtciebalkfeoabaaDoorM2
import Derived.Test.YtciebalkfeoabaaDoorM3
import Derived.Test.YtciebalkfeoabaaDoorNum2
import Derived.WalkKit
import Derived.WalkSpells
import Derived.WalkLawsBesides
import Derived.Lib.Hide
namespace Go.Proofs.YtciebalkfeoabaaDoor
open Go.RowKit

set_option maxRecDepth 100000 in
set_option maxHeartbeats 1000000 in
/-- The loop of spec.ParseUint and what follows it. -/
theorem s_puint (s : ByteArray) (w : World) (hs : s.size ≤ 10) :
    Calls Tryd.prog 29 #[.string s] w fun e w' => e = .returned (.tuple #[.int .i64 (puVal s), .bool (puOk s)]) ∧ Below w.heap.size w w' := by
  go_enter Tryd.func29, Tryd.ntmps29
  go_wp2
  go_loop [4, 5] (fun n i => ∃ k : Nat, k ≤ s.size ∧ i = .int .i64 k ∧ allDig s k ∧ n = .int .i64 (numTo s k)) (fun _ i => s.size - (intOf i).toNat)
  case atStart => exact ⟨0, Nat.zero_le _, rfl, allDig_zero s, by rw [numTo_zero]⟩
  case round =>
    obtain ⟨k, hk, rfl, hd, rfl⟩ := hrel
    have HD := Lib.hid hd
    obtain ⟨n0, n1⟩ := numTo_bd hd (by omega : k ≤ 10)
    by_cases hlt : k < s.size
    · obtain ⟨b0, b1⟩ := byteAt_bd s k
      have q1 := byteAt_eq s k hlt
      clear hd
      by_cases g1 : byteAt s k < 48
      · have hbad := Lib.hid (pu_bad hlt (fun h => by have := h.1; omega))
        go_wp2
        go_ret2
        exact ⟨hbad.out, Below.refl _ _⟩
      · by_cases g2 : 57 < byteAt s k
        · have hbad := Lib.hid (pu_bad hlt (fun h => by have := h.2; omega))
          go_wp2
          go_ret2
          exact ⟨hbad.out, Below.refl _ _⟩
        · have hn := numTo_succ s k
          have HN := Lib.hid hn
          clear hn
          go_wp2
          go_round
          case rel => exact ⟨k + 1, by omega, by go_num, allDig_succ HD.out ⟨by omega, by omega⟩, by rw [HN.out]⟩
          case measure => simp [intOf]; omega
    · obtain rfl : k = s.size := by omega
      by_cases h9 : 1000000000 < numTo s s.size
      · have hbad := Lib.hid (pu_no (s := s) (pu_not (fun h => by have := h.2.2.1; omega)))
        clear hd
        go_wp2
        go_ret2
        exact ⟨hbad.out, Below.refl _ _⟩
      · by_cases hq : Lib.itoa (numTo s s.size) = s.data.toList
        · have hy := Lib.hid (pu_yes hs hd (by omega) hq)
          have hb : (Lib.itoa (numTo s s.size) == s.toList) = true := by rw [ByteArray.toList_eq]; simpa using hq
          clear hd hq
          go_wp2_with (go_at_call 28; ((with_reducible refine (s_fmt_any _ _ (by omega) (by omega)).mono ?_); rintro e w1 ⟨rfl, b1⟩))
          go_ret2
          exact ⟨hy.out, b1⟩
        · have hno := Lib.hid (pu_no (s := s) (pu_not (fun h => hq h.2.2.2)))
          have hb : (Lib.itoa (numTo s s.size) == s.toList) = false := by rw [ByteArray.toList_eq]; simpa using hq
          clear hd hq
          go_wp2_with (go_at_call 28; ((with_reducible refine (s_fmt_any _ _ (by omega) (by omega)).mono ?_); rintro e w1 ⟨rfl, b1⟩))
          go_ret2
          exact ⟨hno.out, b1⟩

set_option maxHeartbeats 400000 in
theorem s_puint_any (s : ByteArray) (w : World) (hs : s.size ≤ 1048576) :
    Calls Tryd.prog 29 #[.string s] w fun e w' => e = .returned (.tuple #[.int .i64 (puVal s), .bool (puOk s)]) ∧ Below w.heap.size w w' := by
  by_cases h : s.size ≤ 10
  · exact s_puint s w h
  · have hbad := Lib.hid (pu_no (s := s) (pu_not (fun hh => h hh.1)))
    go_enter Tryd.func29, Tryd.ntmps29
    go_wp2
    go_ret2
    exact ⟨hbad.out, Below.refl _ _⟩

/-- What scanDigits answers. -/
noncomputable def scOk (s : ByteArray) : Bool := @decide (1 ≤ s.size ∧ s.size ≤ 10 ∧ allDig s s.size) (Classical.propDecidable _)
noncomputable def scVal (s : ByteArray) : Int := if scOk s = true then numTo s s.size else 0
theorem sc_yes {s : ByteArray} (h0 : 1 ≤ s.size) (h : s.size ≤ 10) (h1 : allDig s s.size) : scOk s = true := by
  unfold scOk; simp only [decide_eq_true_eq]; exact ⟨h0, h, h1⟩
theorem sc_no {s : ByteArray} (h : ¬ (1 ≤ s.size ∧ s.size ≤ 10 ∧ allDig s s.size)) : scOk s = false := by
  unfold scOk; simp only [decide_eq_false_iff_not]; exact h
theorem sc_ret_no {s : ByteArray} (h : ¬ (1 ≤ s.size ∧ s.size ≤ 10 ∧ allDig s s.size)) : Ending.returned (.tuple #[.int .i64 0, .bool false]) = .returned (.tuple #[.int .i64 (scVal s), .bool (scOk s)]) := by
  unfold scVal; rw [sc_no h]; rfl
theorem sc_ret_yes {s : ByteArray} (h0 : 1 ≤ s.size) (h : s.size ≤ 10) (h1 : allDig s s.size) : Ending.returned (.tuple #[.int .i64 (numTo s s.size), .bool true]) = .returned (.tuple #[.int .i64 (scVal s), .bool (scOk s)]) := by
  unfold scVal; rw [sc_yes h0 h h1]; rfl

set_option maxRecDepth 100000 in
set_option maxHeartbeats 1000000 in
theorem i_scan (s : ByteArray) (w : World) (hs : s.size ≤ 9223372036854775807) :
    Calls Tryd.prog 43 #[.string s] w fun e w' => e = .returned (.tuple #[.int .i64 (scVal s), .bool (scOk s)]) ∧ w = w' := by
  by_cases h10 : 10 < s.size
  · have hno := Lib.hid (sc_ret_no (s := s) (by omega))
    have hne : (s.toList.isEmpty) = false := by rw [ByteArray.toList_eq]; rw [List.isEmpty_eq_false_iff_exists_mem]; exact ⟨_, List.getElem_mem (n := 0) (by rw [← str_size]; omega)⟩
    go_enter Tryd.func43, Tryd.ntmps43
    go_wp2
    go_step3
    go_wp2
    rw [Exit.noGoto_ret]
    go_ret2
    exact ⟨hno.out, rfl⟩
  · by_cases h0 : s.size = 0
    · have hno := Lib.hid (sc_ret_no (s := s) (by omega))
      have hne : (s.toList.isEmpty) = true := by rw [ByteArray.toList_eq]; rw [List.isEmpty_iff]; exact List.eq_nil_of_length_eq_zero (by rw [← str_size]; exact h0)
      clear h0
      go_enter Tryd.func43, Tryd.ntmps43
      go_wp2
      go_step3
      go_wp2
      rw [Exit.noGoto_ret]
      go_ret2
      exact ⟨hno.out, rfl⟩
    · have hne : (s.toList.isEmpty) = false := by rw [ByteArray.toList_eq]; rw [List.isEmpty_eq_false_iff_exists_mem]; exact ⟨_, List.getElem_mem (n := 0) (by rw [← str_size]; omega)⟩
      go_enter Tryd.func43, Tryd.ntmps43
      go_wp2
      go_step3
      go_wp2
      go_step3
      go_wp2
      go_loop [4, 5, 17] (fun n f i => ∃ k : Nat, k ≤ s.size ∧ i = .int .i64 k ∧ f = .bool true ∧ allDig s k ∧ n = .int .i64 (numTo s k)) (fun _ _ i => s.size - (intOf i).toNat)
      case atStart => exact ⟨0, Nat.zero_le _, rfl, rfl, allDig_zero s, by rw [numTo_zero]⟩
      case round =>
        obtain ⟨k, hk, rfl, rfl, hd, rfl⟩ := hrel
        have HD := Lib.hid hd
        obtain ⟨n0, n1⟩ := numTo_bd hd (by omega : k ≤ 10)
        by_cases hlt : k < s.size
        · obtain ⟨b0, b1⟩ := byteAt_bd s k
          have q1 := byteAt_eq s k hlt
          have hn := numTo_succ s k
          have HN := Lib.hid hn
          clear hn hd
          by_cases g1 : 48 ≤ byteAt s k
          · by_cases g2 : byteAt s k ≤ 57
            · go_wp2
              go_round
              case rel => exact ⟨k + 1, by omega, by go_num, rfl, allDig_succ HD.out ⟨by omega, by omega⟩, by rw [HN.out]; go_num⟩
              case measure => simp [intOf]; omega
            · have hno := Lib.hid (sc_ret_no (s := s) (fun h => absurd (h.2.2 k hlt).2 g2))
              go_wp2
              go_ret2
              exact ⟨hno.out, rfl⟩
          · have hno := Lib.hid (sc_ret_no (s := s) (fun h => absurd (h.2.2 k hlt).1 g1))
            go_wp2
            go_ret2
            exact ⟨hno.out, rfl⟩
        · obtain rfl : k = s.size := by omega
          have hy := Lib.hid (sc_ret_yes (by omega) (by omega) hd)
          clear hd
          go_wp2
          go_ret2
          exact ⟨hy.out, rfl⟩
end Go.Proofs.YtciebalkfeoabaaDoor
