/- The walks of spec.FormatFixed and impl.FormatFixed, and of the law FnExactFormatFixed. -/
import Derived.Test.YtciebalkfeoabaaDoorNum2
import Derived.Deep.RegionHeld3
import Derived.Deep.DrawnRows
import Derived.Lib.ItoaLen
namespace Go.Proofs.YtciebalkfeoabaaDoor
open Go.RowKit
attribute [local go_sem ↓] Go.wp_at_zero Go.wp_at_succ

/-- A number's decimal text; the text of thousandths. -/
def numStr (n : Int) : ByteArray := ⟨(Lib.itoa n).toArray⟩
theorem numStr_size (n : Int) (h0 : 0 ≤ n) (h1 : n ≤ 1000000000) : 1 ≤ (numStr n).size ∧ (numStr n).size ≤ 21 := by
  obtain ⟨m, rfl⟩ : ∃ m : Nat, n = m := ⟨n.toNat, by omega⟩
  have h2 := Lib.itoa_length_le m (by omega) (by omega)
  have e : (numStr m).size = (Lib.itoa m).length := by rw [str_size]; simp [numStr]
  rw [e]
  refine ⟨?_, h2⟩
  rw [Lib.itoa_nonneg, Lib.decDigits]
  split <;> simp
theorem i_fmtS (n : Int) (w : World) (h0 : 0 ≤ n) (h1 : n ≤ 1000000000) (ht : TabI w) :
    Calls Tryd.prog 16 #[.int .i64 n] w fun e w' => e = .returned (.string (numStr n)) ∧ Below w.heap.size w w' := i_fmt n w (by omega) (by omega) ht
theorem s_fmtS (n : Int) (w : World) (h0 : 0 ≤ n) (h1 : n ≤ 1000000000) :
    Calls Tryd.prog 28 #[.int .i64 n] w fun e w' => e = .returned (.string (numStr n)) ∧ Below w.heap.size w w' := s_fmt_any n w (by omega) (by omega)

def fixStr (sg : ByteArray) (m : Int) : ByteArray := sg ++ numStr (m / 1000) ++ ⟨#[46]⟩ ++ (numStr (1000 + m % 1000)).extract 1 (numStr (1000 + m % 1000)).size
/-- The text of n thousandths. -/
def fixText (n : Int) : ByteArray := if -1000000000 ≤ n ∧ n ≤ 1000000000 then (if n < 0 then fixStr ⟨#[45]⟩ (-n) else fixStr ⟨#[]⟩ n) else ⟨#[]⟩

set_option maxHeartbeats 1000000 in
theorem i_ff_neg (m : Int) (w : World) (h0 : 0 < m) (h1 : m ≤ 1000000000) (ht : TabI w) :
    Calls Tryd.prog 25 #[.int .i64 (-m)] w fun e w' => e = .returned (.string (fixStr ⟨#[45]⟩ m)) ∧ Below w.heap.size w w' := by
  have a1 : -m < 0 := by omega
  have a2 : -1000000000 ≤ -m := by omega
  have a3 : -m ≤ 1000000000 := by omega
  have m0 : 0 ≤ m / 1000 := by omega
  have m1 : m / 1000 ≤ 1000000 := by omega
  have r0 : 0 ≤ m % 1000 := by omega
  have r1 : m % 1000 < 1000 := by omega
  obtain ⟨z0, z1⟩ := numStr_size (m / 1000) (by omega) (by omega)
  obtain ⟨y0, y1⟩ := numStr_size (1000 + m % 1000) (by omega) (by omega)
  go_enter Tryd.func25, Tryd.ntmps25
  go_wp2_with (first
    | (go_at_call 16; ((with_reducible refine (i_fmtS _ _ (by omega) (by omega) ht).mono ?_); rintro e w1 ⟨rfl, b1⟩))
    | (go_at_call 16; ((with_reducible refine (i_fmtS _ _ (by omega) (by omega) (TabI.below ht b1)).mono ?_); rintro e w2 ⟨rfl, b2⟩))
    | go_in)
  go_ret
  exact ⟨rfl, b1.trans (b2.mono b1.size)⟩

set_option maxHeartbeats 1000000 in
theorem i_ff_pos (m : Int) (w : World) (h0 : 0 ≤ m) (h1 : m ≤ 1000000000) (ht : TabI w) :
    Calls Tryd.prog 25 #[.int .i64 m] w fun e w' => e = .returned (.string (fixStr ⟨#[]⟩ m)) ∧ Below w.heap.size w w' := by
  have a1 : ¬ m < 0 := by omega
  have a2 : -1000000000 ≤ m := by omega
  have m0 : 0 ≤ m / 1000 := by omega
  have m1 : m / 1000 ≤ 1000000 := by omega
  have r0 : 0 ≤ m % 1000 := by omega
  have r1 : m % 1000 < 1000 := by omega
  obtain ⟨z0, z1⟩ := numStr_size (m / 1000) (by omega) (by omega)
  obtain ⟨y0, y1⟩ := numStr_size (1000 + m % 1000) (by omega) (by omega)
  go_enter Tryd.func25, Tryd.ntmps25
  go_wp2_with (first
    | (go_at_call 16; ((with_reducible refine (i_fmtS _ _ (by omega) (by omega) ht).mono ?_); rintro e w1 ⟨rfl, b1⟩))
    | (go_at_call 16; ((with_reducible refine (i_fmtS _ _ (by omega) (by omega) (TabI.below ht b1)).mono ?_); rintro e w2 ⟨rfl, b2⟩))
    | go_in)
  go_ret
  exact ⟨rfl, b1.trans (b2.mono b1.size)⟩

set_option maxHeartbeats 1000000 in
theorem s_ff_neg (m : Int) (w : World) (h0 : 0 < m) (h1 : m ≤ 1000000000) :
    Calls Tryd.prog 33 #[.int .i64 (-m)] w fun e w' => e = .returned (.string (fixStr ⟨#[45]⟩ m)) ∧ Below w.heap.size w w' := by
  have a1 : -m < 0 := by omega
  have a2 : -1000000000 ≤ -m := by omega
  have a3 : -m ≤ 1000000000 := by omega
  have m0 : 0 ≤ m / 1000 := by omega
  have m1 : m / 1000 ≤ 1000000 := by omega
  have r0 : 0 ≤ m % 1000 := by omega
  have r1 : m % 1000 < 1000 := by omega
  obtain ⟨z0, z1⟩ := numStr_size (m / 1000) (by omega) (by omega)
  obtain ⟨y0, y1⟩ := numStr_size (1000 + m % 1000) (by omega) (by omega)
  go_enter Tryd.func33, Tryd.ntmps33
  go_wp2_with (first
    | (go_at_call 28; ((with_reducible refine (s_fmtS _ _ (by omega) (by omega)).mono ?_); rintro e w1 ⟨rfl, b1⟩))
    | go_in)
  have y0' : (1 : Int) ≤ ((numStr (1000 + m % 1000)).size : Int) := by omega
  have e2 : m.tdiv 1000 = m / 1000 := Int.tdiv_eq_ediv_of_nonneg (by omega)
  have e3 : IntKind.i64.wrap (m / 1000) = m / 1000 := IntWalk.i64_in _ (by omega)
  have f1 : ¬ (9223372036854775807 < 1 + (numStr (m / 1000)).size) := by omega
  have f2 : ¬ (9223372036854775807 < 1 + (numStr (m / 1000)).size + 1) := by omega
  have f3 : ¬ (9223372036854775807 < 1 + (numStr (m / 1000)).size + 1 + ((numStr (1000 + m % 1000)).size - 1)) := by omega
  go_region_held3 (fun _ => True) (trivial) ((go_at_call 28; ((with_reducible refine (s_fmtS _ _ (by omega) (by omega)).mono ?_); rintro e w2 ⟨rfl, b2⟩)))
  all_goals clear f1 f2 f3 e2 e3
  all_goals go_wp2
  all_goals go_ret
  all_goals exact ⟨rfl, b1.drew.trans (b2.mono b1.size)⟩

set_option maxHeartbeats 1000000 in
theorem s_ff_pos (m : Int) (w : World) (h0 : 0 ≤ m) (h1 : m ≤ 1000000000) :
    Calls Tryd.prog 33 #[.int .i64 m] w fun e w' => e = .returned (.string (fixStr ⟨#[]⟩ m)) ∧ Below w.heap.size w w' := by
  have a1 : ¬ m < 0 := by omega
  have a2 : -1000000000 ≤ m := by omega
  have m0 : 0 ≤ m / 1000 := by omega
  have m1 : m / 1000 ≤ 1000000 := by omega
  have r0 : 0 ≤ m % 1000 := by omega
  have r1 : m % 1000 < 1000 := by omega
  obtain ⟨z0, z1⟩ := numStr_size (m / 1000) (by omega) (by omega)
  obtain ⟨y0, y1⟩ := numStr_size (1000 + m % 1000) (by omega) (by omega)
  go_enter Tryd.func33, Tryd.ntmps33
  go_wp2_with (first
    | (go_at_call 28; ((with_reducible refine (s_fmtS _ _ (by omega) (by omega)).mono ?_); rintro e w1 ⟨rfl, b1⟩))
    | go_in)
  have y0' : (1 : Int) ≤ ((numStr (1000 + m % 1000)).size : Int) := by omega
  have e2 : m.tdiv 1000 = m / 1000 := Int.tdiv_eq_ediv_of_nonneg (by omega)
  have e3 : IntKind.i64.wrap (m / 1000) = m / 1000 := IntWalk.i64_in _ (by omega)
  have f1 : ¬ (9223372036854775807 < (numStr (m / 1000)).size) := by omega
  have f2 : ¬ (9223372036854775807 < (numStr (m / 1000)).size + 1) := by omega
  have f3 : ¬ (9223372036854775807 < (numStr (m / 1000)).size + 1 + ((numStr (1000 + m % 1000)).size - 1)) := by omega
  go_region_held3 (fun _ => True) (trivial) ((go_at_call 28; ((with_reducible refine (s_fmtS _ _ (by omega) (by omega)).mono ?_); rintro e w2 ⟨rfl, b2⟩)))
  all_goals clear f1 f2 f3 e2 e3
  all_goals go_wp2
  all_goals go_ret
  all_goals exact ⟨rfl, b1.drew.trans (b2.mono b1.size)⟩

set_option maxHeartbeats 400000 in
theorem i_ff (n : Int) (w : World) (ht : TabI w) :
    Calls Tryd.prog 25 #[.int .i64 n] w fun e w' => e = .returned (.string (fixText n)) ∧ Below w.heap.size w w' := by
  by_cases h1 : -1000000000 ≤ n
  · by_cases h2 : n ≤ 1000000000
    · by_cases h3 : n < 0
      · rw [show fixText n = fixStr ⟨#[45]⟩ (-n) by unfold fixText; rw [if_pos ⟨h1, h2⟩, if_pos h3]]
        have := i_ff_neg (-n) w (by omega) (by omega) ht
        rwa [Int.neg_neg] at this
      · rw [show fixText n = fixStr ⟨#[]⟩ n by unfold fixText; rw [if_pos ⟨h1, h2⟩, if_neg h3]]
        exact i_ff_pos n w (by omega) h2 ht
    · rw [show fixText n = ⟨#[]⟩ by unfold fixText; rw [if_neg (by omega)]]
      go_enter Tryd.func25, Tryd.ntmps25
      go_wp2
      go_ret
      exact ⟨rfl, Below.refl _ _⟩
  · rw [show fixText n = ⟨#[]⟩ by unfold fixText; rw [if_neg (by omega)]]
    go_enter Tryd.func25, Tryd.ntmps25
    go_wp2
    go_ret
    exact ⟨rfl, Below.refl _ _⟩

set_option maxHeartbeats 400000 in
theorem s_ff (n : Int) (w : World) :
    Calls Tryd.prog 33 #[.int .i64 n] w fun e w' => e = .returned (.string (fixText n)) ∧ Below w.heap.size w w' := by
  by_cases h1 : -1000000000 ≤ n
  · by_cases h2 : n ≤ 1000000000
    · by_cases h3 : n < 0
      · rw [show fixText n = fixStr ⟨#[45]⟩ (-n) by unfold fixText; rw [if_pos ⟨h1, h2⟩, if_pos h3]]
        have := s_ff_neg (-n) w (by omega) (by omega)
        rwa [Int.neg_neg] at this
      · rw [show fixText n = fixStr ⟨#[]⟩ n by unfold fixText; rw [if_pos ⟨h1, h2⟩, if_neg h3]]
        exact s_ff_pos n w (by omega) h2
    · rw [show fixText n = ⟨#[]⟩ by unfold fixText; rw [if_neg (by omega)]]
      go_enter Tryd.func33, Tryd.ntmps33
      go_wp2
      go_ret
      exact ⟨rfl, Below.refl _ _⟩
  · rw [show fixText n = ⟨#[]⟩ by unfold fixText; rw [if_neg (by omega)]]
    go_enter Tryd.func33, Tryd.ntmps33
    go_wp2
    go_ret
    exact ⟨rfl, Below.refl _ _⟩

abbrev Tabs_FnExactFormatFixed (w : World) : Prop := TabI w
set_option maxHeartbeats 400000 in
theorem w_FnExactFormatFixed (n : Int) (w : World) (_ : (Lit.int .i64 n).wf = true) (ht : Tabs_FnExactFormatFixed w) :
    Calls Tryd.prog 11 #[.int .i64 n] w fun e w' => e = .returned (.bool true) ∧ Below w.heap.size w w' := by
  go_enter Tryd.func11, Tryd.ntmps11
  go_wp2_with (first
    | (go_at_call 33; ((with_reducible refine (s_ff _ _).mono ?_); rintro e w1 ⟨rfl, b1⟩))
    | (go_at_call 25; ((with_reducible refine (i_ff _ _ (TabI.below ht b1)).mono ?_); rintro e w2 ⟨rfl, b2⟩)))
  go_ret
  exact ⟨rfl, b1.trans (b2.mono b1.size)⟩
end Go.Proofs.YtciebalkfeoabaaDoor
