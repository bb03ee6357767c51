/- Degrees: the walks of degreesOf, l02Mod, mod, clockwise, Between and Aside, and of the laws FnExactBetween and FnExactAside. -/
import Derived.Test.YtonoknbangnleaaRows
import Derived.WalkKit
import Derived.WalkLawsBesides
import Derived.Lib.Hide
namespace Go.Proofs.Ytonoknbangnleaa
open Go.RowKit

theorem tmod360 (n : Int) : (n.tmod 360 + 360).tmod 360 = n % 360 ∧ -360 < n.tmod 360 ∧ n.tmod 360 < 360 := by
  have h : -360 < n.tmod 360 ∧ n.tmod 360 < 360 ∧ (n.tmod 360 - n) % 360 = 0 := by
    rcases Int.le_total 0 n with h | h
    · rw [Int.tmod_eq_emod_of_nonneg h]; omega
    · obtain ⟨m, rfl⟩ : ∃ m, n = -m := ⟨-n, by omega⟩
      rw [Int.neg_tmod, Int.tmod_eq_emod_of_nonneg (by omega)]; omega
  rw [Int.tmod_eq_emod_of_nonneg (by omega)]
  omega
/-- Between and Aside. -/
def btw (a b : Int) : Int := if 180 < (b - a) % 360 then 360 - (b - a) % 360 else (b - a) % 360
def asd (a b : Int) : Int := if 180 < (b - a) % 360 then (b - a) % 360 - 360 else (b - a) % 360
theorem ret_i {a b : Int} (h : a = b) : Ending.returned (.int .i64 a) = .returned (.int .i64 b) := by rw [h]

set_option maxHeartbeats 400000 in
theorem i_deg (n : Int) (w : World) :
    Calls Try.prog 55 #[.int .i64 n] w fun e w' => e = .returned (.int .i64 (n % 360)) ∧ w = w' := by
  obtain ⟨e1, e2, e3⟩ := tmod360 n
  go_enter Try.func55, Try.ntmps55
  go_wp2
  go_ret
  exact ⟨rfl, rfl⟩
set_option maxHeartbeats 400000 in
theorem s_deg (n : Int) (w : World) :
    Calls Try.prog 31 #[.int .i64 n] w fun e w' => e = .returned (.int .i64 (n % 360)) ∧ w = w' := by
  obtain ⟨e1, e2, e3⟩ := tmod360 n
  go_enter Try.func31, Try.ntmps31
  go_wp2
  go_ret
  exact ⟨rfl, rfl⟩
set_option maxHeartbeats 400000 in
theorem i_clock (a b : Int) (w : World) :
    Calls Try.prog 39 #[.int .i64 a, .int .i64 b] w fun e w' => e = .returned (.int .i64 ((b - a) % 360)) ∧ w = w' := by
  have e1 : (b % 360 - a % 360) % 360 = (b - a) % 360 := by omega
  have x0 : 0 ≤ a % 360 ∧ a % 360 < 360 := by omega
  have y0 : 0 ≤ b % 360 ∧ b % 360 < 360 := by omega
  go_enter Try.func39, Try.ntmps39
  go_wp2_with fail
  refine (i_deg b _).mono ?_
  rintro e w1 ⟨rfl, rfl⟩
  go_wp2_with fail
  refine (i_deg a _).mono ?_
  rintro e w1 ⟨rfl, rfl⟩
  generalize a % 360 = x at *
  generalize b % 360 = y at *
  go_wp2_with fail
  refine (i_deg (y - x) _).mono ?_
  rintro e w1 ⟨rfl, rfl⟩
  go_wp2
  go_ret
  exact ⟨rfl, rfl⟩
set_option maxHeartbeats 400000 in
theorem i_btw (a b : Int) (w : World) :
    Calls Try.prog 13 #[.int .i64 a, .int .i64 b] w fun e w' => e = .returned (.int .i64 (btw a b)) ∧ w = w' := by
  have e1 : (if (a - b) % 360 < (b - a) % 360 then (a - b) % 360 else (b - a) % 360) = btw a b := by unfold btw; split <;> split <;> omega
  go_enter Try.func13, Try.ntmps13
  go_wp2_with fail
  refine (i_clock a b _).mono ?_
  rintro e w1 ⟨rfl, rfl⟩
  go_wp2_with fail
  refine (i_clock b a _).mono ?_
  rintro e w1 ⟨rfl, rfl⟩
  go_wp2
  go_ret
  exact ⟨rfl, rfl⟩
set_option maxHeartbeats 400000 in
theorem i_asd (a b : Int) (w : World) :
    Calls Try.prog 40 #[.int .i64 a, .int .i64 b] w fun e w' => e = .returned (.int .i64 (asd a b)) ∧ w = w' := by
  obtain ⟨d, hd⟩ : ∃ d, (b - a) % 360 = d := ⟨_, rfl⟩
  have hr : asd a b = if 180 < d then d - 360 else d := by rw [← hd]; rfl
  have z0 : 0 ≤ d ∧ d < 360 := by omega
  by_cases h : 180 < d
  all_goals
    first | rw [if_pos h] at hr | rw [if_neg h] at hr
    rw [hr]
    clear hr
    go_enter Try.func40, Try.ntmps40
    go_wp2_with fail
    refine (i_clock a b _).mono ?_
    rintro e w1 ⟨rfl, rfl⟩
    rw [hd]
    go_wp2
    go_ret
    exact ⟨rfl, rfl⟩
set_option maxHeartbeats 400000 in
theorem s_btw (a b : Int) (w : World) :
    Calls Try.prog 50 #[.int .i64 a, .int .i64 b] w fun e w' => e = .returned (.int .i64 (btw a b)) ∧ w = w' := by
  have x0 : 0 ≤ a % 360 ∧ a % 360 < 360 := by omega
  have y0 : 0 ≤ b % 360 ∧ b % 360 < 360 := by omega
  obtain ⟨d, hd⟩ : ∃ d, (b - a) % 360 = d := ⟨_, rfl⟩
  have hr : btw a b = if 180 < d then 360 - d else d := by rw [← hd]; rfl
  have z0 : 0 ≤ d ∧ d < 360 := by omega
  have e1 : (b % 360 - a % 360) % 360 = d := by omega
  by_cases h : 180 < d
  all_goals
    first | rw [if_pos h] at hr | rw [if_neg h] at hr
    rw [hr]
    clear hr
    go_enter Try.func50, Try.ntmps50
    go_wp2_with fail
    refine (s_deg b _).mono ?_
    rintro e w1 ⟨rfl, rfl⟩
    go_wp2_with fail
    refine (s_deg a _).mono ?_
    rintro e w1 ⟨rfl, rfl⟩
    generalize a % 360 = x at *
    generalize b % 360 = y at *
    go_wp2_with fail
    refine (s_deg (y - x) _).mono ?_
    rintro e w1 ⟨rfl, rfl⟩
    rw [e1]
    go_wp2
    go_ret
    exact ⟨rfl, rfl⟩
theorem i64_bd {n : Int} (h : (Lit.int .i64 n).wf = true) : -9223372036854775808 ≤ n ∧ n ≤ 9223372036854775807 := by
  have h2 := h
  simp [Lit.wf] at h2
  exact ⟨h2.1, h2.2⟩
end Go.Proofs.Ytonoknbangnleaa
