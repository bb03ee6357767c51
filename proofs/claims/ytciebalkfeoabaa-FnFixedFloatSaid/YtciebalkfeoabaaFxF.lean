/- The walk of the law FnFixedFloat. -/
import Derived.Test.YtciebalkfeoabaaFf
import Derived.Test.YtciebalkfeoabaaToF
import Derived.Test.YtciebalkfeoabaaFrom
import Derived.Test.YtciebalkfeoabaaDrF
namespace Go.Proofs.Ytciebalkfeoabaa
open Go.RowKit Ieee

set_option maxHeartbeats 1000000 in
theorem d_from (w : World) (len cap : Nat) (A : Option Addr) (hcode : Code w w.heap.size A len) :
    Calls Try.prog 13 #[.slice A len cap] w fun e w' => ∃ n : Int, -9223372036854775808 ≤ n ∧ n ≤ 9223372036854775807 ∧ e = .returned (.int .i64 n) ∧ Below w.heap.size w w' := by
  go_enter Try.func13, Try.ntmps13
  go_wp2_with fail
  refine (d_fmtfix _ len cap A hcode).mono ?_
  rintro e w1 ⟨n, n0, n1, rfl, b1⟩
  go_wp2
  go_ret
  exact ⟨n, n0, n1, rfl, b1⟩

theorem tf_zero : Tf 15 0 0 true := by
  have hm : floatBits .mul .f64 0 4652007308841189376 = some 0 := by kernel_rfl
  have e0 : f64.read 0 = .number false 0 (-1074) := by kernel_rfl
  have v0 : fval 0 = 0 := by unfold fval; rw [e0]; exact fl_signed_zero _ _
  have h := (tf_in 0 0 hm (isNum_of e0) (by rw [v0]; have := halfV_pos; simp; omega)).2
  have hr : rndI (fval 0) = 0 := by
    rw [v0]; unfold rndI rndN
    have h2 := oneV_eq
    have hh := halfV_pos
    rw [if_neg (by omega), Int.natAbs_zero, Nat.zero_add, Nat.div_eq_of_lt (by omega)]; rfl
  rw [hr] at h
  exact h
theorem tf_from_in (n : Int) (h0 : -1000000000 ≤ n) (h1 : n ≤ 1000000000) : Tf 15 (fromBits n) n true := by
  obtain ⟨r, hr⟩ := from_some n
  have e : fromBits n = r := by unfold fromBits; rw [if_pos ⟨h0, h1⟩, hr]; rfl
  obtain ⟨p, hm, hn, hb, hi⟩ := thou_back n h0 h1 r hr
  have h := (tf_in r p hm hn hb).2
  rw [hi] at h
  rw [e]
  exact h
theorem tf_from_out (n : Int) (h : ¬ (-1000000000 ≤ n ∧ n ≤ 1000000000)) : Tf 15 (fromBits n) 0 true := by
  have e : fromBits n = 0 := by unfold fromBits; rw [if_neg h]
  rw [e]
  exact tf_zero

set_option maxRecDepth 100000 in
set_option maxHeartbeats 1000000 in
theorem w_FnFixedFloat (a0 : Option Addr) (len cap : Nat) (zs : List Int) (w : World) (hr : IsRow .u8 w a0 len cap zs) :
    Calls Try.prog 4 #[.slice a0 len cap] w fun e w' => e = .returned (.bool true) ∧ Below w.heap.size w w' := by
  by_cases hbig : len ≤ 1048576
  · have hcode := code_of_row hr hbig
    go_enter Try.func4, Try.ntmps4
    go_wp2_with (first
      | (go_at_call 10; go_in)
      | (go_at_call 13; ((with_reducible refine (d_from _ len cap a0 hcode).mono ?_); rintro e w1 ⟨n, n0, n1, rfl, b1⟩)))
    refine (i_from n _).mono ?_
    rintro e w2 ⟨rfl, rfl⟩
    go_wp2_with fail
    by_cases h0 : -1000000000 ≤ n
    · by_cases h1 : n ≤ 1000000000
      · refine (tf_from_in n h0 h1 _).mono ?_
        rintro e w3 ⟨rfl, b3⟩
        go_wp2
        go_ret
        exact ⟨rfl, b1.trans (b3.mono b1.size)⟩
      · refine (tf_from_out n (fun h => h1 h.2) _).mono ?_
        rintro e w3 ⟨rfl, b3⟩
        go_wp2
        go_ret
        exact ⟨rfl, b1.trans (b3.mono b1.size)⟩
    · refine (tf_from_out n (fun h => h0 h.1) _).mono ?_
      rintro e w3 ⟨rfl, b3⟩
      go_wp2
      go_ret
      exact ⟨rfl, b1.trans (b3.mono b1.size)⟩
  · go_enter Try.func4, Try.ntmps4
    go_wp2
    go_ret
    exact ⟨rfl, Below.refl _ _⟩
end Go.Proofs.Ytciebalkfeoabaa
