/- The walk of the law FnRoots. -/
import Derived.Test.YtbjaedmifacgaaaRtM
import Derived.Test.YtbjaedmifacgaaaRtW
import Derived.Test.YtbjaedmifacgaaaPlc
namespace Go.Proofs.Ytbjaedmifacgaaa
open Go.RowKit Ieee

theorem zero_num : f64.read 0 = .number false 0 (-1074) := by kernel_rfl
theorem zero_val : fval 0 = 0 := by unfold fval; rw [zero_num]; exact fl_signed_zero _ _

theorem sq_root (n : Nat) (hn : n < 10000) : ∃ p r, floatBits .mul .f64 (floatOfInt .f64 n) (floatOfInt .f64 n) = some p ∧ p < 18446744073709551616 ∧ RootIs p r ∧ FloatKind.f64.format.order r (floatOfInt .f64 n) = some .eq := by
  have hb := oneV_bound
  have hpos : 0 < oneV := Nat.two_pow_pos _
  obtain ⟨fn, fv⟩ := ofInt_val (n : Int) (by omega) (by omega)
  have hprod : fval (floatOfInt .f64 n) * fval (floatOfInt .f64 n) = ((n * oneV * n : Nat) : Int) * (oneV : Int) := by
    rw [fv, Int.natCast_mul, Int.natCast_mul]
    rw [Int.mul_assoc, Int.mul_assoc, Int.mul_assoc]
  have hab : (fval (floatOfInt .f64 n) * fval (floatOfInt .f64 n)).natAbs < 2 ^ (fixB + fixE) := by
    rw [hprod, Int.natAbs_mul, Int.natAbs_natCast, Int.natAbs_natCast, Nat.pow_add]
    refine Nat.mul_lt_mul_of_pos_right ?_ hpos
    have h2 : n * oneV * n ≤ 10000 * oneV * 10000 := Nat.mul_le_mul (Nat.mul_le_mul (by omega) (Nat.le_refl _)) (by omega)
    refine Nat.lt_of_le_of_lt h2 (Nat.lt_of_le_of_lt ?_ hb)
    clear hb h2 hprod fv
    generalize oneV = u at *
    omega
  obtain ⟨p, hp, pn, pl, pr⟩ := mul_op fn fn hab
  have hnear := pr.near hpos
  rw [hprod] at hnear
  have hrep : Rep ((n * oneV * n : Nat) : Int) := by
    have hnn : n * n ≤ 10000 * 10000 := Nat.mul_le_mul (by omega) (by omega)
    have := rep_whole (n * n) (by omega)
    rw [Nat.mul_right_comm]; exact this
  have hv := hnear.exact hrep
  rcases Nat.eq_zero_or_pos n with h0 | h0
  · refine ⟨p, 0, hp, pl, .inl ⟨fun h => ?_, rfl⟩, ?_⟩
    · have h1 := (inR_bd h).1
      have h2 := lowV_big
      rw [hv, h0] at h1
      simp at h1
      omega
    · rw [show FloatKind.f64.format.order 0 (floatOfInt .f64 n) = some (compare (fval 0) (fval (floatOfInt .f64 n))) from order_val (isNum_of zero_num) fn, fv, zero_val, h0]
      simp
  · have hs : Sq n p := ⟨h0, by omega, pn, hv⟩
    have ho : (oneV : Int) ≤ fval p := by
      rw [hv]
      have h2 : 1 * oneV * 1 ≤ n * oneV * n := Nat.mul_le_mul (Nat.mul_le_mul h0 (Nat.le_refl _)) h0
      omega
    obtain ⟨rn, rv⟩ := root_sq hs
    refine ⟨p, newtN p p 60, hp, pl, .inr ⟨hs.inR, p, .inr ⟨ho, rfl⟩, rfl⟩, ?_⟩
    rw [show FloatKind.f64.format.order (newtN p p 60) (floatOfInt .f64 n) = some (compare (fval (newtN p p 60)) (fval (floatOfInt .f64 n))) from order_val rn fn, fv, rv]
    refine congrArg some (Int.compare_eq_eq.2 ?_)
    exact Int.natCast_mul _ _

set_option maxRecDepth 100000 in
set_option maxHeartbeats 2000000 in
theorem w_FnRoots (a0 : Option Addr) (len cap : Nat) (zs : List Int) (w : World) (hr : IsRow .u8 w a0 len cap zs) :
    Calls Try.prog 3 #[.slice a0 len cap] w fun e w' => e = .returned (.bool true) ∧ Below w.heap.size w w' := by
  by_cases hbig : len ≤ 1048576
  · have hcode := code_of_row hr hbig
    go_enter Try.func3, Try.ntmps3
    go_wp2_with (first
      | (go_at_call 12; go_in)
      | (go_at_call 13; ((with_reducible refine (d_places _ len cap a0 hcode).mono ?_); rintro e w1 ⟨xs, v, hxs, hbd, rfl, hown, b1⟩)))
    obtain ⟨g, c, rfl, _, hg0, hg1, hcell⟩ := ints_own hown (by omega)
    have HC := Lib.hid hcell
    have HB := Lib.hid hbd
    clear hown hcell hbd hcode
    go_wp2
    go_loop [4, 5] (fun i f => ∃ k : Nat, k ≤ 12 ∧ i = .int .i64 k) (fun i _ => 12 - (intOf i).toNat)
    case atStart => exact ⟨0, by omega, rfl⟩
    case round =>
      obtain ⟨k, hk, rfl⟩ := hrel
      by_cases hlt : k < 12
      · have hx : xs[k]? = some xs[k] := List.getElem?_eq_getElem (by omega)
        obtain ⟨x0, x1⟩ := HB.out k _ hx
        have hc := HC.out k _ hx
        generalize xs[k] = x at *
        obtain ⟨n, rfl⟩ : ∃ n : Nat, x = n := ⟨x.toNat, by omega⟩
        obtain ⟨p, r, hm, hp, hroot, ho⟩ := sq_root n (by omega)
        have q1 := fun w => run_float_arith (P := Try.prog) w .mul 26 .f64 _ _ p hm
        have hri := fun w => i_root p r w hp hroot
        clear hm hroot hx
        go_wp2_with (go_at_call 14; ((with_reducible refine (hri _).mono ?_); rintro e w' ⟨rfl, rfl⟩))
        go_round
        case rel => exact ⟨k + 1, by omega, by go_num⟩
        case measure => simp [intOf]; omega
      · have hk : k = 12 := by omega
        subst hk
        go_wp2
        go_ret
        exact ⟨rfl, b1⟩
  · go_enter Try.func3, Try.ntmps3
    go_wp2
    go_ret
    exact ⟨rfl, Below.refl _ _⟩
end Go.Proofs.Ytbjaedmifacgaaa
