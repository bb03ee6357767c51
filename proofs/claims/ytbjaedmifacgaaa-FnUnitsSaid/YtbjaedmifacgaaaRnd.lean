/- The walk of math.Round and math.Abs. -/
import Derived.Test.YtbjaedmifacgaaaRows
import Derived.Test.YtbjaedmifacgaaaFv
import Derived.WalkKit
import Derived.WalkSpells
import Derived.WalkLawsBesides
import Derived.Lib.Hide
namespace Go.Proofs.Ytbjaedmifacgaaa
open Go.RowKit

theorem run_fbits (x : Nat) (w : World) : (callFunc 61 #[.float .f64 x]).run Try.prog w = .ok (.value (.int .u64 (x : Int))) w := by
  rw [run_callFunc_extern (e := Extern.MathFloatBits.float64bits) Try.func61 (by kernel_rfl) (by kernel_rfl) (by kernel_rfl) (by rfl)]
  rfl
theorem run_ffrom (x : Nat) (w : World) : (callFunc 60 #[.int .u64 (x : Int)]).run Try.prog w = .ok (.value (.float .f64 x)) w := by
  rw [run_callFunc_extern (e := Extern.MathFloatBits.float64frombits) Try.func60 (by kernel_rfl) (by kernel_rfl) (by kernel_rfl) (by rfl)]
  rfl

/-- The exponent field of a word; its sign bit, at its place. -/
def expo (x : Nat) : Nat := x / 4503599627370496 % 2048
def sgb (x : Nat) : Nat := x / 9223372036854775808 * 9223372036854775808
theorem bits_expo (x : Nat) (hx : x < 18446744073709551616) : bits .and .u64 ((x : Int) / 4503599627370496) 2047 = (expo x : Int) := by
  have h := u64_and_nat (x / 4503599627370496) 2047 (by omega) (by omega)
  rw [show ((x : Int) / 4503599627370496) = ((x / 4503599627370496 : Nat) : Int) by omega]
  rw [show (2047 : Int) = ((2047 : Nat) : Int) from rfl, h]
  rw [nat_mask11]; rfl
theorem nat_sign (x : Nat) (hx : x < 18446744073709551616) : x &&& 9223372036854775808 = sgb x := by
  have h2 : x &&& 9223372036854775808 = x / 9223372036854775808 % 2 * 9223372036854775808 := nat_bit 63 x
  have h3 : x / 9223372036854775808 % 2 = x / 9223372036854775808 := Nat.mod_eq_of_lt (by omega)
  rw [h2, h3]; rfl
theorem bits_sign (x : Nat) (hx : x < 18446744073709551616) : bits .and .u64 (x : Int) 9223372036854775808 = (sgb x : Int) := by
  have h := u64_and_nat x 9223372036854775808 hx (by omega)
  rw [nat_sign x hx] at h
  exact h
theorem sgb_cases (x : Nat) (hx : x < 18446744073709551616) : sgb x = 0 ∨ sgb x = 9223372036854775808 := by
  unfold sgb; omega
theorem bits_one (x : Nat) (hx : x < 18446744073709551616) : bits .or .u64 (sgb x : Int) 4607182418800017408 = ((sgb x + 4607182418800017408 : Nat) : Int) := by
  rcases sgb_cases x hx with h | h <;> rw [h] <;> kernel_rfl


/-- A word cleared below its k-th bit. -/
theorem nat_clear (a k : Nat) (ha : a < 18446744073709551616) (hk : k ≤ 52) : a &&& (18446744073709551615 - (2 ^ k - 1)) = a / 2 ^ k * 2 ^ k := by
  have hp : 2 ^ k ≤ 2 ^ 52 := Nat.pow_le_pow_right (by omega) hk
  have hm : (18446744073709551615 - (2 ^ k - 1)) = (2 ^ (64 - k) - 1) <<< k := by
    rw [Nat.shiftLeft_eq, Nat.sub_mul, ← Nat.pow_add, show 64 - k + k = 64 by omega, Nat.one_mul]
    have : 0 < 2 ^ k := Nat.two_pow_pos _
    have h64 : (2 : Nat) ^ 64 = 18446744073709551616 := rfl
    omega
  rw [hm, ← Nat.shiftLeft_eq, ← Nat.shiftRight_eq_div_pow]
  apply Nat.eq_of_testBit_eq
  intro i
  rw [Nat.testBit_and, Nat.testBit_shiftLeft, Nat.testBit_shiftLeft, Nat.testBit_shiftRight, Nat.testBit_two_pow_sub_one]
  by_cases h : k ≤ i
  · have e : k + (i - k) = i := by omega
    rw [e]
    by_cases h6 : i < 64
    · simp [h]; omega
    · have : a.testBit i = false := Nat.testBit_lt_two_pow (Nat.lt_of_lt_of_le ha (by rw [show (18446744073709551616 : Nat) = 2 ^ 64 from rfl]; exact Nat.pow_le_pow_right (by omega) (by omega)))
      simp [this]
  · simp [h]

/-- What math.Round makes of a word between one and 2 to the 52: rounded at its point, half away from zero. -/
def midW (x e : Nat) : Nat := (x + 2 ^ (51 - e)) / 2 ^ (52 - e) * 2 ^ (52 - e)
theorem bits_mid (x e : Nat) (hx : x < 18446744073709551616) (hE : expo x = 1023 + e) (he : e < 52) :
    bits .andNot .u64 (IntKind.u64.wrap ((x : Int) + 2251799813685248 / 2 ^ e)) (4503599627370495 / 2 ^ e) = ((midW x e : Nat) : Int) := by
  have hp1 : 2251799813685248 / 2 ^ e = 2 ^ (51 - e) := by
    have h : (2251799813685248 : Nat) = 2 ^ (51 - e) * 2 ^ e := by rw [← Nat.pow_add, show 51 - e + e = 51 by omega]
    rw [h, Nat.mul_div_cancel _ (Nat.two_pow_pos _)]
  have hp2 : 4503599627370495 / 2 ^ e = 2 ^ (52 - e) - 1 := by
    have h : (4503599627370495 : Nat) = (2 ^ (52 - e) - 1) * 2 ^ e + (2 ^ e - 1) := by
      rw [Nat.sub_mul, ← Nat.pow_add, show 52 - e + e = 52 by omega, Nat.one_mul]
      have h1 : 2 ^ e ≤ 2 ^ 52 := Nat.pow_le_pow_right (by omega) (by omega)
      have h2 : 0 < 2 ^ e := Nat.two_pow_pos _
      have h3 : (2 : Nat) ^ 52 = 4503599627370496 := rfl
      omega
    rw [h, Nat.add_comm, Nat.add_mul_div_right _ _ (Nat.two_pow_pos _), Nat.div_eq_of_lt (by have := Nat.two_pow_pos e; omega), Nat.zero_add]
  have hle : 2 ^ (51 - e) ≤ 2 ^ 51 := Nat.pow_le_pow_right (by omega) (by omega)
  have h51 : (2 : Nat) ^ 51 = 2251799813685248 := rfl
  have hb : x + 2 ^ (51 - e) < 18446744073709551616 := by unfold expo at hE; omega
  have hle2 : 2 ^ (52 - e) ≤ 2 ^ 52 := Nat.pow_le_pow_right (by omega) (by omega)
  have h52 : (2 : Nat) ^ 52 = 4503599627370496 := rfl
  have i1 : ((2251799813685248 : Int) / 2 ^ e) = ((2 ^ (51 - e) : Nat) : Int) := by
    rw [← hp1, Int.natCast_ediv, Int.natCast_pow]; rfl
  have i2 : ((4503599627370495 : Int) / 2 ^ e) = ((2 ^ (52 - e) - 1 : Nat) : Int) := by
    rw [← hp2, Int.natCast_ediv, Int.natCast_pow]; rfl
  rw [i1, i2]
  have hcl := nat_clear (x + 2 ^ (51 - e)) (52 - e) hb (by omega)
  unfold midW
  clear i1 i2 hp1 hp2
  generalize 2 ^ (51 - e) = p at *
  generalize 2 ^ (52 - e) = q at *
  have i3 : IntKind.u64.wrap ((x : Int) + (p : Int)) = ((x + p : Nat) : Int) := by
    rw [IntWalk.u64_in _ (by omega)]; rfl
  rw [i3, u64_andNot_nat _ _ hb (by omega), hcl]


/-- math.Abs strikes the sign. -/
theorem bits_abs (x : Nat) (hx : x < 18446744073709551616) : bits .andNot .u64 (x : Int) 9223372036854775808 = ((x % 9223372036854775808 : Nat) : Int) := by
  have h := u64_andNot_nat x 9223372036854775808 hx (by omega)
  have e : x &&& (18446744073709551615 - 9223372036854775808) = x % 9223372036854775808 := Nat.and_two_pow_sub_one_eq_mod x 63
  rw [e] at h
  exact h
set_option maxRecDepth 100000 in
set_option maxHeartbeats 1000000 in
theorem abs_any (x : Nat) (w : World) (hx : x < 18446744073709551616) :
    Calls Try.prog 55 #[.float .f64 x] w fun e w' => e = .returned (.float .f64 (x % 9223372036854775808)) ∧ w = w' := by
  have r1 := fun (x : Nat) (w : World) => run_fbits x w
  have r2 := fun (w : World) => run_ffrom (x % 9223372036854775808) w
  have e1 := bits_abs x hx
  generalize x % 9223372036854775808 = y at *
  go_enter Try.func55, Try.ntmps55
  go_wp2
  go_ret
  exact ⟨rfl, rfl⟩
end Go.Proofs.Ytbjaedmifacgaaa
