/- The drawing of floats and vectors: l01Odd, l01Real, l02Vector, DrawVectorOk, DrawUnit. -/
import Derived.Test.YtnpgppenkpkfnaaDr2
import Derived.Test.YtnpgppenkpkfnaaFA
namespace Go.Proofs.Ytnpgppenkpkfnaa
open Go.RowKit Ieee

theorem neg_lt {x : Nat} (h : x < 18446744073709551616) : Op.negFloat .f64 x < 18446744073709551616 := by
  show x ^^^ 2 ^ 63 < 2 ^ 64
  exact Nat.xor_lt_two_pow h (by decide)
theorem quo_zero : floatBits .quo .f64 0 0 = none := by kernel_rfl
theorem quo_one : floatBits .quo .f64 4607182418800017408 0 = some 9218868437227405312 := by kernel_rfl
theorem quo_mone : floatBits .quo .f64 13830554455654793216 0 = some 18442240474082181120 := by kernel_rfl
theorem ofInt_zero : floatOfInt .f64 0 = 0 := by kernel_rfl
/-- A whole number by 8 or by 1000, as a float. -/
theorem quo_ex (n : Int) (y : Nat) (h : y = 4620693217682128896 ∨ y = 4652007308841189376) : ∃ r, floatBits .quo .f64 (floatOfInt .f64 n) y = some r ∧ r < 18446744073709551616 := by
  have key : ∀ {s m i}, FloatKind.f64.format.read y = .number s m i → m ≠ 0 → ∃ r, floatBits .quo .f64 (floatOfInt .f64 n) y = some r ∧ r < 18446744073709551616 := fun h0 hm => by
    obtain ⟨r, hr⟩ := fl_div_some FloatKind.f64.format (floatOfInt .f64 n) y (fl_nearest_nan _ _ _ _) h0 hm
    exact ⟨r, hr, FloatKind.f64.format.div_lt hr⟩
  rcases h with rfl | rfl
  · exact key (s := false) (m := 4503599627370496) (i := -49) (by kernel_rfl) (by omega)
  · exact key (s := false) (m := 8796093022208000) (i := -43) (by kernel_rfl) (by omega)

end Go.Proofs.Ytnpgppenkpkfnaa
