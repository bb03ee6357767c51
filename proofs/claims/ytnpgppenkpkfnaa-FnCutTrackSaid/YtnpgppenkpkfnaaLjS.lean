/- A step that is cut in its middle, in whole numbers: heights, crossings, times. Nothing here speaks of the program. -/
import Derived.Test.YtnpgppenkpkfnaaLjQ
import Derived.Test.YtnpgppenkpkfnaaLjR
namespace Go.Proofs.Ytnpgppenkpkfnaa
open Go.RowKit
set_option linter.unusedVariables false
set_option linter.unusedSimpArgs false

/-- The middle of two places, and the place as far behind it. -/
def midP (a b : Int × Int) : Int × Int := (a.1 + (b.1 - a.1).tdiv 2, a.2 + (b.2 - a.2).tdiv 2)
def endP (a b : Int × Int) : Int × Int := (a.1 + 2 * (b.1 - a.1).tdiv 2, a.2 + 2 * (b.2 - a.2).tdiv 2)
theorem half_bd (d : Int) : (0 ≤ d → 0 ≤ 2 * d.tdiv 2 ∧ 2 * d.tdiv 2 ≤ d) ∧ (d ≤ 0 → d ≤ 2 * d.tdiv 2 ∧ 2 * d.tdiv 2 ≤ 0) := by
  constructor
  · intro h
    rw [Int.tdiv_eq_ediv_of_nonneg h]
    omega
  · intro h
    have e : d.tdiv 2 = -((-d) / 2) := by
      rw [← Int.tdiv_eq_ediv_of_nonneg (a := -d) (by omega), Int.neg_tdiv, Int.neg_neg]
    rw [e]
    omega
theorem mid_ok {a b : Int × Int} (ha : plB a = true) (hb : plB b = true) : plB (midP a b) = true ∧ plB (endP a b) = true := by
  have h1 := plB_iff.1 ha
  have h2 := plB_iff.1 hb
  rw [plB_iff, plB_iff]
  unfold midP endP
  dsimp only
  have d1 := half_bd (b.1 - a.1)
  have d2 := half_bd (b.2 - a.2)
  generalize (b.1 - a.1).tdiv 2 = x at *
  generalize (b.2 - a.2).tdiv 2 = y at *
  omega
theorem hgt_mid (l : Ln) (a b : Int × Int) : 2 * hgt l (midP a b) = hgt l a + hgt l (endP a b) := by
  unfold hgt crx midP endP
  dsimp only
  generalize (b.1 - a.1).tdiv 2 = x
  generalize (b.2 - a.2).tdiv 2 = y
  grind
theorem crx_mid (a b p : Int × Int) : crx a (endP a b) a p = 2 * crx a (midP a b) a p ∧ crx (midP a b) (endP a b) (midP a b) p = crx a (midP a b) a p := by
  unfold crx midP endP
  dsimp only
  generalize (b.1 - a.1).tdiv 2 = x
  generalize (b.2 - a.2).tdiv 2 = y
  constructor <;> grind
/-- Is a place ahead? As a number. -/
def ngI (h : Int) : Int := if h < 0 then 1 else 0
theorem sd_ng {l : Ln} {p : Int × Int} (h1 : liB l = true) (h2 : plB p = true) : (sdW l p = 1 ∧ ngI (hgt l p) = 1) ∨ (sdW l p ≤ 0 ∧ ngI (hgt l p) = 0) := by
  unfold sdW ngI
  rw [h1, h2]
  simp only [Bool.and_self, if_true]
  split
  · exact .inl ⟨rfl, rfl⟩
  · split
    · exact .inr ⟨by omega, rfl⟩
    · exact .inr ⟨by omega, rfl⟩
theorem cr_ng {l : Ln} {a b : Int × Int} (h1 : liB l = true) (h2 : plB a = true) (h3 : plB b = true) : crW l a b = if msB (crx a b a l.1) (crx a b a l.2) = true then 0 else ngI (hgt l b) - ngI (hgt l a) := by
  rw [crW_yes h1 h2 h3, crV_ms]
  by_cases h : msB (crx a b a l.1) (crx a b a l.2) = true
  · rw [if_pos h, if_pos h]
  · rw [if_neg h, if_neg h]
    rcases sd_ng h1 h2 with ⟨a1, a2⟩ | ⟨a1, a2⟩ <;> rcases sd_ng h1 h3 with ⟨b1, b2⟩ | ⟨b1, b2⟩ <;> rw [a2, b2]
    · rw [if_neg (by omega), if_neg (by omega)]; omega
    · rw [if_neg (by omega), if_pos ⟨a1, b1⟩]; omega
    · rw [if_pos ⟨a1, b1⟩]; omega
    · rw [if_neg (by omega), if_neg (by omega)]; omega
theorem ms_two (x y : Int) : msB (2 * x) (2 * y) = msB x y := by
  unfold msB
  congr 1
  apply propext
  omega
/-- A step that is cut crosses alike. -/
theorem cut_cr {l : Ln} {a b : Int × Int} (h1 : liB l = true) (ha : plB a = true) (hb : plB b = true) : crW l a (endP a b) = crW l a (midP a b) + crW l (midP a b) (endP a b) := by
  obtain ⟨hm, hu⟩ := mid_ok ha hb
  rw [cr_ng h1 ha hu, cr_ng h1 ha hm, cr_ng h1 hm hu]
  rw [(crx_mid a b l.1).1, (crx_mid a b l.2).1, (crx_mid a b l.1).2, (crx_mid a b l.2).2, ms_two]
  split <;> omega
/-- Twice of both: the quotient is the same. -/
theorem up_two {N D : Int} (hN : 0 ≤ N) (hD : 0 < D) : (2 * N + 2 * D - 1).tdiv (2 * D) = (N + D - 1).tdiv D := by
  rw [up_eq (N := 2 * N) (D := 2 * D) (by omega) (by omega), up_eq hN hD]
  rw [Int.tdiv_eq_ediv_of_nonneg (by omega), Int.tdiv_eq_ediv_of_nonneg hN, Int.tmod_eq_emod_of_nonneg (by omega), Int.tmod_eq_emod_of_nonneg hN]
  rw [Int.mul_ediv_mul_of_pos _ _ (by omega), Int.mul_emod_mul_of_pos _ _ (by omega)]
  congr 1
  by_cases h : N % D = 0
  · rw [if_pos h, if_pos (by omega)]
  · rw [if_neg h, if_neg (by omega)]
theorem ctD_pos {T h k : Int} (h0 : 0 ≤ h) (k0 : k < 0) : ctD T h k = (T * h + (h - k) - 1).tdiv (h - k) := by unfold ctD; rw [if_neg (by omega)]
/-- The time of a crossing in the first half; in the second half. -/
theorem ctD_first {H a m u : Int} (hH : 0 < H) (h : 2 * m = a + u) (a0 : 0 ≤ a) (m0 : m < 0) : ctD (2 * H) a u = ctD H a m := by
  rw [ctD_pos a0 (by omega), ctD_pos a0 m0]
  have e : 0 ≤ H * a := Int.mul_nonneg (by omega) a0
  have := up_two e (show 0 < a - m by omega)
  rw [← this]
  congr 1
  · rw [Int.mul_assoc]; omega
  · omega
theorem ctD_second {H a m u : Int} (hH : 0 < H) (h : 2 * m = a + u) (m0 : 0 ≤ m) (u0 : u < 0) : ctD (2 * H) a u = H + ctD H m u := by
  have a0 : 0 ≤ a := by omega
  rw [ctD_pos a0 u0, ctD_pos m0 u0]
  have e : 0 ≤ H * a := Int.mul_nonneg (by omega) a0
  have e2 : 0 ≤ H * m := Int.mul_nonneg (by omega) m0
  have := up_two e (show 0 < m - u by omega)
  have e3 : 2 * (H * a) + 2 * (m - u) - 1 = 2 * H * a + (a - u) - 1 := by rw [Int.mul_assoc]; omega
  have e4 : 2 * (m - u) = a - u := by omega
  rw [e3, e4] at this
  rw [this]
  have e5 : H * a = H * m + H * (m - u) := by
    rw [← Int.mul_add]; congr 1; omega
  have e6 : H * a + (m - u) - 1 = (H * m + (m - u) - 1) + (m - u) * H := by rw [e5, Int.mul_comm (m - u) H]; omega
  have e7 : 0 ≤ (m - u) * H := Int.mul_nonneg (by omega) (by omega)
  rw [e6, Int.tdiv_eq_ediv_of_nonneg (by omega), Int.tdiv_eq_ediv_of_nonneg (by omega), Int.add_mul_ediv_left _ _ (by omega)]
  omega
end Go.Proofs.Ytnpgppenkpkfnaa
