/- Places, lines and heights: what they are, in whole numbers. Nothing here speaks of the program. -/
import Derived.Test.YtibkhmdnfloemaaRows
import Derived.WalkKit
import Derived.WalkLawsBesides
import Derived.Lib.Hide
namespace Go.Proofs.Ytibkhmdnfloemaa
open Go.RowKit

/-- A place that is valid; a line that is. -/
def plB (p : Int × Int) : Bool := decide (-10000 ≤ p.1 ∧ p.1 ≤ 10000) && decide (-10000 ≤ p.2 ∧ p.2 ≤ 10000)
theorem plB_iff {p : Int × Int} : plB p = true ↔ (-10000 ≤ p.1 ∧ p.1 ≤ 10000) ∧ (-10000 ≤ p.2 ∧ p.2 ≤ 10000) := by unfold plB; simp
/-- A line: its port end, its starboard end. -/
abbrev Ln := (Int × Int) × (Int × Int)
def liB (l : Ln) : Bool := (plB l.1 && plB l.2) && decide (¬ l.1 = l.2)
theorem liB_iff {l : Ln} : liB l = true ↔ plB l.1 = true ∧ plB l.2 = true ∧ ¬ l.1 = l.2 := by unfold liB; simp [and_assoc]
/-- The cross of b less a, and d less c. -/
def crx (a b c d : Int × Int) : Int := (b.1 - a.1) * (d.2 - c.2) - (b.2 - a.2) * (d.1 - c.1)
def hgt (l : Ln) (p : Int × Int) : Int := crx l.1 l.2 l.1 p
/-- What a product of two differences is at most. -/
theorem mul_bdI {a b m n : Int} (h1 : -m ≤ a) (h2 : a ≤ m) (h3 : -n ≤ b) (h4 : b ≤ n) : -(m * n) ≤ a * b ∧ a * b ≤ m * n := by
  have e1 := Int.mul_nonneg (a := m - a) (b := n + b) (by omega) (by omega)
  have e2 := Int.mul_nonneg (a := m + a) (b := n - b) (by omega) (by omega)
  have e3 := Int.mul_nonneg (a := m - a) (b := n - b) (by omega) (by omega)
  have e4 := Int.mul_nonneg (a := m + a) (b := n + b) (by omega) (by omega)
  constructor <;> grind
theorem crx_bd {a b c d : Int × Int} (ha : plB a = true) (hb : plB b = true) (hc : plB c = true) (hd : plB d = true) :
    (-20000 ≤ b.1 - a.1 ∧ b.1 - a.1 ≤ 20000) ∧ (-20000 ≤ d.2 - c.2 ∧ d.2 - c.2 ≤ 20000) ∧ (-20000 ≤ b.2 - a.2 ∧ b.2 - a.2 ≤ 20000) ∧ (-20000 ≤ d.1 - c.1 ∧ d.1 - c.1 ≤ 20000) ∧
    (-400000000 ≤ (b.1 - a.1) * (d.2 - c.2) ∧ (b.1 - a.1) * (d.2 - c.2) ≤ 400000000) ∧ (-400000000 ≤ (b.2 - a.2) * (d.1 - c.1) ∧ (b.2 - a.2) * (d.1 - c.1) ≤ 400000000) ∧ -800000000 ≤ crx a b c d ∧ crx a b c d ≤ 800000000 := by
  have a1 := plB_iff.1 ha
  have b1 := plB_iff.1 hb
  have c1 := plB_iff.1 hc
  have d1 := plB_iff.1 hd
  have m1 := mul_bdI (a := b.1 - a.1) (b := d.2 - c.2) (m := 20000) (n := 20000) (by omega) (by omega) (by omega) (by omega)
  have m2 := mul_bdI (a := b.2 - a.2) (b := d.1 - c.1) (m := 20000) (n := 20000) (by omega) (by omega) (by omega) (by omega)
  unfold crx
  generalize (b.1 - a.1) * (d.2 - c.2) = x at *
  generalize (b.2 - a.2) * (d.1 - c.1) = y at *
  omega
/-- On which side of a line a place lies. -/
def sdW (l : Ln) (p : Int × Int) : Int := if (liB l && plB p) = true then (if hgt l p < 0 then 1 else if 0 < hgt l p then -1 else 0) else 0
theorem sd_ways (l : Ln) (p : Int × Int) :
    (liB l = false ∧ sdW l p = 0) ∨ (liB l = true ∧ plB p = false ∧ sdW l p = 0) ∨ (liB l = true ∧ plB p = true ∧ hgt l p < 0 ∧ sdW l p = 1) ∨
    (liB l = true ∧ plB p = true ∧ ¬ hgt l p < 0 ∧ 0 < hgt l p ∧ sdW l p = -1) ∨ (liB l = true ∧ plB p = true ∧ ¬ hgt l p < 0 ∧ ¬ 0 < hgt l p ∧ sdW l p = 0) := by
  unfold sdW
  cases liB l <;> cases plB p <;> simp
  rcases Int.lt_trichotomy (hgt l p) 0 with h | h | h
  · left; exact ⟨h, fun k => absurd h (by omega)⟩
  · right; right; omega
  · right; left; omega
theorem sd_bd (l : Ln) (p : Int × Int) : -1 ≤ sdW l p ∧ sdW l p ≤ 1 := by
  unfold sdW
  split
  · split
    · omega
    · split <;> omega
  · omega
/-- How a step crosses, by the crosses of its ends and the sides. -/
def crV (x y s t : Int) : Int := if (0 < x ∧ 0 < y) ∨ (x < 0 ∧ y < 0) then 0 else if s ≤ 0 ∧ t = 1 then 1 else if s = 1 ∧ t ≤ 0 then -1 else 0
def crW (l : Ln) (a b : Int × Int) : Int := if (liB l && plB a && plB b) = true then crV (crx a b a l.1) (crx a b a l.2) (sdW l a) (sdW l b) else 0
theorem crW_no {l : Ln} {a b : Int × Int} (h : (liB l && plB a && plB b) = false) : crW l a b = 0 := by unfold crW; rw [h]; rfl
theorem crW_yes {l : Ln} {a b : Int × Int} (h1 : liB l = true) (h2 : plB a = true) (h3 : plB b = true) : crW l a b = crV (crx a b a l.1) (crx a b a l.2) (sdW l a) (sdW l b) := by unfold crW; rw [h1, h2, h3]; rfl
theorem cr_gate (x y : Int) : (0 < x ∧ 0 < y) ∨ (0 < x ∧ ¬ 0 < y ∧ ¬ x < 0) ∨ (¬ 0 < x ∧ x < 0 ∧ y < 0) ∨ (¬ 0 < x ∧ x < 0 ∧ ¬ y < 0) ∨ (¬ 0 < x ∧ ¬ x < 0) := by omega
theorem cr_dir {s t : Int} (h1 : s ≤ 1) : (s ≤ 0 ∧ t = 1) ∨ (s ≤ 0 ∧ ¬ t = 1 ∧ ¬ s = 1) ∨ (¬ s ≤ 0 ∧ s = 1 ∧ t ≤ 0) ∨ (¬ s ≤ 0 ∧ s = 1 ∧ ¬ t ≤ 0) := by omega
theorem crV_bd (x y s t : Int) : -1 ≤ crV x y s t ∧ crV x y s t ≤ 1 := by
  unfold crV
  split
  · omega
  · split
    · omega
    · split <;> omega
theorem crW_bd (l : Ln) (a b : Int × Int) : -1 ≤ crW l a b ∧ crW l a b ≤ 1 := by
  unfold crW
  split
  · exact crV_bd _ _ _ _
  · omega
end Go.Proofs.Ytibkhmdnfloemaa
