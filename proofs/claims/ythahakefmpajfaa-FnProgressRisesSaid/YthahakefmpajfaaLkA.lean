/- Marks, courses, rays: what they are, in whole numbers. Nothing here speaks of the program. -/
import Derived.Test.YthahakefmpajfaaLiA
namespace Go.Proofs.Ythahakefmpajfaa
open Go.RowKit

/-- The dot of b less a, and d less c. -/
def dtx (a b c d : Int × Int) : Int := (b.1 - a.1) * (d.1 - c.1) + (b.2 - a.2) * (d.2 - c.2)
theorem dtx_bd {a b c d : Int × Int} (ha : plB a = true) (hb : plB b = true) (hc : plB c = true) (hd : plB d = true) :
    (-20000 ≤ b.1 - a.1 ∧ b.1 - a.1 ≤ 20000) ∧ (-20000 ≤ d.1 - c.1 ∧ d.1 - c.1 ≤ 20000) ∧ (-20000 ≤ b.2 - a.2 ∧ b.2 - a.2 ≤ 20000) ∧ (-20000 ≤ d.2 - c.2 ∧ d.2 - c.2 ≤ 20000) ∧
    (-400000000 ≤ (b.1 - a.1) * (d.1 - c.1) ∧ (b.1 - a.1) * (d.1 - c.1) ≤ 400000000) ∧ (-400000000 ≤ (b.2 - a.2) * (d.2 - c.2) ∧ (b.2 - a.2) * (d.2 - c.2) ≤ 400000000) ∧ -800000000 ≤ dtx a b c d ∧ dtx a b c d ≤ 800000000 := by
  have a1 := plB_iff.1 ha
  have b1 := plB_iff.1 hb
  have c1 := plB_iff.1 hc
  have d1 := plB_iff.1 hd
  have m1 := mul_bdI (a := b.1 - a.1) (b := d.1 - c.1) (m := 20000) (n := 20000) (by omega) (by omega) (by omega) (by omega)
  have m2 := mul_bdI (a := b.2 - a.2) (b := d.2 - c.2) (m := 20000) (n := 20000) (by omega) (by omega) (by omega) (by omega)
  unfold dtx
  generalize (b.1 - a.1) * (d.1 - c.1) = x at *
  generalize (b.2 - a.2) * (d.2 - c.2) = y at *
  omega
theorem crx_bd8 {a b c d : Int × Int} (ha : plB a = true) (hb : plB b = true) (hc : plB c = true) (hd : plB d = true) : -800000000 ≤ crx a b c d ∧ crx a b c d ≤ 800000000 := by
  obtain ⟨_, _, _, _, _, _, h⟩ := crx_bd ha hb hc hd
  exact h
/-- How a step passes a ray, by heights and ways along. -/
def prN (h k u v : Int) : Int := v * h - u * k
def prV (h k u v : Int) : Int := if (prN h k u v < 0 ∧ k < h) ∨ (0 < prN h k u v ∧ h < k) then 0 else if 0 < h ∧ k ≤ 0 then 1 else if h ≤ 0 ∧ 0 < k then -1 else 0
def prB (o m a b : Int × Int) : Bool := plB o && plB m && plB a && plB b && decide (¬ o = m)
def prW (o m a b : Int × Int) : Int := if prB o m a b = true then prV (crx o m m a) (crx o m m b) (dtx o m m a) (dtx o m m b) else 0
theorem prN_bd {h k u v : Int} (bh : -800000000 ≤ h ∧ h ≤ 800000000) (bk : -800000000 ≤ k ∧ k ≤ 800000000) (bu : -800000000 ≤ u ∧ u ≤ 800000000) (bv : -800000000 ≤ v ∧ v ≤ 800000000) :
    (-640000000000000000 ≤ v * h ∧ v * h ≤ 640000000000000000) ∧ (-640000000000000000 ≤ u * k ∧ u * k ≤ 640000000000000000) := by
  have m1 := mul_bdI bv.1 bv.2 bh.1 bh.2
  have m2 := mul_bdI bu.1 bu.2 bk.1 bk.2
  omega
theorem prV_bd (h k u v : Int) : -1 ≤ prV h k u v ∧ prV h k u v ≤ 1 := by
  unfold prV
  split
  · omega
  · split
    · omega
    · split <;> omega
theorem prW_bd (o m a b : Int × Int) : -1 ≤ prW o m a b ∧ prW o m a b ≤ 1 := by
  unfold prW
  split
  · exact prV_bd _ _ _ _
  · omega
/-- The ways of a pass, told apart. -/
theorem pr_ways (h k n : Int) : (n < 0 ∧ k < h) ∨ (n < 0 ∧ ¬ k < h ∧ ¬ 0 < n) ∨ (¬ n < 0 ∧ 0 < n ∧ h < k) ∨ (¬ n < 0 ∧ 0 < n ∧ ¬ h < k) ∨ (¬ n < 0 ∧ ¬ 0 < n) := by omega
theorem pr_dir (h k : Int) : (0 < h ∧ k ≤ 0) ∨ (0 < h ∧ ¬ k ≤ 0 ∧ ¬ h ≤ 0) ∨ (¬ 0 < h ∧ h ≤ 0 ∧ 0 < k) ∨ (¬ 0 < h ∧ h ≤ 0 ∧ ¬ 0 < k) := by omega
/-- A mark: where it is, and whether it is left to starboard. -/
abbrev Mk := (Int × Int) × Bool
/-- A course: its start, its marks, its finish. -/
structure Crs where
  st : Ln
  n : Nat
  mf : Nat → Mk
  fi : Ln
def orgW (c : Crs) (k : Nat) : Int × Int := if k = 0 then c.st.1 else (c.mf (k - 1)).1
def MkOk (c : Crs) (k : Nat) : Prop := plB (c.mf k).1 = true ∧ ¬ (c.mf k).1 = orgW c k
def CoOk (c : Crs) : Prop := liB c.st = true ∧ liB c.fi = true ∧ (1 ≤ c.n ∧ c.n ≤ 20) ∧ ∀ k, k < c.n → MkOk c k
noncomputable def coB (c : Crs) : Bool := @decide (CoOk c) (Classical.propDecidable _)
theorem coB_iff {c : Crs} : coB c = true ↔ CoOk c := by unfold coB; exact @decide_eq_true_iff _ (Classical.propDecidable _)
theorem coB_no {c : Crs} (h : ¬ CoOk c) : coB c = false := by
  cases e : coB c
  · rfl
  · exact absurd (coB_iff.1 e) h
theorem org_ok {c : Crs} (h : CoOk c) {k : Nat} (hk : k ≤ c.n) : plB (orgW c k) = true := by
  unfold orgW
  split
  · exact (liB_iff.1 h.1).1
  · exact (h.2.2.2 (k - 1) (by omega)).1
end Go.Proofs.Ythahakefmpajfaa
