/- Rays that are passed by a step that is cut, in whole numbers; marks that are rounded. Nothing here speaks of the program. -/
import Derived.Test.YthahakefmpajfaaLkA
import Derived.Test.YthahakefmpajfaaMdA
import Derived.Test.YthahakefmpajfaaLiC
namespace Go.Proofs.Ythahakefmpajfaa
open Go.RowKit

theorem crx_lin (o m a b : Int × Int) : 2 * crx o m m (midP a b) = crx o m m a + crx o m m (endP a b) := by
  unfold crx midP endP
  dsimp only
  generalize (b.1 - a.1).tdiv 2 = x
  generalize (b.2 - a.2).tdiv 2 = y
  grind
theorem dtx_lin (o m a b : Int × Int) : 2 * dtx o m m (midP a b) = dtx o m m a + dtx o m m (endP a b) := by
  unfold dtx midP endP
  dsimp only
  generalize (b.1 - a.1).tdiv 2 = x
  generalize (b.2 - a.2).tdiv 2 = y
  grind
theorem prN_first {h k u v h' u' : Int} (e1 : 2 * h' = h + k) (e2 : 2 * u' = u + v) : 2 * prN h h' u u' = prN h k u v ∧ 2 * prN h' k u' v = prN h k u v := by
  unfold prN
  constructor <;> grind
/-- Is it on the ray's one side? As a number. -/
def psI (h : Int) : Int := if 0 < h then 1 else 0
theorem prV_ps (h k u v : Int) : prV h k u v = if (prN h k u v < 0 ∧ k < h) ∨ (0 < prN h k u v ∧ h < k) then 0 else psI h - psI k := by
  unfold prV psI
  by_cases g : (prN h k u v < 0 ∧ k < h) ∨ (0 < prN h k u v ∧ h < k)
  · rw [if_pos g, if_pos g]
  · rw [if_neg g, if_neg g]
    by_cases h1 : 0 < h <;> by_cases h2 : 0 < k
    · rw [if_neg (by omega), if_neg (by omega), if_pos h1, if_pos h2]; rfl
    · rw [if_pos ⟨h1, by omega⟩, if_pos h1, if_neg h2]; rfl
    · rw [if_neg (by omega), if_pos ⟨by omega, h2⟩, if_neg h1, if_pos h2]; rfl
    · rw [if_neg (by omega), if_neg (by omega), if_neg h1, if_neg h2]; rfl
theorem cut_prV {h k u v h' u' : Int} (e1 : 2 * h' = h + k) (e2 : 2 * u' = u + v) : prV h k u v = prV h h' u u' + prV h' k u' v := by
  obtain ⟨n1, n2⟩ := prN_first e1 e2
  rw [prV_ps, prV_ps, prV_ps]
  generalize prN h k u v = n at *
  generalize prN h h' u u' = n' at *
  generalize prN h' k u' v = n'' at *
  by_cases g : (n < 0 ∧ k < h) ∨ (0 < n ∧ h < k)
  · rw [if_pos g, if_pos (by omega), if_pos (by omega)]; rfl
  · rw [if_neg g, if_neg (by omega), if_neg (by omega)]; omega
/-- A step that is cut passes a ray alike. -/
theorem cut_pr {o m a b : Int × Int} (ha : plB a = true) (hb : plB b = true) : prW o m a (endP a b) = prW o m a (midP a b) + prW o m (midP a b) (endP a b) := by
  obtain ⟨hm, hu⟩ := mid_ok ha hb
  unfold prW prB
  rw [ha, hm, hu]
  simp only [Bool.and_true]
  split
  · exact cut_prV (crx_lin o m a b) (dtx_lin o m a b)
  · rfl
/-- Where a mark is rounded: so many steps from a sight on, with a sum so far. -/
def roFrom (o m : Int × Int) (want : Int) (f : Nat → Sg) : Nat → Nat → Int → Int
  | 0, _, _ => -1
  | r + 1, i, s => if s + prW o m (f i).1 (f (i + 1)).1 = want then (i : Int) + 1 else roFrom o m want f r (i + 1) (s + prW o m (f i).1 (f (i + 1)).1)
def wantW (b : Bool) : Int := if b = true then -1 else 1
noncomputable def roB (c : Crs) (k : Int) (n : Nat) (f : Nat → Sg) (b : Int) : Bool := coB c && tkB n f && decide (0 ≤ k ∧ k ≤ (c.n : Int) - 1) && decide (0 ≤ b ∧ b ≤ (n : Int) - 1)
noncomputable def roW (c : Crs) (k : Int) (n : Nat) (f : Nat → Sg) (b : Int) : Int :=
  if roB c k n f b = true then roFrom (orgW c k.toNat) (c.mf k.toNat).1 (wantW (c.mf k.toNat).2) f (n - 1 - b.toNat) b.toNat 0 else -1
theorem roFrom_ok (o m : Int × Int) (want : Int) (f : Nat → Sg) : ∀ (r i : Nat) (s : Int), roFrom o m want f r i s = -1 ∨ ((i : Int) < roFrom o m want f r i s ∧ roFrom o m want f r i s ≤ (i : Int) + r)
  | 0, i, s => .inl rfl
  | r + 1, i, s => by
    have ih := roFrom_ok o m want f r (i + 1) (s + prW o m (f i).1 (f (i + 1)).1)
    unfold roFrom
    split
    · right; omega
    · rcases ih with h | ⟨h1, h2⟩
      · exact .inl h
      · right; omega
/-- What stands behind where a mark is rounded does not matter: fewer steps. -/
theorem roFrom_cut (o m : Int × Int) (want : Int) (f : Nat → Sg) : ∀ (r i : Nat) (s : Int) (d : Nat), roFrom o m want f r i s = (i : Int) + (d : Int) + 1 → (∀ r', d + 1 ≤ r' → roFrom o m want f r' i s = (i : Int) + (d : Int) + 1) ∧ (∀ r', r' ≤ d → roFrom o m want f r' i s = -1)
  | 0, i, s, d, h => by have : roFrom o m want f 0 i s = -1 := rfl; omega
  | r + 1, i, s, d, h => by
    have e : ∀ q, roFrom o m want f (q + 1) i s = if s + prW o m (f i).1 (f (i + 1)).1 = want then (i : Int) + 1 else roFrom o m want f q (i + 1) (s + prW o m (f i).1 (f (i + 1)).1) := fun q => rfl
    rw [e] at h
    by_cases g : s + prW o m (f i).1 (f (i + 1)).1 = want
    · rw [if_pos g] at h
      obtain rfl : d = 0 := by omega
      refine ⟨fun r' hr' => ?_, fun r' hr' => ?_⟩
      · rw [show r' = (r' - 1) + 1 by omega, e, if_pos g]; omega
      · rw [show r' = 0 by omega]; rfl
    · rw [if_neg g] at h
      have hk := roFrom_ok o m want f r (i + 1) (s + prW o m (f i).1 (f (i + 1)).1)
      obtain ⟨d', rfl⟩ : ∃ d', d = d' + 1 := ⟨d - 1, by omega⟩
      have ih := roFrom_cut o m want f r (i + 1) (s + prW o m (f i).1 (f (i + 1)).1) d' (by omega)
      refine ⟨fun r' hr' => ?_, fun r' hr' => ?_⟩
      · rw [show r' = (r' - 1) + 1 by omega, e, if_neg g, ih.1 (r' - 1) (by omega)]; omega
      · rcases Nat.eq_zero_or_pos r' with rfl | hp
        · rfl
        · rw [show r' = (r' - 1) + 1 by omega, e, if_neg g, ih.2 (r' - 1) (by omega)]
theorem ro_ok (c : Crs) (k : Int) (n : Nat) (f : Nat → Sg) (b : Int) : roW c k n f b = -1 ∨ (roB c k n f b = true ∧ b < roW c k n f b ∧ roW c k n f b ≤ (n : Int) - 1) := by
  unfold roW
  by_cases h : roB c k n f b = true
  · rw [if_pos h]
    have h2 := h
    unfold roB at h2
    simp only [Bool.and_eq_true, decide_eq_true_eq] at h2
    obtain ⟨_, h3⟩ := h2
    rcases roFrom_ok (orgW c k.toNat) (c.mf k.toNat).1 (wantW (c.mf k.toNat).2) f (n - 1 - b.toNat) b.toNat 0 with h4 | ⟨h4, h5⟩
    · exact .inl h4
    · right; exact ⟨h, by omega, by omega⟩
  · rw [if_neg h]; exact .inl rfl
/-- The sights at which marks are rounded. -/
noncomputable def pgFrom (c : Crs) (n : Nat) (f : Nat → Sg) : Nat → Nat → Int → List Int
  | 0, _, _ => []
  | r + 1, k, b => if roW c k n f b < 0 then [] else roW c k n f b :: pgFrom c n f r (k + 1) (roW c k n f b)
noncomputable def pgW (c : Crs) (n : Nat) (f : Nat → Sg) (b : Int) : List Int := pgFrom c n f c.n 0 b
end Go.Proofs.Ythahakefmpajfaa
