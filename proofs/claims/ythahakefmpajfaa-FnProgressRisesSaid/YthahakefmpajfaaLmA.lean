/- Rays, parts of tracks: in numbers (for the program's own way of reckoning). -/
import Derived.Test.YthahakefmpajfaaLkB
import Derived.Test.YthahakefmpajfaaLiC
namespace Go.Proofs.Ythahakefmpajfaa
open Go.RowKit
set_option linter.unusedVariables false
set_option linter.unusedSimpArgs false

theorem ray_hgt (o m p : Int × Int) : crx o m m p = hgt (o, m) p := by
  unfold hgt crx
  dsimp only
  grind
/-- The ways of a pass, as the program tells them apart. -/
theorem pass_ways (h k u v : Int) : (prV h k u v = 1 ∧ 0 < h ∧ k ≤ 0 ∧ 0 ≤ prN h k u v) ∨ (prV h k u v = 0 ∧ 0 < h ∧ k ≤ 0 ∧ ¬ 0 ≤ prN h k u v ∧ ¬ h ≤ 0) ∨ (prV h k u v = 0 ∧ 0 < h ∧ ¬ k ≤ 0 ∧ ¬ h ≤ 0) ∨
    (prV h k u v = -1 ∧ ¬ 0 < h ∧ h ≤ 0 ∧ 0 < k ∧ prN h k u v ≤ 0) ∨ (prV h k u v = 0 ∧ ¬ 0 < h ∧ h ≤ 0 ∧ 0 < k ∧ ¬ prN h k u v ≤ 0) ∨ (prV h k u v = 0 ∧ ¬ 0 < h ∧ h ≤ 0 ∧ ¬ 0 < k) := by
  have hv : prV h k u v = if (prN h k u v < 0 ∧ k < h) ∨ (0 < prN h k u v ∧ h < k) then 0 else if 0 < h ∧ k ≤ 0 then 1 else if h ≤ 0 ∧ 0 < k then -1 else 0 := rfl
  generalize prN h k u v = n at *
  generalize prV h k u v = r at *
  split at hv
  · omega
  · split at hv
    · omega
    · split at hv <;> omega
theorem prW_yes {o m a b : Int × Int} (h1 : liB (o, m) = true) (h2 : plB a = true) (h3 : plB b = true) : prW o m a b = prV (hgt (o, m) a) (hgt (o, m) b) (dtx o m m a) (dtx o m m b) := by
  obtain ⟨e1, e2, e3⟩ := liB_iff.1 h1
  dsimp only at e1 e2 e3
  unfold prW prB
  rw [e1, e2, h2, h3, if_pos (by simp [e3]), ray_hgt, ray_hgt]
theorem prB_li (o m a b : Int × Int) : prB o m a b = (liB (o, m) && plB a && plB b) := by
  unfold prB liB
  dsimp only
  cases plB o <;> cases plB m <;> cases plB a <;> cases plB b <;> simp
theorem prW_no {o m a b : Int × Int} (h : (liB (o, m) && plB a && plB b) = false) : prW o m a b = 0 := by
  unfold prW
  rw [prB_li, h]
  rfl
/-- A mark is in order exactly if the line from its origin to it is one (where the origin is a place). -/
theorem mk_li {c : Crs} {k : Nat} (h : plB (orgW c k) = true) : liB (orgW c k, (c.mf k).1) = true ↔ MkOk c k := by
  rw [liB_iff]
  unfold MkOk
  dsimp only
  exact ⟨fun ⟨_, a, b⟩ => ⟨a, fun e => b e.symm⟩, fun ⟨a, b⟩ => ⟨h, a, fun e => b e.symm⟩⟩
theorem ray_li {c : Crs} (h : CoOk c) {k : Nat} (hk : k < c.n) : liB (orgW c k, (c.mf k).1) = true := (mk_li (org_ok h (by omega))).2 (h.2.2.2 k hk)
theorem org_before {c : Crs} (h : liB c.st = true) {k : Nat} (hk : ∀ j, j < k → MkOk c j) : plB (orgW c k) = true := by
  unfold orgW
  split
  · exact (liB_iff.1 h).1
  · exact (hk (k - 1) (by omega)).1
/-- A part of a track. -/
def subF (f : Nat → Sg) (q j : Nat) : Sg := f (q + j)
theorem SigsIn.sub {w : World} {g o n : Nat} {f : Nat → Sg} (h : SigsIn w g o n f) {q m : Nat} (hm : q + m ≤ n) : SigsIn w g (o + q * 3) m (subF f q) := fun j hj => by
  obtain ⟨a, b, c⟩ := h (q + j) (by omega)
  rw [show o + (q + j) * 3 = o + q * 3 + j * 3 by omega] at a b c
  exact ⟨a, b, c⟩
theorem tk_sub {n : Nat} {f : Nat → Sg} (h : tkB n f = true) {q m : Nat} (hm : q + m ≤ n) : tkB m (subF f q) = true := by
  obtain ⟨h1, h2⟩ := tkB_iff.1 h
  refine tkB_iff.2 ⟨by omega, fun j hj => ?_⟩
  obtain ⟨a, b, c⟩ := h2 (q + j) (by omega)
  refine ⟨a, b, fun h0 => ?_⟩
  have := c (by omega)
  rw [show q + j - 1 = q + (j - 1) by omega] at this
  exact this
end Go.Proofs.Ythahakefmpajfaa
