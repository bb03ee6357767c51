/- A track that is cut behind a rounding, or ahead of it. -/
import Derived.Test.YthahakefmpajfaaLkB
import Derived.Test.YthahakefmpajfaaLiC
namespace Go.Proofs.Ythahakefmpajfaa
open Go.RowKit
set_option linter.unusedVariables false
set_option linter.unusedSimpArgs false

theorem tk_prefix {n m : Nat} {f : Nat → Sg} (h : TkOk n f) (hm : m ≤ n) : TkOk m f := ⟨by have := h.1; omega, fun j hj => h.2 j (by omega)⟩
theorem ro_cut {c : Crs} {k : Int} {n : Nat} {f : Nat → Sg} {b : Int} {i : Nat} (h : roW c k n f b = i) : roW c k (i + 1) f b = i ∧ roW c k i f b = -1 ∧ b < i ∧ i < n := by
  rcases ro_ok c k n f b with h0 | ⟨h0, h1, h2⟩
  · omega
  · have hb := h0
    unfold roB at hb
    simp only [Bool.and_eq_true, decide_eq_true_eq] at hb
    obtain ⟨⟨⟨b1, b2⟩, b3⟩, b4, b5⟩ := hb
    have hr := h
    unfold roW at hr
    rw [if_pos h0] at hr
    have hcut := roFrom_cut _ _ _ _ _ _ _ (i - b.toNat - 1) (show _ = (b.toNat : Int) + ((i - b.toNat - 1 : Nat) : Int) + 1 by rw [hr]; omega)
    have hk : tkB (i + 1) f = true := tkB_iff.2 (tk_prefix (tkB_iff.1 b2) (by omega))
    refine ⟨?_, ?_, by omega, by omega⟩
    · have hB : roB c k (i + 1) f b = true := by
        unfold roB
        simp only [Bool.and_eq_true, decide_eq_true_eq]
        exact ⟨⟨⟨b1, hk⟩, b3⟩, b4, by omega⟩
      unfold roW
      rw [if_pos hB, hcut.1 _ (by omega)]
      omega
    · unfold roW
      split
      · exact hcut.2 _ (by omega)
      · rfl
theorem ro_neg {c : Crs} {k : Int} {n : Nat} {f : Nat → Sg} {b : Int} (h : roW c k n f b < 0) : roW c k n f b = -1 := by
  rcases ro_ok c k n f b with h0 | ⟨h0, h1, h2⟩
  · exact h0
  · unfold roB at h0
    simp only [Bool.and_eq_true, decide_eq_true_eq] at h0
    omega
/-- The sight to begin with, for the j-th mark. -/
def begW (l : List Int) (b : Int) (j : Nat) : Int := if j = 0 then b else l.getD (j - 1) 0
theorem pg_steps (c : Crs) (n : Nat) (f : Nat → Sg) : ∀ (r k : Nat) (b : Int), (pgFrom c n f r k b).length ≤ r ∧ (∀ j, j < (pgFrom c n f r k b).length → roW c ((k + j : Nat) : Int) n f (begW (pgFrom c n f r k b) b j) = (pgFrom c n f r k b).getD j 0 ∧ begW (pgFrom c n f r k b) b j < (pgFrom c n f r k b).getD j 0) ∧
    ((pgFrom c n f r k b).length = r ∨ roW c ((k + (pgFrom c n f r k b).length : Nat) : Int) n f (begW (pgFrom c n f r k b) b (pgFrom c n f r k b).length) = -1)
  | 0, k, b => ⟨Nat.le_refl _, fun j hj => absurd hj (Nat.not_lt_zero _), .inl rfl⟩
  | r + 1, k, b => by
    have hro := ro_ok c k n f b
    by_cases h : roW c k n f b < 0
    · have e : pgFrom c n f (r + 1) k b = [] := by show (if _ then _ else _) = _; rw [if_pos h]
      rw [e]
      refine ⟨Nat.zero_le _, fun j hj => absurd hj (Nat.not_lt_zero _), .inr ?_⟩
      show roW c ((k + 0 : Nat) : Int) n f b = -1
      rw [Nat.add_zero]; exact ro_neg h
    · have e : pgFrom c n f (r + 1) k b = roW c k n f b :: pgFrom c n f r (k + 1) (roW c k n f b) := by show (if _ then _ else _) = _; rw [if_neg h]
      obtain ⟨i1, i2, i3⟩ := pg_steps c n f r (k + 1) (roW c k n f b)
      rw [e]
      generalize pgFrom c n f r (k + 1) (roW c k n f b) = l at *
      have hbeg : ∀ j, begW (roW c k n f b :: l) b (j + 1) = begW l (roW c k n f b) j := fun j => by
        unfold begW
        match j with
        | 0 => simp
        | j + 1 => simp
      refine ⟨by simpa using i1, fun j hj => ?_, ?_⟩
      · match j with
        | 0 =>
          refine ⟨rfl, ?_⟩
          show b < roW c k n f b
          rcases hro with h0 | ⟨_, h1, _⟩ <;> omega
        | j + 1 =>
          rw [hbeg]
          have := i2 j (by simpa using hj)
          rw [show k + 1 + j = k + (j + 1) by omega] at this
          simpa using this
      · rcases i3 with h3 | h3
        · exact .inl (by simp [h3])
        · right
          rw [List.length_cons, hbeg]
          rw [show k + 1 + l.length = k + (l.length + 1) by omega] at h3
          exact h3
end Go.Proofs.Ythahakefmpajfaa
