/- Starts along a part of a track, in numbers. -/
import Derived.Test.YthahakefmpajfaaLmA
import Derived.Test.YthahakefmpajfaaLkH
import Derived.Test.YthahakefmpajfaaLjH
namespace Go.Proofs.Ythahakefmpajfaa
open Go.RowKit
set_option linter.unusedVariables false
set_option linter.unusedSimpArgs false

theorem hit_sub (l : Ln) (f : Nat → Sg) (gun : Int) (q k : Nat) : hitB l (subF f q) gun k = hitB l f gun (q + k) := rfl
theorem st_sub (l : Ln) (f : Nat → Sg) (gun : Int) (q : Nat) : ∀ r i, stFrom l (subF f q) gun r i = stFrom l f gun r (q + i)
  | 0, i => rfl
  | r + 1, i => by
    have ih := st_sub l f gun q r (i + 1)
    have e1 : stFrom l (subF f q) gun (r + 1) i = if hitB l (subF f q) gun i = true then (ctW l (subF f q i) (subF f q (i + 1)), true) else stFrom l (subF f q) gun r (i + 1) := rfl
    have e2 : stFrom l f gun (r + 1) (q + i) = if hitB l f gun (q + i) = true then (ctW l (f (q + i)) (f (q + i + 1)), true) else stFrom l f gun r (q + i + 1) := rfl
    rw [e1, e2, ih, hit_sub]
    rfl
/-- The first step that crosses the line, told as a start at a gun at nought. -/
theorem st_fn (l : Ln) {n : Nat} {f : Nat → Sg} (h : tkB n f = true) : ∀ r i, i + r + 1 ≤ n → stFrom l f 0 r i = fnFrom l f r i
  | 0, i, _ => rfl
  | r + 1, i, hi => by
    have ih := st_fn l h r (i + 1) (by omega)
    have e1 : stFrom l f 0 (r + 1) i = if hitB l f 0 i = true then (ctW l (f i) (f (i + 1)), true) else stFrom l f 0 r (i + 1) := rfl
    have e2 : fnFrom l f (r + 1) i = if crW l (f i).1 (f (i + 1)).1 = 1 then (ctW l (f i) (f (i + 1)), ctB l (f i) (f (i + 1))) else fnFrom l f r (i + 1) := rfl
    have e3 : hitB l f 0 i = (ctB l (f i) (f (i + 1)) && decide (0 ≤ ctW l (f i) (f (i + 1))) && decide (crW l (f i).1 (f (i + 1)).1 = 1)) := rfl
    have e4 : ctB l (f i) (f (i + 1)) = !(decide (crW l (f i).1 (f (i + 1)).1 = 0)) := by unfold ctB; rw [tk_step h (by omega), Bool.and_true]
    have e5 := (ct_bd l (f i) (f (i + 1))).1
    rw [e1, e2, ih, e3, e4]
    by_cases hc : crW l (f i).1 (f (i + 1)).1 = 1
    · simp [hc, e5]
    · simp [hc]
theorem st_two (l : Ln) {n : Nat} {f : Nat → Sg} (h : tkB n f = true) (gun : Int) {i : Nat} (hi : i + 2 ≤ n) : stR l 2 (subF f i) gun = if hitB l f gun i = true then (ctW l (f i) (f (i + 1)), true) else (0, false) := by
  unfold stR
  rw [if_pos (tk_sub h hi), st_sub]
  rfl
theorem st_rest (l : Ln) {n : Nat} {f : Nat → Sg} (h : tkB n f = true) {q : Nat} (hq : q < n) : stR l (n - q) (subF f q) 0 = fnFrom l f (n - 1 - q) q := by
  unfold stR
  rw [if_pos (tk_sub h (by omega)), st_sub, show n - q - 1 = n - 1 - q by omega, Nat.add_zero]
  exact st_fn l h _ _ (by omega)
/-- With no sight to begin at nothing is rounded. -/
theorem fn_none (c : Crs) (n : Nat) (f : Nat → Sg) {b : Int} (hb : b < 0) : fnW c n f b = (0, false) := by
  have h0 : pgW c n f b = [] := by
    unfold pgW
    cases hn : c.n with
    | zero => rfl
    | succ m =>
      unfold pgFrom
      rw [if_pos]
      rcases ro_ok c ((0 : Nat) : Int) n f b with h | ⟨h, _⟩
      · omega
      · unfold roB at h
        simp only [Bool.and_eq_true, decide_eq_true_eq] at h
        omega
  unfold fnW
  rw [h0]
  simp
end Go.Proofs.Ythahakefmpajfaa
