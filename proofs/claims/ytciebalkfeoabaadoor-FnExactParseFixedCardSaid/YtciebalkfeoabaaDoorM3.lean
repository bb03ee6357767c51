/- Plain mathematics for chapter 1: texts of digits. Nothing here speaks of the program. -/
import Derived.WalkKit
import Derived.Test.YtciebalkfeoabaaDoorM1
import Derived.Test.YtciebalkfeoabaaDoorM2
namespace Go.Proofs.YtciebalkfeoabaaDoor
open Go.RowKit

def isDig (c : Int) : Prop := 48 ≤ c ∧ c ≤ 57
/-- The first k bytes are digits; the number that they tell. -/
def allDig (s : ByteArray) (k : Nat) : Prop := ∀ j, j < k → isDig (byteAt s j)
def numTo (s : ByteArray) : Nat → Int
  | 0 => 0
  | k + 1 => 10 * numTo s k + byteAt s k - 48
theorem numTo_zero (s : ByteArray) : numTo s 0 = 0 := rfl
theorem numTo_succ (s : ByteArray) (k : Nat) : numTo s (k + 1) = 10 * numTo s k + byteAt s k - 48 := rfl
theorem allDig_zero (s : ByteArray) : allDig s 0 := fun j hj => absurd hj (by omega)
theorem allDig_succ {s : ByteArray} {k : Nat} (h : allDig s k) (h1 : isDig (byteAt s k)) : allDig s (k + 1) := fun j hj => by
  by_cases e : j = k
  · exact e ▸ h1
  · exact h j (by omega)
theorem numTo_pow {s : ByteArray} : ∀ {k : Nat}, allDig s k → 0 ≤ numTo s k ∧ numTo s k + 1 ≤ (10 : Int) ^ k
  | 0, _ => ⟨by simp [numTo], by simp [numTo]⟩
  | k + 1, h => by
    have ih := numTo_pow (k := k) (fun j hj => h j (by omega))
    have hd := h k (by omega)
    unfold isDig at hd
    rw [numTo_succ, Int.pow_succ]
    omega
theorem numTo_bd {s : ByteArray} {k : Nat} (h : allDig s k) (hk : k ≤ 10) : 0 ≤ numTo s k ∧ numTo s k ≤ 9999999999 := by
  obtain ⟨h0, h1⟩ := numTo_pow h
  refine ⟨h0, ?_⟩
  have hp : (10 : Int) ^ k ≤ 10 ^ 10 := by
    have : (10 : Nat) ^ k ≤ 10 ^ 10 := Nat.pow_le_pow_right (by omega) hk
    exact_mod_cast this
  omega

/-- What ParseUint answers. -/
noncomputable def puOk (s : ByteArray) : Bool := @decide (s.size ≤ 10 ∧ allDig s s.size ∧ numTo s s.size ≤ 1000000000 ∧ Lib.itoa (numTo s s.size) = s.data.toList) (Classical.propDecidable _)
noncomputable def puVal (s : ByteArray) : Int := if puOk s = true then numTo s s.size else 0
def PuNo : Ending := .returned (.tuple #[.int .i64 0, .bool false])
theorem pu_no {s : ByteArray} (h : puOk s = false) : Ending.returned (.tuple #[.int .i64 0, .bool false]) = .returned (.tuple #[.int .i64 (puVal s), .bool (puOk s)]) := by
  unfold puVal; rw [h]; rfl
theorem pu_not {s : ByteArray} (h : ¬ (s.size ≤ 10 ∧ allDig s s.size ∧ numTo s s.size ≤ 1000000000 ∧ Lib.itoa (numTo s s.size) = s.data.toList)) : puOk s = false := by
  unfold puOk; simp only [decide_eq_false_iff_not]; exact h
theorem pu_bad {s : ByteArray} {k : Nat} (hk : k < s.size) (h : ¬ isDig (byteAt s k)) : Ending.returned (.tuple #[.int .i64 0, .bool false]) = .returned (.tuple #[.int .i64 (puVal s), .bool (puOk s)]) :=
  pu_no (by unfold puOk; simp only [decide_eq_false_iff_not]; exact fun hh => h (hh.2.1 k hk))
theorem pu_yes {s : ByteArray} (h : s.size ≤ 10) (h1 : allDig s s.size) (h2 : numTo s s.size ≤ 1000000000) (h3 : Lib.itoa (numTo s s.size) = s.data.toList) :
    Ending.returned (.tuple #[.int .i64 (numTo s s.size), .bool true]) = .returned (.tuple #[.int .i64 (puVal s), .bool (puOk s)]) := by
  have e : puOk s = true := by unfold puOk; simp only [decide_eq_true_eq]; exact ⟨h, h1, h2, h3⟩
  unfold puVal; rw [e]; rfl
end Go.Proofs.YtciebalkfeoabaaDoor
