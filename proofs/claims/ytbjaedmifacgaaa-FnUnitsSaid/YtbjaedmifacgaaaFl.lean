/- Plain facts on floating point words: what they read as, and which operations answer. Nothing here speaks of the program. -/
import Derived.WalkKit
import Derived.WalkLawsBesides
namespace Go.Proofs.Ytbjaedmifacgaaa
open Go.RowKit Ieee

theorem fl_binade_pos (f : Format) : 0 < f.binade := Nat.two_pow_pos _
theorem fl_word_read (f : Format) (neg : Bool) (r : Nat) (h : r < f.signWeight) : f.word neg r / f.signWeight % 2 = neg.toNat ∧ f.word neg r % f.signWeight = r := by
  have hp : 0 < f.signWeight := Nat.lt_of_le_of_lt (Nat.zero_le _) h
  unfold Format.word
  cases neg
  · simp [Nat.div_eq_of_lt h, Nat.mod_eq_of_lt h]
  · simp only [if_true, Bool.toNat_true]
    refine ⟨?_, ?_⟩
    · rw [Nat.add_div_left _ hp, Nat.div_eq_of_lt h]
    · rw [Nat.add_mod_left, Nat.mod_eq_of_lt h]

theorem fl_inf_lt (f : Format) : f.infRung < f.signWeight := f.infRung_lt

/-- A word of a rung, read. -/
theorem fl_read_word (f : Format) (neg : Bool) (r : Nat) (h : r < f.signWeight) :
    f.read (f.word neg r) = if r < f.binade then .number neg r f.leastPlace
      else if r < f.infRung then .number neg (f.binade + r % f.binade) (f.leastPlace + (r / f.binade - 1 : Nat))
      else if r = f.infRung then .infinity neg else .nan neg (r - f.infRung) := by
  obtain ⟨h1, h2⟩ := fl_word_read f neg r h
  have e : (f.word neg r / f.signWeight % 2 == 1) = neg := by rw [h1]; cases neg <;> rfl
  unfold Format.read
  simp only [h2, e]

theorem fl_read_word_nan (f : Format) (neg : Bool) (r : Nat) (h : r ≤ f.infRung) : (f.read (f.word neg r)).isNaN = false := by
  rw [fl_read_word f neg r (Nat.lt_of_le_of_lt h (fl_inf_lt f))]
  split
  · rfl
  · split
    · rfl
    · split
      · rfl
      · exact absurd h (by omega)

theorem fl_nearest_nan (f : Format) (neg : Bool) (mag : Nat) (place : Int) : (f.read (f.nearest neg mag place)).isNaN = false := by
  unfold Format.nearest
  split
  · exact fl_read_word_nan f neg 0 (Nat.zero_le _)
  · exact fl_read_word_nan f neg _ (Nat.min_le_right _ _)

/-- A quotient by a number other than nought is no NaN if the dividend is none. -/
theorem fl_div_some (f : Format) (x y : Nat) (hx : (f.read x).isNaN = false) {s : Bool} {m : Nat} {i : Int} (hy : f.read y = .number s m i) (hm : m ≠ 0) : ∃ r, f.div x y = some r := by
  unfold Format.div
  rw [hy]
  cases e : f.read x with
  | nan a b => rw [e] at hx; cases hx
  | infinity a => exact ⟨_, rfl⟩
  | number a b c =>
    simp only [Datum.quotient, if_neg hm, Option.map_some]
    exact ⟨_, rfl⟩

theorem fl_signed_zero (s : Bool) (u : Nat) : signed s 0 u = 0 := by cases s <;> simp [signed]
theorem fl_signed_eq_zero {s : Bool} {m u : Nat} (h : signed s m u = 0) : m = 0 := by
  have : m <<< u = 0 := by
    have h' : ((m <<< u : Nat) : Int) = 0 := by
      unfold signed at h
      split at h <;> omega
    omega
  rw [Nat.shiftLeft_eq] at this
  rcases Nat.mul_eq_zero.1 this with h | h
  · exact h
  · exact absurd h (Nat.pos_iff_ne_zero.1 (Nat.two_pow_pos _))

/-- A number that is no NaN equals itself; one that is equals nothing. -/
theorem fl_order_self (f : Format) (x : Nat) : f.order x x = if (f.read x).isNaN then none else some .eq := by
  unfold Format.order
  cases f.read x with
  | nan a b => rfl
  | infinity a => cases a <;> rfl
  | number a b c => simp [Datum.order, Datum.isNaN]

theorem fl_compare_eq {a b : Int} (h : compare a b = .eq) : a = b := by
  simpa using h

/-- What equals a zero is a zero. -/
theorem fl_order_zero {f : Format} {x z : Nat} {s : Bool} {i : Int} (hz : f.read z = .number s 0 i) (h : f.order x z = some .eq) : ∃ t j, f.read x = .number t 0 j := by
  unfold Format.order at h
  rw [hz] at h
  cases e : f.read x with
  | nan a b => rw [e] at h; cases h
  | infinity a => rw [e] at h; cases a <;> simp [Datum.order] at h
  | number a b c =>
    rw [e] at h
    simp only [Datum.order, fl_signed_zero, Option.some.injEq] at h
    have := fl_signed_eq_zero (fl_compare_eq h)
    subst this
    exact ⟨a, c, rfl⟩

/-- A number other than nought by a zero: an infinity. -/
theorem fl_div_zero_some {f : Format} {x y : Nat} {s t : Bool} {m : Nat} {i j : Int} (hx : f.read x = .number s m i) (hm : m ≠ 0) (hy : f.read y = .number t 0 j) : ∃ r, f.div x y = some r := by
  unfold Format.div
  rw [hx, hy]
  simp only [Datum.quotient, if_pos, if_neg hm, Option.map_some]
  exact ⟨_, rfl⟩
end Go.Proofs.Ytbjaedmifacgaaa
