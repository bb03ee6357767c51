/- The walks of product, l02Times, l02Step, allTurns, Turn (impl and spec). -/
import Derived.Test.YtibkhmdnfloemaaRows
import Derived.Test.YtibkhmdnfloemaaTn
import Derived.Test.YtibkhmdnfloemaaDeg
import Derived.Test.YtibkhmdnfloemaaFA
import Derived.WalkKit
import Derived.WalkSpells
import Derived.WalkLawsBesides
import Derived.Lib.Hide
import Derived.Deep.WholeRow
namespace Go.Proofs.Ytibkhmdnfloemaa
open Go.RowKit Ieee

/-- A turn, as a value. -/
def tv (k : Nat) : Value := .complex .f64 (trn k).1 (trn k).2

/-- What the checks of the table say of each turn. -/
theorem chkW_at : ∀ (l : List (Nat × Nat)) (j : Nat), chkW l = true → (∀ t, l[0]? = some t → t = trn j) → ∀ i t, l[i]? = some t → t = trn (j + i) ∧ okT t = true
  | [], _, _, _, i, t, h => by simp at h
  | t0 :: ts, j, hc, h0, i, t, h => by
    rw [chkW.eq_def] at hc
    simp only [Bool.and_eq_true] at hc
    obtain ⟨⟨c1, c2⟩, c3⟩ := hc
    have e0 := h0 t0 rfl
    cases i with
    | zero =>
      have : t0 = t := by simpa using h
      subst this
      exact ⟨e0, c1⟩
    | succ i =>
      have h' : ts[i]? = some t := by simpa using h
      have hnext : ∀ u, ts[0]? = some u → u = trn (j + 1) := fun u hu => by
        cases ts with
        | nil => simp at hu
        | cons v vs =>
          have : v = u := by simpa using hu
          subst this
          simp only [Bool.and_eq_true] at c2
          have e1 := Nat.eq_of_beq_eq_true c2.1
          have e2 := Nat.eq_of_beq_eq_true c2.2
          rw [e0] at e1 e2
          exact (Prod.ext e1 e2).symm
      have := chkW_at ts (j + 1) c3 hnext i t h'
      rw [show j + 1 + i = j + (i + 1) by omega] at this
      exact this
set_option maxRecDepth 100000 in
theorem tab_at (k : Nat) (hk : k < 360) : tabW[k]? = some (trn k) ∧ okT (trn k) = true := by
  have hl := tab_len
  have h : tabW[k]? = some tabW[k] := List.getElem?_eq_getElem (by omega)
  have h0 : ∀ t, tabW[0]? = some t → t = trn 0 := fun t ht => by
    have e : tabW[0]? = some (trn 0) := by kernel_rfl
    rw [e] at ht
    exact (Option.some.inj ht).symm
  obtain ⟨e, o⟩ := chkW_at tabW 0 chkW_tab h0 k _ h
  rw [Nat.zero_add] at e
  rw [h, e]
  rw [e] at o
  exact ⟨rfl, o⟩
theorem some_getD {o : Option Nat} (h : o.isSome = true) : o = some (o.getD 0) := by cases o with
  | none => cases h
  | some a => rfl
/-- All that the walk asks of one degree more. -/
theorem trn_ops (k : Nat) (hk : k < 360) : ∃ ac bd ad' bc, floatBits .mul .f64 (trn k).1 4607181046959943561 = some ac ∧ floatBits .mul .f64 (trn k).2 4580687535080594718 = some bd ∧ floatBits .mul .f64 (trn k).1 4580687535080594718 = some ad' ∧
    floatBits .mul .f64 (trn k).2 4607181046959943561 = some bc ∧ floatBits .sub .f64 ac bd = some (trn (k + 1)).1 ∧ floatBits .add .f64 ad' bc = some (trn (k + 1)).2 := by
  have h := (tab_at k hk).2
  unfold okT at h
  simp only [Bool.and_eq_true] at h
  obtain ⟨⟨⟨⟨⟨h1, h2⟩, h3⟩, h4⟩, h5⟩, h6⟩ := h
  exact ⟨_, _, _, _, some_getD h1, some_getD h2, some_getD h3, some_getD h4, some_getD h5, some_getD h6⟩

end Go.Proofs.Ytibkhmdnfloemaa
