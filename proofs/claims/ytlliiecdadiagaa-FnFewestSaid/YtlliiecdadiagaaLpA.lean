/- Sails and moments: names, winds and angles, in words and whole numbers. Nothing here speaks of the program. -/
import Derived.Test.YtlliiecdadiagaaSA
import Derived.Test.YtlliiecdadiagaaLiA
import Derived.Test.YtlliiecdadiagaaM1
namespace Go.Proofs.Ytlliiecdadiagaa
open Go.RowKit Ieee
set_option linter.unusedVariables false
set_option linter.unusedSimpArgs false

/-! ### Words compared -/
def ltW (x y : Nat) : Bool := FloatKind.f32.format.order x y == some .lt
def gtW (x y : Nat) : Bool := FloatKind.f32.format.order x y == some .gt
def leW (x y : Nat) : Bool := FloatKind.f32.format.order x y == some .lt || FloatKind.f32.format.order x y == some .eq
def geW (x y : Nat) : Bool := FloatKind.f32.format.order x y == some .gt || FloatKind.f32.format.order x y == some .eq
theorem order_swap (x y : Nat) : FloatKind.f32.format.order y x = (FloatKind.f32.format.order x y).map Ordering.swap := by
  unfold Format.order
  cases FloatKind.f32.format.read x with
  | nan s b => cases FloatKind.f32.format.read y <;> rfl
  | infinity s =>
    cases FloatKind.f32.format.read y with
    | nan t b => rfl
    | infinity t => cases s <;> cases t <;> rfl
    | number t n j => cases s <;> rfl
  | number s m i =>
    cases FloatKind.f32.format.read y with
    | nan t b => rfl
    | infinity t => cases t <;> rfl
    | number t n j =>
      show some (compare _ _) = some (compare _ _).swap
      rw [Int.min_comm j i, Std.OrientedCmp.eq_swap (cmp := compare)]
theorem lt_gt (x y : Nat) : ltW x y = gtW y x := by
  unfold ltW gtW
  rw [order_swap x y]
  cases FloatKind.f32.format.order x y with
  | none => rfl
  | some o => cases o <;> rfl
theorem le_ge (x y : Nat) : leW x y = geW y x := by
  unfold leW geW
  rw [order_swap x y]
  cases FloatKind.f32.format.order x y with
  | none => rfl
  | some o => cases o <;> rfl
theorem leW_num {x y : Nat} (hx : S.isNum x) (hy : S.isNum y) : leW x y = decide (S.fval x ≤ S.fval y) := by
  unfold leW
  rw [show FloatKind.f32.format.order x y = some (compare (S.fval x) (S.fval y)) from S.order_val hx hy]
  rcases Int.lt_trichotomy (S.fval x) (S.fval y) with h | h | h
  · rw [Int.compare_eq_lt.2 h]; simp; omega
  · rw [h, Std.ReflCmp.compare_self (cmp := compare)]; simp
  · rw [Int.compare_eq_gt.2 h]; simp; omega
theorem ltW_num {x y : Nat} (hx : S.isNum x) (hy : S.isNum y) : ltW x y = decide (S.fval x < S.fval y) := by
  unfold ltW
  rw [show FloatKind.f32.format.order x y = some (compare (S.fval x) (S.fval y)) from S.order_val hx hy]
  rcases Int.lt_trichotomy (S.fval x) (S.fval y) with h | h | h
  · rw [Int.compare_eq_lt.2 h]; simp; omega
  · rw [h, Std.ReflCmp.compare_self (cmp := compare)]; simp
  · rw [Int.compare_eq_gt.2 h]; simp; omega
/-- A word that lies between two numbers is one. -/
theorem num_between {a x b : Nat} (hx : x < 4294967296) (ha : S.isNum a) (hb : S.isNum b) (h1 : leW a x = true) (h2 : leW x b = true) : S.isNum x := by
  rcases Nat.lt_or_ge (S.expo x) 255 with h | h
  · exact S.num_of_expo hx h
  · have he : S.expo x = 255 := Nat.le_antisymm (S.expo_le x) h
    exfalso
    rcases S.read_full hx he with hr | ⟨b', hr⟩
    · have o1 : FloatKind.f32.format.order x b = some (if S.sneg x then .lt else .gt) := S.order_inf hr hb
      have o2 : FloatKind.f32.format.order x a = some (if S.sneg x then .lt else .gt) := S.order_inf hr ha
      have h1' : geW x a = true := by rw [← le_ge]; exact h1
      unfold leW at h2
      unfold geW at h1'
      rw [o1] at h2
      rw [o2] at h1'
      clear o1 o2 hr
      generalize S.sneg x = sn at h1' h2
      cases sn
      · exact absurd h2 (by decide)
      · exact absurd h1' (by decide)
    · have o1 : FloatKind.f32.format.order x b = none := S.order_nan hr b
      unfold leW at h2
      rw [o1] at h2
      simp at h2
/-! ### Names -/
def Lett (s : ByteArray) : Prop := ∀ j, j < s.size → 97 ≤ byteAt s j ∧ byteAt s j ≤ 122
def NmOk (s : ByteArray) : Prop := Lett s ∧ (1 ≤ s.size ∧ s.size ≤ 16) ∧ ¬ s.data.toList = [110, 111, 110, 101]
noncomputable def nmB (s : ByteArray) : Bool := @decide (NmOk s) (Classical.propDecidable _)
theorem nmB_iff {s : ByteArray} : nmB s = true ↔ NmOk s := by unfold nmB; exact @decide_eq_true_iff _ (Classical.propDecidable _)
theorem nmB_no {s : ByteArray} (h : ¬ NmOk s) : nmB s = false := by
  cases e : nmB s
  · rfl
  · exact absurd (nmB_iff.1 e) h
/-! ### Sails and moments -/
structure Sl where
  nm : ByteArray
  lo : Nat
  hi : Nat
  fr : Int
  to : Int
/-- A moment: a speed (its word) and an angle. -/
abbrev Mm := Nat × Int
/-- What any sail's words are like. -/
def SlWf (s : Sl) : Prop := s.nm.size ≤ 9223372036854775807 ∧ s.lo < 4294967296 ∧ s.hi < 4294967296 ∧ (-9223372036854775808 ≤ s.fr ∧ s.fr ≤ 9223372036854775807) ∧ (-9223372036854775808 ≤ s.to ∧ s.to ≤ 9223372036854775807)
def MmWf (m : Mm) : Prop := m.1 < 4294967296 ∧ (-9223372036854775808 ≤ m.2 ∧ m.2 ≤ 9223372036854775807)
noncomputable def slB (s : Sl) : Bool := nmB s.nm && (geW s.lo 0 && gtW s.hi s.lo && leW s.hi 1128792064) && decide (0 ≤ s.fr ∧ s.fr ≤ 180) && decide (s.fr ≤ s.to ∧ s.to ≤ 180)
def SoOk (n : Nat) (f : Nat → Sl) : Prop := n ≤ 12 ∧ ∀ i, i < n → slB (f i) = true ∧ ∀ k, k < i → ¬ (f k).nm.data.toList = (f i).nm.data.toList
noncomputable def soB (n : Nat) (f : Nat → Sl) : Bool := @decide (SoOk n f) (Classical.propDecidable _)
theorem soB_iff {n : Nat} {f : Nat → Sl} : soB n f = true ↔ SoOk n f := by unfold soB; exact @decide_eq_true_iff _ (Classical.propDecidable _)
theorem soB_no {n : Nat} {f : Nat → Sl} (h : ¬ SoOk n f) : soB n f = false := by
  cases e : soB n f
  · rfl
  · exact absurd (soB_iff.1 e) h
/-! ### What fits -/
def fitB (s : Sl) (m : Mm) : Bool := geW m.1 s.lo && leW m.1 s.hi && decide (s.fr ≤ m.2) && decide (m.2 ≤ s.to)
/-- Not below the least wind less one; not above the greatest and one. -/
def wloB (sp x : Nat) : Bool := match floatBits .sub .f32 x 1065353216 with | some r => geW sp r | none => false
def whiB (sp x : Nat) : Bool := match floatBits .add .f32 x 1065353216 with | some r => leW sp r | none => false
def wideB (s : Sl) (m : Mm) : Bool := wloB m.1 s.lo && whiB m.1 s.hi && decide (s.fr - 5 ≤ m.2) && decide (m.2 ≤ s.to + 5)
end Go.Proofs.Ytlliiecdadiagaa
