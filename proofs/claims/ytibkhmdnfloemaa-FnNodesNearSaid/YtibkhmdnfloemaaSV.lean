/- The walks of spec.l03Amount and spec.VelocityOk; valid parts of velocities (made from the texts on vectors by a program). -/
import Derived.Test.YtibkhmdnfloemaaRows
import Derived.Test.YtibkhmdnfloemaaSA
import Derived.WalkKit
import Derived.WalkSpells
import Derived.WalkLawsBesides
import Derived.Lib.Hide
namespace Go.Proofs.Ytibkhmdnfloemaa.S
open Go.RowKit Ieee

theorem hund_num : f32.read 1120403456 = .number false 13107200 (-17) := by kernel_rfl
theorem hund_val : fval 1120403456 = 100 * (oneV : Int) := by
  have hf := fixE_eq
  unfold fval; rw [hund_num]; show signed false 13107200 (-17 + 149 : Int).toNat = _
  rw [show (-17 + 149 : Int).toNat = fixE - 17 by omega, signed_eq]
  show ((13107200 * 2 ^ (fixE - 17) : Nat) : Int) = 100 * ((oneV : Nat) : Int)
  have h : oneV = 131072 * 2 ^ (fixE - 17) := by
    unfold oneV; rw [show (131072 : Nat) = 2 ^ 17 from rfl, ← Nat.pow_add, show 17 + (fixE - 17) = fixE by omega]
  rw [h]
  generalize 2 ^ (fixE - 17) = y
  omega
theorem nought_num : f32.read 0 = .number false 0 (-149) := by kernel_rfl
theorem nought_val : fval 0 = 0 := by unfold fval; rw [nought_num]; exact fl_signed_zero _ _
/-- A part of a valid vector. -/
def okP (x : Nat) : Prop := isNum x ∧ (fval x).natAbs ≤ 100 * oneV
/-- A number without its sign, as the model has it. -/
def amtW (x : Nat) : Nat := if f32.order x 0 = some .lt then x % 2147483648 else x
theorem cmp_flag (v c : Int) : ((some (compare v c) == some Ordering.lt || some (compare v c) == some .eq) = true) ↔ v ≤ c := by
  rcases Int.lt_trichotomy v c with h | h | h
  · rw [Int.compare_eq_lt.2 h]; simp; omega
  · rw [Int.compare_eq_eq.2 h]; simp; omega
  · rw [Int.compare_eq_gt.2 h]; simp; omega
/-- Whether a part is valid, as both programs ask it. -/
theorem ok_flag (x : Nat) (hx : x < 4294967296) : ∃ t : Bool, (t = true ↔ okP x) ∧
    (f32.order (x % 2147483648) 1120403456 == some .lt || f32.order (x % 2147483648) 1120403456 == some .eq) = t ∧
    (f32.order (amtW x) 1120403456 == some .lt || f32.order (amtW x) 1120403456 == some .eq) = t := by
  have hc := isNum_of hund_num
  by_cases hE : expo x < 255
  · have hn := num_of_expo hx hE
    obtain ⟨an, av⟩ := abs_num hx hn
    have e1 : f32.order (x % 2147483648) 1120403456 = some (compare (((fval x).natAbs : Nat) : Int) (100 * (oneV : Int))) := by rw [order_val an hc, av, hund_val]
    have e2 : f32.order (amtW x) 1120403456 = some (compare (((fval x).natAbs : Nat) : Int) (100 * (oneV : Int))) := by
      unfold amtW
      rw [order_val hn (isNum_of nought_num), nought_val]
      rcases Int.lt_or_le (fval x) 0 with h | h
      · rw [if_pos (congrArg some (Int.compare_eq_lt.2 h))]; exact e1
      · rw [if_neg (fun he => by injection he with he; have := Int.compare_eq_lt.1 he; omega), order_val hn hc, hund_val, show (((fval x).natAbs : Nat) : Int) = fval x by omega]
    refine ⟨_, ?_, rfl, by rw [e1, e2]⟩
    rw [e1, cmp_flag]
    exact ⟨fun h => ⟨hn, by omega⟩, fun h => by have := h.2; omega⟩
  · have hE2 : expo x = 255 := by have := expo_le x; omega
    have hno : ¬ okP x := fun h => hE (expo_of_num hx h.1)
    refine ⟨false, ⟨fun h => (by cases h), fun h => absurd h hno⟩, ?_, ?_⟩
    · rcases abs_full hE2 with h | ⟨b, h⟩
      · rw [order_inf h hc]; rfl
      · rw [order_nan h]; rfl
    · unfold amtW
      rcases read_full hx hE2 with h | ⟨b, h⟩
      · cases hs : sneg x
        · rw [hs] at h
          rw [order_inf h (isNum_of nought_num), if_neg (by decide), order_inf h hc]; rfl
        · rw [hs] at h
          rw [order_inf h (isNum_of nought_num), if_pos (by decide)]
          rcases abs_full hE2 with h | ⟨b, h⟩
          · rw [order_inf h hc]; rfl
          · rw [order_nan h]; rfl
      · rw [order_nan h, if_neg (by decide), order_nan h]; rfl
/-- A negative word has its sign bit set: struck by the unary minus. -/
theorem neg_word {x : Nat} (hx : x < 4294967296) (h : f32.order x 0 = some .lt) : Op.negFloat .f32 x = x % 2147483648 := by
  have hs : sneg x = true := by
    by_cases hE : expo x < 255
    · obtain ⟨S, P, hr, _⟩ := num_form x hx hE
      have hn := num_of_expo hx hE
      rw [order_val hn (isNum_of nought_num), nought_val] at h
      injection h with h
      have h2 := Int.compare_eq_lt.1 h
      unfold fval at h2
      rw [hr] at h2
      cases hs : sneg x with
      | true => rfl
      | false =>
        rw [hs] at h2
        have h3 : signed false S (-149 + (P : Int) + 149).toNat < 0 := h2
        rw [signed_eq] at h3
        simp only [Bool.false_eq_true, if_false] at h3
        omega
    · have hE2 : expo x = 255 := by have := expo_le x; omega
      rcases read_full hx hE2 with hr | ⟨b, hr⟩
      · rw [order_inf hr (isNum_of nought_num)] at h
        cases hs : sneg x with
        | true => rfl
        | false => rw [hs] at h; cases h
      · rw [order_nan hr] at h; cases h
  have hge : 2147483648 ≤ x := by
    unfold sneg at hs
    have : x / 2147483648 = 1 := by simpa using hs
    omega
  show x ^^^ 2 ^ 31 = x % 2147483648
  have e : x = x % 2147483648 + 2 ^ 31 := by
    have : (2 : Nat) ^ 31 = 2147483648 := rfl
    omega
  have hlt : x % 2147483648 < 2 ^ 31 := Nat.mod_lt _ (by omega)
  generalize x % 2147483648 = y at *
  subst e
  rw [show y + 2 ^ 31 = 2 ^ 31 + y from Nat.add_comm _ _]
  have hor : 2 ^ 31 + y = 2 ^ 31 ||| y := by
    have := Nat.two_pow_add_eq_or_of_lt hlt 1
    simpa using this
  rw [hor]
  apply Nat.eq_of_testBit_eq
  intro i
  rw [Nat.testBit_xor, Nat.testBit_or, Nat.testBit_two_pow]
  by_cases hi : i = 31
  · subst hi
    rw [Nat.testBit_lt_two_pow hlt]; simp
  · have : ¬ 31 = i := fun e => hi e.symm
    simp [this]
/-- Whether a vector is valid. -/
def VecIs (a b : Nat) (t : Bool) : Prop := t = true ↔ okP a ∧ okP b
set_option maxHeartbeats 400000 in
theorem s_amount (x : Nat) (w : World) (hx : x < 4294967296) :
    Calls Try.prog 47 #[.float .f32 x] w fun e w' => e = .returned (.float .f32 (amtW x)) ∧ w = w' := by
  unfold amtW
  by_cases h : f32.order x 0 = some .lt
  · have hneg : ∀ w, (Op.unary .neg (.float .f32 x)).run Try.prog w = .ok (.float .f32 (x % 2147483648)) w := fun w => by
      show (pure (.float .f32 (Op.negFloat .f32 x)) : Sem Value).run Try.prog w = _
      rw [neg_word hx h]; rfl
    rw [if_pos h]
    have h' : FloatKind.f32.format.order x 0 = some .lt := h
    clear h
    go_enter Try.func47, Try.ntmps47
    go_wp2
    go_ret
    exact ⟨rfl, rfl⟩
  · rw [if_neg h]
    have h' : (FloatKind.f32.format.order x 0 == some .lt) = false := by simpa using h
    clear h
    go_enter Try.func47, Try.ntmps47
    go_wp2
    go_ret
    exact ⟨rfl, rfl⟩
set_option maxHeartbeats 400000 in
theorem s_vok (a b : Nat) (w : World) (ha : a < 4294967296) (hb : b < 4294967296) :
    Calls Try.prog 40 #[.complex .f32 a b] w fun e w' => ∃ t, VecIs a b t ∧ e = .returned (.bool t) ∧ w = w' := by
  obtain ⟨t, ht, _, f1⟩ := ok_flag a ha
  obtain ⟨t', ht', _, f2⟩ := ok_flag b hb
  have f1' : (FloatKind.f32.format.order (amtW a) 1120403456 == some .lt || FloatKind.f32.format.order (amtW a) 1120403456 == some .eq) = t := f1
  have f2' : (FloatKind.f32.format.order (amtW b) 1120403456 == some .lt || FloatKind.f32.format.order (amtW b) 1120403456 == some .eq) = t' := f2
  have HT := Lib.hid (And.intro ht ht')
  have sa := fun w => s_amount a w ha
  have sb' := fun w => s_amount b w hb
  clear f1 f2 ht ht'
  generalize amtW a = x at *
  generalize amtW b = y at *
  cases t <;> cases t'
  all_goals
    go_enter Try.func40, Try.ntmps40
    go_wp2_with (first
      | (go_at_call 47; ((with_reducible refine (sa _).mono ?_); rintro e w' ⟨rfl, rfl⟩))
      | (go_at_call 47; ((with_reducible refine (sb' _).mono ?_); rintro e w' ⟨rfl, rfl⟩)))
    go_ret
    refine ⟨_, ?_, rfl, rfl⟩
    obtain ⟨h1, h2⟩ := HT.out
    unfold VecIs
    rw [← h1, ← h2]
    simp
end Go.Proofs.Ytibkhmdnfloemaa.S
