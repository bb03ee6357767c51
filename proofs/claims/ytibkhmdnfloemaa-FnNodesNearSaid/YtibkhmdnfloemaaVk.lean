/- The walks of VectorOk, l02Amount and Dot (impl and spec). -/
import Derived.Test.YtibkhmdnfloemaaRows
import Derived.Test.YtibkhmdnfloemaaDt
import Derived.Test.YtibkhmdnfloemaaRt
import Derived.WalkKit
import Derived.WalkSpells
import Derived.WalkLawsBesides
import Derived.Lib.Hide
namespace Go.Proofs.Ytibkhmdnfloemaa
open Go.RowKit Ieee

theorem hund_num : f64.read 4726483295884279808 = .number false 6710886400000000 (-26) := by kernel_rfl
theorem hund_val : fval 4726483295884279808 = 100000000 * (oneV : Int) := by
  have hf := fixE_eq
  unfold fval; rw [hund_num]; show signed false 6710886400000000 (-26 + 1074 : Int).toNat = _
  rw [show (-26 + 1074 : Int).toNat = fixE - 26 by omega, signed_eq]
  show ((6710886400000000 * 2 ^ (fixE - 26) : Nat) : Int) = 100000000 * ((oneV : Nat) : Int)
  have h : oneV = 67108864 * 2 ^ (fixE - 26) := by
    unfold oneV; rw [show (67108864 : Nat) = 2 ^ 26 from rfl, ← Nat.pow_add, show 26 + (fixE - 26) = fixE by omega]
  rw [h]
  generalize 2 ^ (fixE - 26) = y
  omega
theorem nought_num : f64.read 0 = .number false 0 (-1074) := by kernel_rfl
theorem nought_val : fval 0 = 0 := by unfold fval; rw [nought_num]; exact fl_signed_zero _ _

/-- A part of a valid vector. -/
def okP (x : Nat) : Prop := isNum x ∧ (fval x).natAbs ≤ 100000000 * oneV
theorem okP.part {x : Nat} (h : okP x) : Part x := ⟨h.1, Nat.le_trans h.2 (Nat.mul_le_mul_right _ (by omega))⟩
/-- A number without its sign, as the model has it. -/
def amtW (x : Nat) : Nat := if f64.order x 0 = some .lt then x % 9223372036854775808 else x

theorem cmp_flag (v c : Int) : ((some (compare v c) == some Ordering.lt || some (compare v c) == some .eq) = true) ↔ v ≤ c := by
  rcases Int.lt_trichotomy v c with h | h | h
  · rw [Int.compare_eq_lt.2 h]; simp; omega
  · rw [Int.compare_eq_eq.2 h]; simp; omega
  · rw [Int.compare_eq_gt.2 h]; simp; omega

/-- Whether a part is valid, as both programs ask it. -/
theorem ok_flag (x : Nat) (hx : x < 18446744073709551616) : ∃ t : Bool, (t = true ↔ okP x) ∧
    (f64.order (x % 9223372036854775808) 4726483295884279808 == some .lt || f64.order (x % 9223372036854775808) 4726483295884279808 == some .eq) = t ∧
    (f64.order (amtW x) 4726483295884279808 == some .lt || f64.order (amtW x) 4726483295884279808 == some .eq) = t := by
  have hc := isNum_of hund_num
  by_cases hE : expo x < 2047
  · have hn := num_of_expo hx hE
    obtain ⟨an, av⟩ := abs_num hx hn
    have e1 : f64.order (x % 9223372036854775808) 4726483295884279808 = some (compare (((fval x).natAbs : Nat) : Int) (100000000 * (oneV : Int))) := by rw [order_val an hc, av, hund_val]
    have e2 : f64.order (amtW x) 4726483295884279808 = some (compare (((fval x).natAbs : Nat) : Int) (100000000 * (oneV : Int))) := by
      unfold amtW
      rw [order_val hn (isNum_of nought_num), nought_val]
      rcases Int.lt_or_le (fval x) 0 with h | h
      · rw [if_pos (congrArg some (Int.compare_eq_lt.2 h))]; exact e1
      · rw [if_neg (fun he => by injection he with he; have := Int.compare_eq_lt.1 he; omega), order_val hn hc, hund_val, show (((fval x).natAbs : Nat) : Int) = fval x by omega]
    refine ⟨_, ?_, rfl, by rw [e1, e2]⟩
    rw [e1, cmp_flag]
    exact ⟨fun h => ⟨hn, by omega⟩, fun h => by have := h.2; omega⟩
  · have hE2 : expo x = 2047 := by have := expo_le x; omega
    have hno : ¬ okP x := fun h => hE (expo_of_num hx h.1)
    refine ⟨false, ⟨fun h => (by cases h), fun h => absurd h hno⟩, ?_, ?_⟩
    · rcases abs_full hE2 with h | ⟨b, h⟩
      · rw [order_inf h hc]; rfl
      · rw [order_nan h]; rfl
    · unfold amtW
      rcases read_full hx hE2 with h | ⟨b, h⟩
      · cases hs : sneg x
        · rw [hs] at h
          rw [order_inf h (isNum_of nought_num), if_neg (by decide), order_inf h hc]; rfl
        · rw [hs] at h
          rw [order_inf h (isNum_of nought_num), if_pos (by decide)]
          rcases abs_full hE2 with h | ⟨b, h⟩
          · rw [order_inf h hc]; rfl
          · rw [order_nan h]; rfl
      · rw [order_nan h, if_neg (by decide), order_nan h]; rfl

/-- A negative word has its sign bit set: struck by the unary minus. -/
theorem neg_wordV {x : Nat} (hx : x < 18446744073709551616) (h : f64.order x 0 = some .lt) : Op.negFloat .f64 x = x % 9223372036854775808 := by
  have hs : sneg x = true := by
    by_cases hE : expo x < 2047
    · obtain ⟨S, P, hr, _⟩ := num_form x hx hE
      have hn := num_of_expo hx hE
      rw [order_val hn (isNum_of nought_num), nought_val] at h
      injection h with h
      have h2 := Int.compare_eq_lt.1 h
      unfold fval at h2
      rw [hr] at h2
      cases hs : sneg x with
      | true => rfl
      | false =>
        rw [hs] at h2
        have h3 : signed false S (-1074 + (P : Int) + 1074).toNat < 0 := h2
        rw [signed_eq] at h3
        simp only [Bool.false_eq_true, if_false] at h3
        omega
    · have hE2 : expo x = 2047 := by have := expo_le x; omega
      rcases read_full hx hE2 with hr | ⟨b, hr⟩
      · rw [order_inf hr (isNum_of nought_num)] at h
        cases hs : sneg x with
        | true => rfl
        | false => rw [hs] at h; cases h
      · rw [order_nan hr] at h; cases h
  have hge : 9223372036854775808 ≤ x := by
    unfold sneg at hs
    have : x / 9223372036854775808 = 1 := by simpa using hs
    omega
  show x ^^^ 2 ^ 63 = x % 9223372036854775808
  have e : x = x % 9223372036854775808 + 2 ^ 63 := by
    have : (2 : Nat) ^ 63 = 9223372036854775808 := rfl
    omega
  have hlt : x % 9223372036854775808 < 2 ^ 63 := Nat.mod_lt _ (by omega)
  generalize x % 9223372036854775808 = y at *
  subst e
  rw [show y + 2 ^ 63 = 2 ^ 63 + y from Nat.add_comm _ _]
  have hor : 2 ^ 63 + y = 2 ^ 63 ||| y := by
    have := Nat.two_pow_add_eq_or_of_lt hlt 1
    simpa using this
  rw [hor]
  apply Nat.eq_of_testBit_eq
  intro i
  rw [Nat.testBit_xor, Nat.testBit_or, Nat.testBit_two_pow]
  by_cases hi : i = 63
  · subst hi
    rw [Nat.testBit_lt_two_pow hlt]; simp
  · have : ¬ 63 = i := fun e => hi e.symm
    simp [this]

/-- Whether a vector is valid. -/
def VecIs (a b : Nat) (t : Bool) : Prop := t = true ↔ okP a ∧ okP b
set_option maxHeartbeats 400000 in
theorem i_vok (a b : Nat) (w : World) (ha : a < 18446744073709551616) (hb : b < 18446744073709551616) :
    Calls Try.prog 23 #[.complex .f64 a b] w fun e w' => ∃ t, VecIs a b t ∧ e = .returned (.bool t) ∧ w = w' := by
  obtain ⟨t, ht, f1, _⟩ := ok_flag a ha
  obtain ⟨t', ht', f2, _⟩ := ok_flag b hb
  have f1' : (FloatKind.f64.format.order (a % 9223372036854775808) 4726483295884279808 == some .lt || FloatKind.f64.format.order (a % 9223372036854775808) 4726483295884279808 == some .eq) = t := f1
  have f2' : (FloatKind.f64.format.order (b % 9223372036854775808) 4726483295884279808 == some .lt || FloatKind.f64.format.order (b % 9223372036854775808) 4726483295884279808 == some .eq) = t' := f2
  have HT := Lib.hid (And.intro ht ht')
  clear f1 f2 ht ht'
  cases t <;> cases t'
  all_goals
    go_enter Try.func23, Try.ntmps23
    go_wp2_with (first
      | (go_at_call 41; ((with_reducible refine (abs_any a _ ha).mono ?_); rintro e w' ⟨rfl, rfl⟩))
      | (go_at_call 41; ((with_reducible refine (abs_any b _ hb).mono ?_); rintro e w' ⟨rfl, rfl⟩)))
    go_ret
    refine ⟨_, ?_, rfl, rfl⟩
    obtain ⟨h1, h2⟩ := HT.out
    unfold VecIs
    rw [← h1, ← h2]
    simp
set_option maxHeartbeats 400000 in
theorem i_dot (a b c d p q s : Nat) (w : World) (h1 : floatBits .mul .f64 a c = some p) (h2 : floatBits .mul .f64 b d = some q) (h3 : floatBits .add .f64 p q = some s) :
    Calls Try.prog 27 #[.complex .f64 a b, .complex .f64 c d] w fun e w' => e = .returned (.float .f64 s) ∧ w = w' := by
  have q1 := fun w => run_float_arith (P := Try.prog) w .mul 53 .f64 _ _ _ h1
  have q2 := fun w => run_float_arith (P := Try.prog) w .mul 53 .f64 _ _ _ h2
  have q3 := fun w => run_float_arith (P := Try.prog) w .add 53 .f64 _ _ _ h3
  clear h1 h2 h3
  go_enter Try.func27, Try.ntmps27
  go_wp2
  go_ret
  exact ⟨rfl, rfl⟩
end Go.Proofs.Ytibkhmdnfloemaa
