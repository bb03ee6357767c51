/- One text out of: SV, Wd, Wk, DmM. -/
import Derived.Test.YtonoknbangnleaaGreatRows
import Derived.Test.YtonoknbangnleaaGreatSA
import Derived.WalkKit
import Derived.WalkSpells
import Derived.WalkLawsBesides
import Derived.Lib.Hide
import Derived.Test.YtonoknbangnleaaGreatFA
import Derived.Laws.ComplexArith
import Derived.Deep.RegionHeld3
import Derived.Deep.AppendLies
import Derived.Deep.DrawnRows
/- The walks of spec.l03Amount and spec.VelocityOk; valid parts of velocities (made from the texts on vectors by a program). -/
namespace Go.Proofs.YtonoknbangnleaaGreat.S
open Go.RowKit Ieee

theorem hund_num : f32.read 1120403456 = .number false 13107200 (-17) := by kernel_rfl
theorem hund_val : fval 1120403456 = 100 * (oneV : Int) := by
  have hf := fixE_eq
  unfold fval; rw [hund_num]; show signed false 13107200 (-17 + 149 : Int).toNat = _
  rw [show (-17 + 149 : Int).toNat = fixE - 17 by omega, signed_eq]
  show ((13107200 * 2 ^ (fixE - 17) : Nat) : Int) = 100 * ((oneV : Nat) : Int)
  have h : oneV = 131072 * 2 ^ (fixE - 17) := by
    unfold oneV; rw [show (131072 : Nat) = 2 ^ 17 from rfl, ← Nat.pow_add, show 17 + (fixE - 17) = fixE by omega]
  rw [h]
  generalize 2 ^ (fixE - 17) = y
  omega
theorem nought_num : f32.read 0 = .number false 0 (-149) := by kernel_rfl
theorem nought_val : fval 0 = 0 := by unfold fval; rw [nought_num]; exact fl_signed_zero _ _
/-- A part of a valid vector. -/
def okP (x : Nat) : Prop := isNum x ∧ (fval x).natAbs ≤ 100 * oneV
/-- A number without its sign, as the model has it. -/
def amtW (x : Nat) : Nat := if f32.order x 0 = some .lt then x % 2147483648 else x
theorem cmp_flag (v c : Int) : ((some (compare v c) == some Ordering.lt || some (compare v c) == some .eq) = true) ↔ v ≤ c := by
  rcases Int.lt_trichotomy v c with h | h | h
  · rw [Int.compare_eq_lt.2 h]; simp; omega
  · rw [Int.compare_eq_eq.2 h]; simp; omega
  · rw [Int.compare_eq_gt.2 h]; simp; omega
/-- Whether a part is valid, as both programs ask it. -/
theorem ok_flag (x : Nat) (hx : x < 4294967296) : ∃ t : Bool, (t = true ↔ okP x) ∧
    (f32.order (x % 2147483648) 1120403456 == some .lt || f32.order (x % 2147483648) 1120403456 == some .eq) = t ∧
    (f32.order (amtW x) 1120403456 == some .lt || f32.order (amtW x) 1120403456 == some .eq) = t := by
  have hc := isNum_of hund_num
  by_cases hE : expo x < 255
  · have hn := num_of_expo hx hE
    obtain ⟨an, av⟩ := abs_num hx hn
    have e1 : f32.order (x % 2147483648) 1120403456 = some (compare (((fval x).natAbs : Nat) : Int) (100 * (oneV : Int))) := by rw [order_val an hc, av, hund_val]
    have e2 : f32.order (amtW x) 1120403456 = some (compare (((fval x).natAbs : Nat) : Int) (100 * (oneV : Int))) := by
      unfold amtW
      rw [order_val hn (isNum_of nought_num), nought_val]
      rcases Int.lt_or_le (fval x) 0 with h | h
      · rw [if_pos (congrArg some (Int.compare_eq_lt.2 h))]; exact e1
      · rw [if_neg (fun he => by injection he with he; have := Int.compare_eq_lt.1 he; omega), order_val hn hc, hund_val, show (((fval x).natAbs : Nat) : Int) = fval x by omega]
    refine ⟨_, ?_, rfl, by rw [e1, e2]⟩
    rw [e1, cmp_flag]
    exact ⟨fun h => ⟨hn, by omega⟩, fun h => by have := h.2; omega⟩
  · have hE2 : expo x = 255 := by have := expo_le x; omega
    have hno : ¬ okP x := fun h => hE (expo_of_num hx h.1)
    refine ⟨false, ⟨fun h => (by cases h), fun h => absurd h hno⟩, ?_, ?_⟩
    · rcases abs_full hE2 with h | ⟨b, h⟩
      · rw [order_inf h hc]; rfl
      · rw [order_nan h]; rfl
    · unfold amtW
      rcases read_full hx hE2 with h | ⟨b, h⟩
      · cases hs : sneg x
        · rw [hs] at h
          rw [order_inf h (isNum_of nought_num), if_neg (by decide), order_inf h hc]; rfl
        · rw [hs] at h
          rw [order_inf h (isNum_of nought_num), if_pos (by decide)]
          rcases abs_full hE2 with h | ⟨b, h⟩
          · rw [order_inf h hc]; rfl
          · rw [order_nan h]; rfl
      · rw [order_nan h, if_neg (by decide), order_nan h]; rfl
/-- A negative word has its sign bit set: struck by the unary minus. -/
theorem neg_word {x : Nat} (hx : x < 4294967296) (h : f32.order x 0 = some .lt) : Op.negFloat .f32 x = x % 2147483648 := by
  have hs : sneg x = true := by
    by_cases hE : expo x < 255
    · obtain ⟨S, P, hr, _⟩ := num_form x hx hE
      have hn := num_of_expo hx hE
      rw [order_val hn (isNum_of nought_num), nought_val] at h
      injection h with h
      have h2 := Int.compare_eq_lt.1 h
      unfold fval at h2
      rw [hr] at h2
      cases hs : sneg x with
      | true => rfl
      | false =>
        rw [hs] at h2
        have h3 : signed false S (-149 + (P : Int) + 149).toNat < 0 := h2
        rw [signed_eq] at h3
        simp only [Bool.false_eq_true, if_false] at h3
        omega
    · have hE2 : expo x = 255 := by have := expo_le x; omega
      rcases read_full hx hE2 with hr | ⟨b, hr⟩
      · rw [order_inf hr (isNum_of nought_num)] at h
        cases hs : sneg x with
        | true => rfl
        | false => rw [hs] at h; cases h
      · rw [order_nan hr] at h; cases h
  have hge : 2147483648 ≤ x := by
    unfold sneg at hs
    have : x / 2147483648 = 1 := by simpa using hs
    omega
  show x ^^^ 2 ^ 31 = x % 2147483648
  have e : x = x % 2147483648 + 2 ^ 31 := by
    have : (2 : Nat) ^ 31 = 2147483648 := rfl
    omega
  have hlt : x % 2147483648 < 2 ^ 31 := Nat.mod_lt _ (by omega)
  generalize x % 2147483648 = y at *
  subst e
  rw [show y + 2 ^ 31 = 2 ^ 31 + y from Nat.add_comm _ _]
  have hor : 2 ^ 31 + y = 2 ^ 31 ||| y := by
    have := Nat.two_pow_add_eq_or_of_lt hlt 1
    simpa using this
  rw [hor]
  apply Nat.eq_of_testBit_eq
  intro i
  rw [Nat.testBit_xor, Nat.testBit_or, Nat.testBit_two_pow]
  by_cases hi : i = 31
  · subst hi
    rw [Nat.testBit_lt_two_pow hlt]; simp
  · have : ¬ 31 = i := fun e => hi e.symm
    simp [this]
/-- Whether a vector is valid. -/
def VecIs (a b : Nat) (t : Bool) : Prop := t = true ↔ okP a ∧ okP b
set_option maxHeartbeats 400000 in
theorem s_amount (x : Nat) (w : World) (hx : x < 4294967296) :
    Calls Tryz.prog 95 #[.float .f32 x] w fun e w' => e = .returned (.float .f32 (amtW x)) ∧ w = w' := by
  unfold amtW
  by_cases h : f32.order x 0 = some .lt
  · have hneg : ∀ w, (Op.unary .neg (.float .f32 x)).run Tryz.prog w = .ok (.float .f32 (x % 2147483648)) w := fun w => by
      show (pure (.float .f32 (Op.negFloat .f32 x)) : Sem Value).run Tryz.prog w = _
      rw [neg_word hx h]; rfl
    rw [if_pos h]
    have h' : FloatKind.f32.format.order x 0 = some .lt := h
    clear h
    go_enter Tryz.func95, Tryz.ntmps95
    go_wp2
    go_ret
    exact ⟨rfl, rfl⟩
  · rw [if_neg h]
    have h' : (FloatKind.f32.format.order x 0 == some .lt) = false := by simpa using h
    clear h
    go_enter Tryz.func95, Tryz.ntmps95
    go_wp2
    go_ret
    exact ⟨rfl, rfl⟩
set_option maxHeartbeats 400000 in
theorem s_vok (a b : Nat) (w : World) (ha : a < 4294967296) (hb : b < 4294967296) :
    Calls Tryz.prog 75 #[.complex .f32 a b] w fun e w' => ∃ t, VecIs a b t ∧ e = .returned (.bool t) ∧ w = w' := by
  obtain ⟨t, ht, _, f1⟩ := ok_flag a ha
  obtain ⟨t', ht', _, f2⟩ := ok_flag b hb
  have f1' : (FloatKind.f32.format.order (amtW a) 1120403456 == some .lt || FloatKind.f32.format.order (amtW a) 1120403456 == some .eq) = t := f1
  have f2' : (FloatKind.f32.format.order (amtW b) 1120403456 == some .lt || FloatKind.f32.format.order (amtW b) 1120403456 == some .eq) = t' := f2
  have HT := Lib.hid (And.intro ht ht')
  have sa := fun w => s_amount a w ha
  have sb' := fun w => s_amount b w hb
  clear f1 f2 ht ht'
  generalize amtW a = x at *
  generalize amtW b = y at *
  cases t <;> cases t'
  all_goals
    go_enter Tryz.func75, Tryz.ntmps75
    go_wp2_with (first
      | (go_at_call 95; ((with_reducible refine (sa _).mono ?_); rintro e w' ⟨rfl, rfl⟩))
      | (go_at_call 95; ((with_reducible refine (sb' _).mono ?_); rintro e w' ⟨rfl, rfl⟩)))
    go_ret
    refine ⟨_, ?_, rfl, rfl⟩
    obtain ⟨h1, h2⟩ := HT.out
    unfold VecIs
    rw [← h1, ← h2]
    simp
end Go.Proofs.YtonoknbangnleaaGreat.S

/- Words of 32 bits widened to 64, and words of 64 bits narrowed. -/
namespace Go.Proofs.YtonoknbangnleaaGreat
open Go.RowKit Ieee

theorem exW : ∃ B : Nat, B = 925 := ⟨_, rfl⟩
noncomputable def fixW : Nat := exW.choose
theorem fixW_eq : fixW = 925 := exW.choose_spec
/-- How many parts of 2 to the -1074 one of 2 to the -149 has. -/
noncomputable def widV : Nat := 2 ^ fixW
theorem widV_pos : 0 < widV := Nat.two_pow_pos _
theorem oneV_wid : oneV = S.oneV * widV := by
  unfold oneV S.oneV widV
  rw [← Nat.pow_add, show fixE = S.fixE + fixW by have := fixE_eq; have := S.fixE_eq; have := fixW_eq; omega]

/-- The widened word. -/
def wid (x : Nat) : Nat := f64.write (S.f32.read x)
theorem wid_lt (x : Nat) : wid x < 18446744073709551616 := f64.write_lt _
theorem wid_num {x : Nat} (hx : x < 4294967296) (h : S.isNum x) : floatToFloatBits .f32 x .f64 = some (wid x) ∧ isNum (wid x) ∧ fval (wid x) = S.fval x * (widV : Int) := by
  have hE := S.expo_of_num hx h
  have hf := fixW_eq
  obtain ⟨M, P, hr, hM, hc⟩ := S.num_form x hx hE
  have hP : P ≤ 253 := by rcases hc with ⟨_, h, _⟩ | ⟨h, _, _⟩ <;> omega
  have hw : wid x = f64.write (.number (S.sneg x) M (-149 + (P : Int))) := by unfold wid; rw [hr]
  obtain ⟨w1, w2⟩ := write_exact (S.sneg x) M (-149 + (P : Int)) M 0 (by omega) (by omega) (by omega) (by omega)
  rw [← hw] at w1 w2
  refine ⟨?_, w1, ?_⟩
  · obtain ⟨s, m, i, e, _⟩ := w1
    unfold floatToFloatBits
    rw [if_neg (by decide)]
    rw [show FloatKind.f32.decode x = .number (S.sneg x) M (-149 + (P : Int)) from hr]
    show (if (f64.read (f64.write (.number (S.sneg x) M (-149 + (P : Int))))).isInfinity then none else some (f64.write (.number (S.sneg x) M (-149 + (P : Int))))) = _
    rw [← hw, e]; rfl
  · rw [w2]
    unfold S.fval
    rw [hr]
    show signed (S.sneg x) M (-149 + (P : Int) + 1074).toNat = signed (S.sneg x) M (-149 + (P : Int) + 149).toNat * _
    rw [show (-149 + (P : Int) + 1074).toNat = (-149 + (P : Int) + 149).toNat + fixW by omega, signed_shift]; rfl

/-- The narrowed word of a number whose value is one of 24 digits, not too great. -/
theorem nar_num {y : Nat} (h : isNum y) {v : Int} (hv : fval y = v * (widV : Int)) (hr : S.Rep v) (hb : v.natAbs < 2 ^ S.fixB) :
    ∃ r, floatToFloatBits .f64 y .f32 = some r ∧ S.isNum r ∧ S.fval r = v ∧ r < 4294967296 := by
  have hf := fixW_eq
  obtain ⟨s, m, i, e, hi, hm⟩ := h
  have hw : fval y = signed s m (i + 1074).toNat := by unfold fval; rw [e]; rfl
  have habs : m * 2 ^ (i + 1074).toNat = v.natAbs * widV := by
    rw [← (val_amount s m (i + 1074).toNat).1, ← hw, hv, Int.natAbs_mul]; rfl
  obtain ⟨n1, R, n2, n3⟩ := S.near_core s m i fixW (i + 1074).toNat (by omega) (by
    rw [habs, Nat.pow_add, ← S.fixB_eq]; exact Nat.mul_lt_mul_of_pos_right hb widV_pos)
  have hR : R = v.natAbs := by
    rw [habs] at n3
    have hq : S.Rep ((v.natAbs : Nat) : Int) := by obtain ⟨q, k, a, b⟩ := hr; exact ⟨q, k, a, by rw [Int.natAbs_natCast]; exact b⟩
    have hnI := S.near_int_pos n3 (Nat.two_pow_pos _)
    have := S.NearI.exact (g := ((v.natAbs : Nat) : Int)) (by rw [Int.natCast_mul] at hnI; exact hnI) hq
    exact_mod_cast this
  have hval : S.fval (S.f32.nearest s m i) = v := by
    rw [n2, hR]
    have h2 : signed s m (i + 1074).toNat = v * (widV : Int) := hw.symm.trans hv
    rw [signed_eq, habs] at h2
    have hp : (0 : Int) < (widV : Int) := by have := widV_pos; omega
    cases s
    · simp only [Bool.false_eq_true, if_false] at h2 ⊢
      rw [Int.natCast_mul] at h2
      exact Int.eq_of_mul_eq_mul_right (by omega) h2
    · simp only [if_true] at h2 ⊢
      rw [Int.natCast_mul, ← Int.neg_mul] at h2
      exact Int.eq_of_mul_eq_mul_right (by omega) h2
  refine ⟨S.f32.nearest s m i, ?_, n1, hval, S.f32.write_lt (.number s m i)⟩
  obtain ⟨s', m', i', e', _⟩ := n1
  unfold floatToFloatBits
  rw [if_neg (by decide)]
  rw [show FloatKind.f64.decode y = .number s m i from e]
  show (if (S.f32.read (S.f32.nearest s m i)).isInfinity then none else some (S.f32.nearest s m i)) = _
  rw [e']; rfl

theorem nan_cut64 (x t u : Nat) (hu : (Question.nanConv .f64 x).cut t = u) : u < 18446744073709551616 ∧ ∀ z, f64.order (u % 9223372036854775808) z = none := by
  obtain ⟨h1, _, _, h2⟩ := nan_cut 0 0 t u hu
  exact ⟨h1, h2⟩

/-- Narrowing at any word: a word, or one that is drawn. -/
theorem nar_any (src dst : TypeId) (hs : (Tryz.prog.underlying src).isSome = true) (hd : Tryz.prog.underlying dst = some (.float .f32)) (y : Nat) :
    (∃ r, r < 4294967296 ∧ ∀ w, (convert src dst (.float .f64 y)).run Tryz.prog w = .ok (.float .f32 r) w) ∨
    ∃ nb : World → Nat, (∀ w, nb w < 4294967296) ∧ ∀ w, (convert src dst (.float .f64 y)).run Tryz.prog w = .ok (.float .f32 (nb w)) w.drew := by
  cases h : floatToFloatBits .f64 y .f32 with
  | some r =>
    left
    refine ⟨r, ?_, fun w => run_convert_float_float (P := Tryz.prog) w src dst .f64 .f32 y r hs hd h⟩
    unfold floatToFloatBits at h
    rw [if_neg (by decide)] at h
    split at h
    · cases h
    · injection h with h; rw [← h]; exact S.f32.write_lt _
    · split at h
      · cases h
      · injection h with h; rw [← h]; exact S.f32.write_lt _
  | none =>
    right
    obtain ⟨u, hs'⟩ := Option.isSome_iff_exists.1 hs
    unfold floatToFloatBits at h
    rw [if_neg (by decide)] at h
    split at h
    · rename_i a b he
      refine ⟨fun w => (Question.nanConv .f32 y).cut (w.tape w.drawn (.nanConv .f32 y)), fun w => ?_, fun w => ?_⟩
      · simp only [Question.cut]; omega
      · cases u <;> simp [convert, run_underlying hs', run_underlying hd, Conv.floatToFloat, he, Question.forced]
    · cases h
    · rename_i s m e he
      split at h
      · rename_i ho
        refine ⟨fun w => (Question.floatToFloat y).cut (w.tape w.drawn (.floatToFloat y)), fun w => ?_, fun w => ?_⟩
        · simp only [Question.cut]; omega
        · cases u <;> simp [convert, run_underlying hs', run_underlying hd, Conv.floatToFloat, he, ho, Question.forced]
      · cases h

theorem hundW_num : f64.read 4636737291354636288 = .number false 7036874417766400 (-46) := by kernel_rfl
theorem hundW_val : fval 4636737291354636288 = 100 * (oneV : Int) := by
  have hf := fixE_eq
  unfold fval; rw [hundW_num]; show signed false 7036874417766400 (-46 + 1074 : Int).toNat = _
  rw [show (-46 + 1074 : Int).toNat = fixE - 46 by omega, signed_eq]
  show ((7036874417766400 * 2 ^ (fixE - 46) : Nat) : Int) = 100 * ((oneV : Nat) : Int)
  have h : oneV = 70368744177664 * 2 ^ (fixE - 46) := by
    unfold oneV; rw [show (70368744177664 : Nat) = 2 ^ 46 from rfl, ← Nat.pow_add, show 46 + (fixE - 46) = fixE by omega]
  rw [h]
  generalize 2 ^ (fixE - 46) = y
  omega

theorem okP_wid {x : Nat} (hx : x < 4294967296) (h : S.isNum x) : (fval (wid x)).natAbs ≤ 100 * oneV ↔ (S.fval x).natAbs ≤ 100 * S.oneV := by
  rw [(wid_num hx h).2.2, Int.natAbs_mul, oneV_wid, ← Nat.mul_assoc]
  exact ⟨fun h => Nat.le_of_mul_le_mul_right h widV_pos, fun h => Nat.mul_le_mul_right _ h⟩

/-- A part, widened, against the bound. -/
theorem part_flag (x : Nat) (hx : x < 4294967296) :
    (∃ y t, (t = true ↔ S.okP x) ∧ y < 18446744073709551616 ∧ floatToFloatBits .f32 x .f64 = some y ∧ (f64.order (y % 9223372036854775808) 4636737291354636288 == some .lt || f64.order (y % 9223372036854775808) 4636737291354636288 == some .eq) = t)
    ∨ (¬ S.okP x ∧ ∃ a b, FloatKind.f32.decode x = .nan a b) := by
  have hc := isNum_of hundW_num
  by_cases hE : S.expo x < 255
  · left
    have hn := S.num_of_expo hx hE
    obtain ⟨c1, c2, c3⟩ := wid_num hx hn
    obtain ⟨an, av⟩ := abs_num (wid_lt x) c2
    refine ⟨wid x, _, ?_, wid_lt x, c1, rfl⟩
    rw [order_val an hc, av, hundW_val, S.cmp_flag]
    have := okP_wid hx hn
    exact ⟨fun h => ⟨hn, this.1 (by omega)⟩, fun h => by have := this.2 h.2; omega⟩
  · have hE2 : S.expo x = 255 := by have := S.expo_le x; omega
    have hno : ¬ S.okP x := fun h => hE (S.expo_of_num hx h.1)
    rcases S.read_full hx hE2 with h | ⟨b, h⟩
    · left
      have he : FloatKind.f32.decode x = .infinity (S.sneg x) := h
      refine ⟨f64.write (.infinity (S.sneg x)), false, ⟨fun h => (by cases h), fun h => absurd h hno⟩, f64.write_lt _, ?_, ?_⟩
      · unfold floatToFloatBits
        rw [if_neg (by decide), he]; rfl
      · cases S.sneg x <;> kernel_rfl
    · right
      exact ⟨hno, _, _, h⟩
theorem wide_nan (src dst : TypeId) (hs : (Tryz.prog.underlying src).isSome = true) (hd : Tryz.prog.underlying dst = some (.float .f64)) (x : Nat) {a : Bool} {b : Nat} (he : FloatKind.f32.decode x = .nan a b) :
    ∃ nb : World → Nat, (∀ w, nb w < 18446744073709551616 ∧ ∀ z, FloatKind.f64.format.order (nb w % 9223372036854775808) z = none) ∧ ∀ w, (convert src dst (.float .f32 x)).run Tryz.prog w = .ok (.float .f64 (nb w)) w.drew := by
  obtain ⟨u, hs'⟩ := Option.isSome_iff_exists.1 hs
  refine ⟨fun w => (Question.nanConv .f64 x).cut (w.tape w.drawn (.nanConv .f64 x)), fun w => nan_cut64 _ _ _ rfl, fun w => ?_⟩
  cases u <;> simp [convert, run_underlying hs', run_underlying hd, Conv.floatToFloat, he, Question.forced]
end Go.Proofs.YtonoknbangnleaaGreat

/- The walks of chapter 3's small functions: ok, VelocityOk, Apparent, TrueWind, shareOk, damped, damp, Damp. -/
namespace Go.Proofs.YtonoknbangnleaaGreat
open Go.RowKit Ieee

theorem st_cplx (P : Program) (w : World) (a : Addr) (m : Mode) (k : FloatKind) (re im : Nat) : (store a (.complex k re im) m).run P w = stored P w a (.complex k re im) m := run_store P w a _ m rfl
attribute [local go_sem] st_cplx

theorem run_storeVar_cell {P : Program} (w : World) (g : Nat) (ty : TypeId) (v old : Value) (hc : w.cell? ⟨g, 0, none⟩ = some old) (hf : w.frozen? ⟨g, 0, none⟩ = false) (hi : (P.info? ty).map (·.size) = some 1) (h1 : v.oneCell' = true) :
    (storeVar ty ⟨g, 0, none⟩ v).run P w = .ok () (w.setCell ⟨g, 0, none⟩ v) := by
  have hcs : v.cells = #[v] := by cases v <;> first | rfl | cases h1
  cases hq : P.info? ty with
  | none => simp [hq] at hi
  | some i =>
    have hs : i.size = 1 := by simpa [hq] using hi
    simp [storeVar, sizeOf, typeInfo, hq, hcs, hs, storeCells, Addr.add, run_store P w _ _ _ h1, hc, hf]
/-- A value of one cell stored where a cell lies. -/
theorem wp_store_cell {P : Program} {o : Oper} {a : Act} {w : World} {K : Act → World → Prop} {Q : Exit → Act → World → Prop} (ty : TypeId) (x y : Operand) (ho : o.op = .store ty x y) (hd : o.dst = none)
    (g : Nat) (v old : Value) (hx : a.eval x = .pointer (some ⟨g, 0, none⟩)) (hy : a.eval y = v) (hc : w.cell? ⟨g, 0, none⟩ = some old) (hf : w.frozen? ⟨g, 0, none⟩ = false) (hi : (P.info? ty).map (·.size) = some 1) (h1 : v.oneCell' = true)
    (h : K a (w.setCell ⟨g, 0, none⟩ v)) : o.wp P a w K Q := by
  unfold Oper.wp execOp
  simp only [ho, hx, hy, Instr.storeAt, Instr.sureAddr, Sem.run_bind, Sem.run_pure, Result.andThen_ok, run_storeVar_cell w g ty v old hc hf hi h1]
  show K (a.put o.dst undef) _
  rw [hd]
  exact h

theorem blk_one {w : World} {g : Nat} {a : Value} {t : TypeId} (h : w.heap[g]? = some (.cells #[a] t (0, 0))) (u : Value) :
    (w.setCell ⟨g, 0, none⟩ u).heap[g]? = some (.cells #[u] t (0, 0)) := by
  simp [World.setCell, Array.getElem?_modify, h]
theorem grown_refl (w : World) (r : Option Nat) : w.grownBy w r := ⟨rfl, rfl, rfl, Nat.le_refl _, fun _ _ _ => rfl⟩
theorem grown_drew (w : World) (r : Option Nat) : w.grownBy w.drew r := ⟨rfl, rfl, rfl, Nat.le_refl _, fun _ _ _ => rfl⟩

set_option maxHeartbeats 1000000 in
theorem i_ok (a b : Nat) (w : World) (ha : a < 4294967296) (hb : b < 4294967296) :
    Calls Tryz.prog 53 #[.complex .f32 a b] w fun e w' => ∃ t, S.VecIs a b t ∧ e = .returned (.bool t) ∧ (t = true → w' = w) ∧ w.grownBy w' none := by
  have hs : (Tryz.prog.underlying 35).isSome = true := by rw [Tryz.underlying35]; rfl
  rcases part_flag a ha with ⟨y, t, ht, hy, hc, hf⟩ | ⟨hno, c, d, hn⟩
  · have qa := fun w => run_convert_float_float (P := Tryz.prog) w 35 42 .f32 .f64 _ _ hs Tryz.underlying42 hc
    have hf' : (FloatKind.f64.format.order (y % 9223372036854775808) 4636737291354636288 == some .lt || FloatKind.f64.format.order (y % 9223372036854775808) 4636737291354636288 == some .eq) = t := hf
    have HT := Lib.hid ht
    clear ht hf hc
    cases t
    · go_enter Tryz.func53, Tryz.ntmps53
      go_wp2_with (go_at_call 69; ((with_reducible refine (abs_any y _ hy).mono ?_); rintro e w' ⟨rfl, rfl⟩))
      go_ret
      exact ⟨false, ⟨fun h => (by cases h), fun h => HT.out.2 h.1⟩, rfl, fun h => (by cases h), grown_refl _ _⟩
    · have hoa := HT.out.1 rfl
      rcases part_flag b hb with ⟨z, t, ht, hz, hc, hf⟩ | ⟨hno, c, d, hn⟩
      · have qb := fun w => run_convert_float_float (P := Tryz.prog) w 35 42 .f32 .f64 _ _ hs Tryz.underlying42 hc
        have hg' : (FloatKind.f64.format.order (z % 9223372036854775808) 4636737291354636288 == some .lt || FloatKind.f64.format.order (z % 9223372036854775808) 4636737291354636288 == some .eq) = t := hf
        have HU := Lib.hid (And.intro hoa ht)
        clear ht hf hc hoa
        cases t
        all_goals
          go_enter Tryz.func53, Tryz.ntmps53
          go_wp2_with (first
            | (go_at_call 69; ((with_reducible refine (abs_any y _ hy).mono ?_); rintro e w' ⟨rfl, rfl⟩))
            | (go_at_call 69; ((with_reducible refine (abs_any z _ hz).mono ?_); rintro e w' ⟨rfl, rfl⟩)))
          go_ret
          refine ⟨_, ?_, rfl, fun _ => rfl, grown_refl _ _⟩
          obtain ⟨h1, h2⟩ := HU.out
          unfold S.VecIs
          rw [← h2]
          simp [h1]
      · obtain ⟨nb, h1, qb⟩ := wide_nan 35 42 hs Tryz.underlying42 b hn
        have hl := fun w => (h1 w).1
        have ho := fun w => (h1 w).2 4636737291354636288
        clear h1 hn hoa
        go_enter Tryz.func53, Tryz.ntmps53
        go_wp2_with (first
          | (go_at_call 69; ((with_reducible refine (abs_any y _ hy).mono ?_); rintro e w' ⟨rfl, rfl⟩))
          | (go_at_call 69; ((with_reducible refine (abs_any _ _ (hl _)).mono ?_); rintro e w' ⟨rfl, rfl⟩)))
        go_ret
        exact ⟨false, ⟨fun h => (by cases h), fun h => absurd h.2 hno⟩, rfl, fun h => (by cases h), grown_drew _ _⟩
  · obtain ⟨nb, h1, qa⟩ := wide_nan 35 42 hs Tryz.underlying42 a hn
    have hl := fun w => (h1 w).1
    have ho := fun w => (h1 w).2 4636737291354636288
    clear h1 hn
    go_enter Tryz.func53, Tryz.ntmps53
    go_wp2_with (go_at_call 69; ((with_reducible refine (abs_any _ _ (hl _)).mono ?_); rintro e w' ⟨rfl, rfl⟩))
    go_ret
    exact ⟨false, ⟨fun h => (by cases h), fun h => absurd h.1 hno⟩, rfl, fun h => (by cases h), grown_drew _ _⟩
theorem i_velok (a b : Nat) (w : World) (ha : a < 4294967296) (hb : b < 4294967296) :
    Calls Tryz.prog 26 #[.complex .f32 a b] w fun e w' => ∃ t, S.VecIs a b t ∧ e = .returned (.bool t) ∧ (t = true → w' = w) ∧ w.grownBy w' none := by
  go_enter Tryz.func26, Tryz.ntmps26
  go_wp2_with (go_at_call 53; ((with_reducible refine (i_ok a b _ ha hb).mono ?_); rintro e w1 ⟨t, ht, rfl, h1, h2⟩))
  go_ret
  exact ⟨t, ht, rfl, h1, h2⟩
theorem Tryz.infoVel : (Tryz.prog.info? 58).map (fun i => (i.zero, i.size, i.bytes)) = some (some (.complex .f32 0 0), 1, 8) := by kernel_rfl
/-- A valid velocity. -/
def okV (a b : Nat) : Prop := (a < 4294967296 ∧ b < 4294967296) ∧ S.okP a ∧ S.okP b
theorem i_velok_yes (a b : Nat) (w : World) (h : okV a b) : Calls Tryz.prog 26 #[.complex .f32 a b] w fun e w' => e = .returned (.bool true) ∧ w = w' :=
  (i_velok a b w h.1.1 h.1.2).mono fun e w' ⟨t, ht, he, h1, _⟩ => by
    obtain rfl : t = true := ht.2 h.2
    exact ⟨he, (h1 rfl).symm⟩
theorem i_ok_yes (a b : Nat) (w : World) (h : okV a b) : Calls Tryz.prog 53 #[.complex .f32 a b] w fun e w' => e = .returned (.bool true) ∧ w = w' :=
  (i_ok a b w h.1.1 h.1.2).mono fun e w' ⟨t, ht, he, h1, _⟩ => by
    obtain rfl : t = true := ht.2 h.2
    exact ⟨he, (h1 rfl).symm⟩
theorem s_velok_yes (a b : Nat) (w : World) (h : okV a b) : Calls Tryz.prog 75 #[.complex .f32 a b] w fun e w' => e = .returned (.bool true) ∧ w = w' :=
  (S.s_vok a b w h.1.1 h.1.2).mono fun e w' ⟨t, ht, he, h1⟩ => by
    obtain rfl : t = true := ht.2 h.2
    exact ⟨he, h1⟩

/-- A share: a number from 0 to 1. -/
def okK (k : Nat) : Prop := S.isNum k ∧ 0 ≤ S.fval k ∧ S.fval k ≤ (S.oneV : Int)
theorem oneW_num : S.f32.read 1065353216 = .number false 8388608 (-23) := by kernel_rfl
theorem oneW_val : S.fval 1065353216 = (S.oneV : Int) := by
  have hf := S.fixE_eq
  unfold S.fval; rw [oneW_num]; show signed false 8388608 (-23 + 149 : Int).toNat = _
  rw [show (-23 + 149 : Int).toNat = S.fixE - 23 by omega, signed_eq]
  show ((8388608 * 2 ^ (S.fixE - 23) : Nat) : Int) = ((S.oneV : Nat) : Int)
  unfold S.oneV; rw [show (8388608 : Nat) = 2 ^ 23 from rfl, ← Nat.pow_add, show 23 + (S.fixE - 23) = S.fixE by omega]
theorem share_flag (k : Nat) (hk : k < 4294967296) : ∃ t u : Bool, ((t && u) = true ↔ okK k) ∧
    (FloatKind.f32.format.order 0 k == some .lt || FloatKind.f32.format.order 0 k == some .eq) = t ∧
    (FloatKind.f32.format.order k 0 == some .gt || FloatKind.f32.format.order k 0 == some .eq) = t ∧
    (FloatKind.f32.format.order k 1065353216 == some .lt || FloatKind.f32.format.order k 1065353216 == some .eq) = u := by
  have h0 := S.isNum_of S.nought_num
  have h1 := S.isNum_of oneW_num
  by_cases hE : S.expo k < 255
  · have hn := S.num_of_expo hk hE
    have e1 : FloatKind.f32.format.order 0 k = some (compare 0 (S.fval k)) := by have := S.order_val h0 hn; rw [S.nought_val] at this; exact this
    have e2 : FloatKind.f32.format.order k 0 = some (compare (S.fval k) 0) := by have := S.order_val hn h0; rw [S.nought_val] at this; exact this
    have e3 : FloatKind.f32.format.order k 1065353216 = some (compare (S.fval k) (S.oneV : Int)) := by have := S.order_val hn h1; rw [oneW_val] at this; exact this
    rw [e1, e2, e3]
    refine ⟨_, _, ?_, rfl, ?_, rfl⟩
    · rw [Bool.and_eq_true, S.cmp_flag, S.cmp_flag]
      exact ⟨fun h => ⟨hn, h⟩, fun h => h.2⟩
    · generalize S.fval k = v
      rcases Int.lt_trichotomy v 0 with h | h | h
      · rw [Int.compare_eq_lt.2 h, Int.compare_eq_gt.2 h]; rfl
      · subst h; rfl
      · rw [Int.compare_eq_gt.2 h, Int.compare_eq_lt.2 h]; rfl
  · have hE2 : S.expo k = 255 := by have := S.expo_le k; omega
    have hno : ¬ okK k := fun h => hE (S.expo_of_num hk h.1)
    rcases S.read_full hk hE2 with h | ⟨b, h⟩
    · have e2 : FloatKind.f32.format.order k 0 = some (if S.sneg k then .lt else .gt) := S.order_inf h h0
      have e3 : FloatKind.f32.format.order k 1065353216 = some (if S.sneg k then .lt else .gt) := S.order_inf h h1
      have e1 : FloatKind.f32.format.order 0 k = some (if S.sneg k then .gt else .lt) := by
        have h' : FloatKind.f32.format.read k = .infinity (S.sneg k) := h
        unfold Format.order; rw [h', show FloatKind.f32.format.read 0 = _ from S.nought_num]; cases S.sneg k <;> rfl
      rw [e1, e2, e3]
      refine ⟨_, _, ?_, rfl, ?_, rfl⟩
      · cases S.sneg k <;> simp [hno]
      · cases S.sneg k <;> rfl
    · have e2 : ∀ z, FloatKind.f32.format.order k z = none := fun z => S.order_nan h z
      have e1 : FloatKind.f32.format.order 0 k = none := by
        have h' : FloatKind.f32.format.read k = .nan (S.sneg k) b := h
        unfold Format.order; rw [h', show FloatKind.f32.format.read 0 = _ from S.nought_num]; rfl
      rw [e1, e2, e2]
      exact ⟨false, false, by simp [hno], rfl, rfl, rfl⟩
/-- A part damped: its word r. -/
def DampIs (l x k r : Nat) : Prop := ∃ d p, floatBits .sub .f32 x l = some d ∧ floatBits .mul .f32 d k = some p ∧ floatBits .add .f32 l p = some r
set_option maxHeartbeats 400000 in
theorem i_damped (l x k r : Nat) (w : World) (h : DampIs l x k r) :
    Calls Tryz.prog 62 #[.float .f32 l, .float .f32 x, .float .f32 k] w fun e w' => e = .returned (.float .f32 r) ∧ w = w' := by
  obtain ⟨d, p, h1, h2, h3⟩ := h
  have q1 := fun w => run_float_arith (P := Tryz.prog) w .sub 35 .f32 _ _ _ h1
  have q2 := fun w => run_float_arith (P := Tryz.prog) w .mul 35 .f32 _ _ _ h2
  have q3 := fun w => run_float_arith (P := Tryz.prog) w .add 35 .f32 _ _ _ h3
  clear h1 h2 h3
  go_enter Tryz.func62, Tryz.ntmps62
  go_wp2
  go_ret
  exact ⟨rfl, rfl⟩
end Go.Proofs.YtonoknbangnleaaGreat

/- Winds that are damped, eighths: plain facts on float32 words. Nothing here speaks of the program. -/
namespace Go.Proofs.YtonoknbangnleaaGreat
open Go.RowKit Ieee

theorem repS (q : Nat) (hq : q ≤ 16777216) (e : Nat) : S.Rep ((q * 2 ^ e : Nat) : Int) := ⟨q, e, hq, by rw [Int.natAbs_natCast]⟩
theorem repS_zero : S.Rep 0 := ⟨0, 0, by omega, by simp⟩
theorem rep_times (q : Nat) (hq : q ≤ 16777216) : S.Rep ((q : Int) * (S.oneV : Int)) := by
  have := repS q hq S.fixE
  rw [Int.natCast_mul] at this
  exact this
theorem oneS_pos : 0 < S.oneV := Nat.two_pow_pos _
theorem oneS_lt (c : Nat) (hc : c < 2 ^ 100) : c * S.oneV < 2 ^ S.fixB := by
  have h1 := S.fixB_eq
  have h2 := S.fixE_eq
  have h3 : c * S.oneV < 2 ^ 100 * S.oneV := Nat.mul_lt_mul_of_pos_right hc oneS_pos
  refine Nat.lt_of_lt_of_le h3 ?_
  unfold S.oneV
  rw [← Nat.pow_add]
  exact Nat.pow_le_pow_right (by omega) (by omega)
/-- Bounds of a rounded value. -/
theorem near_le {v N g : Int} {D : Nat} (h : S.NearI v N D) (hg : S.Rep g) (h1 : N ≤ g * (D : Int)) : v ≤ g := (h g hg).2 h1
theorem near_ge {v N g : Int} {D : Nat} (h : S.NearI v N D) (hg : S.Rep g) (h1 : g * (D : Int) ≤ N) : g ≤ v := (h g hg).1 h1

theorem near_one {v g : Int} (h : S.NearI v g 1) (hg : S.Rep g) : v = g := by
  obtain ⟨h1, h2⟩ := h g hg
  simp only [Int.natCast_one, Int.mul_one] at h1 h2
  exact Int.le_antisymm (h2 (Int.le_refl _)) (h1 (Int.le_refl _))

/-- A damped part exists; how it comes about. -/
theorem damp_ex {l x k : Nat} (hl : S.okP l) (hx : S.okP x) (hk : okK k) :
    ∃ d p r, floatBits .sub .f32 x l = some d ∧ floatBits .mul .f32 d k = some p ∧ floatBits .add .f32 l p = some r ∧ r < 4294967296 ∧ S.isNum d ∧ S.isNum p ∧ S.isNum r ∧
      S.NearI (S.fval d) (S.fval x - S.fval l) 1 ∧ S.NearI (S.fval p) (S.fval d * S.fval k) S.oneV ∧ S.NearI (S.fval r) (S.fval l + S.fval p) 1 := by
  obtain ⟨l0, l1⟩ := hl
  obtain ⟨x0, x1⟩ := hx
  obtain ⟨k0, k1, k2⟩ := hk
  have hO := oneS_pos
  have b1 := oneS_lt 1000 (by decide)
  obtain ⟨d, d1, d2, d3, d4⟩ := S.sub_op x0 l0 (by omega)
  have n1 := d4.near (by omega)
  have db1 : S.fval d ≤ 200 * (S.oneV : Int) := near_le n1 (rep_times 200 (by omega)) (by push_cast; omega)
  have db2 : -(200 * (S.oneV : Int)) ≤ S.fval d := near_ge n1 (S.rep_neg (rep_times 200 (by omega))) (by push_cast; omega)
  have dk : (S.fval d * S.fval k).natAbs ≤ 200 * S.oneV * S.oneV := by
    rw [Int.natAbs_mul]; exact Nat.mul_le_mul (by omega) (by omega)
  obtain ⟨p, p1, p2, p3, p4⟩ := S.mul_op d2 k0 (by
    have h1 : 200 * S.oneV * S.oneV < 2 ^ S.fixB * S.oneV := Nat.mul_lt_mul_of_pos_right (oneS_lt 200 (by decide)) hO
    rw [Nat.pow_add]
    exact Nat.lt_of_le_of_lt dk h1)
  have n2 := p4.near hO
  have pb1 : S.fval p ≤ 200 * (S.oneV : Int) := near_le n2 (rep_times 200 (by omega)) (by
    have h1 : S.fval d * S.fval k ≤ ((S.fval d * S.fval k).natAbs : Int) := by omega
    have h2 : ((S.fval d * S.fval k).natAbs : Int) ≤ ((200 * S.oneV * S.oneV : Nat) : Int) := by exact_mod_cast dk
    rw [Int.natCast_mul, Int.natCast_mul] at h2; exact Int.le_trans h1 h2)
  have pb2 : -(200 * (S.oneV : Int)) ≤ S.fval p := near_ge n2 (S.rep_neg (rep_times 200 (by omega))) (by
    have h1 : -((S.fval d * S.fval k).natAbs : Int) ≤ S.fval d * S.fval k := by omega
    have h2 : ((S.fval d * S.fval k).natAbs : Int) ≤ ((200 * S.oneV * S.oneV : Nat) : Int) := by exact_mod_cast dk
    rw [Int.natCast_mul, Int.natCast_mul] at h2; rw [Int.neg_mul]; exact Int.le_trans (Int.neg_le_neg h2) h1)
  obtain ⟨r, r1, r2, r3, r4⟩ := S.add_op l0 p2 (by omega)
  exact ⟨d, p, r, d1, p1, r1, r3, d2, p2, r2, n1, n2, r4.near (by omega)⟩
/-- With the share 0, or toward itself, a part stays. -/
theorem damp_still {l x k : Nat} (hl : S.okP l) (hx : S.okP x) (hk : okK k) (h : S.fval k = 0 ∨ S.fval x = S.fval l) : ∃ r, DampIs l x k r ∧ r < 4294967296 ∧ S.isNum r ∧ S.fval r = S.fval l := by
  obtain ⟨d, p, r, h1, h2, h3, hr, nd, np, nr, e1, e2, e3⟩ := damp_ex hl hx hk
  have hp : S.fval p = 0 := by
    have hz : S.fval d * S.fval k = 0 := by
      rcases h with h | h
      · rw [h, Int.mul_zero]
      · have : S.fval d = 0 := by
          rw [h, Int.sub_self] at e1
          exact near_one e1 repS_zero
        rw [this, Int.zero_mul]
    rw [hz] at e2
    exact S.NearI.exact (g := 0) (by rw [Int.zero_mul]; exact e2) repS_zero
  refine ⟨r, ⟨d, p, h1, h2, h3⟩, hr, nr, ?_⟩
  rw [hp, Int.add_zero] at e3
  exact near_one (g := S.fval l) e3 (S.rep_num hl.1)
/-- A damped part is a word. -/
theorem damp_is {l x k : Nat} (hl : S.okP l) (hx : S.okP x) (hk : okK k) : ∃ r, DampIs l x k r ∧ r < 4294967296 ∧ S.isNum r := by
  obtain ⟨d, p, r, h1, h2, h3, hr, nd, np, nr, _⟩ := damp_ex hl hx hk
  exact ⟨r, ⟨d, p, h1, h2, h3⟩, hr, nr⟩
theorem order_same {x y : Nat} (hx : S.isNum x) (hy : S.isNum y) (h : S.fval x = S.fval y) : FloatKind.f32.format.order x y = some .eq := by
  have := S.order_val hx hy
  rw [h, Int.compare_eq_eq.2 rfl] at this
  exact this
theorem okP_same {x y : Nat} (hy : S.isNum y) (h : S.fval y = S.fval x) (hx : S.okP x) : S.okP y := ⟨hy, by rw [h]; exact hx.2⟩
theorem okK_zero : okK 0 := ⟨S.isNum_of S.nought_num, by rw [S.nought_val]; omega, by rw [S.nought_val]; omega⟩
theorem okK_one : okK 1065353216 := ⟨S.isNum_of oneW_num, by rw [oneW_val]; omega, by rw [oneW_val]; exact Int.le_refl _⟩

/-- An eighth. -/
noncomputable def eigV : Nat := 2 ^ (S.fixE - 3)
theorem one_eig : S.oneV = 8 * eigV := by
  unfold S.oneV eigV
  have := S.fixE_eq
  rw [show (8 : Nat) = 2 ^ 3 from rfl, ← Nat.pow_add, show 3 + (S.fixE - 3) = S.fixE by omega]
theorem eig_pos : 0 < eigV := Nat.two_pow_pos _
theorem eightS_num : S.f32.read 1090519040 = .number false 8388608 (-20) := by kernel_rfl
theorem eightS_val : S.fval 1090519040 = ((8 * S.oneV : Nat) : Int) := by
  have hf := S.fixE_eq
  unfold S.fval; rw [eightS_num]; show signed false 8388608 (-20 + 149 : Int).toNat = _
  rw [show (-20 + 149 : Int).toNat = S.fixE - 20 by omega, signed_eq]
  show ((8388608 * 2 ^ (S.fixE - 20) : Nat) : Int) = ((8 * S.oneV : Nat) : Int)
  unfold S.oneV
  rw [show (8388608 : Nat) = 2 ^ 23 from rfl, show (8 : Nat) = 2 ^ 3 from rfl, ← Nat.pow_add, ← Nat.pow_add, show 23 + (S.fixE - 20) = 3 + S.fixE by omega]
theorem rep_eig (n : Int) (h : n.natAbs ≤ 16777216) : S.Rep (n * (eigV : Int)) := ⟨n.natAbs, S.fixE - 3, h, by rw [Int.natAbs_mul]; rfl⟩
/-- A whole number of eighths, as a float32. -/
def Eig (n : Int) (x : Nat) : Prop := S.isNum x ∧ x < 4294967296 ∧ S.fval x = n * (eigV : Int)
theorem eig_ex (n : Int) (h0 : -1000 ≤ n) (h1 : n ≤ 1000) : ∃ x, floatBits .quo .f32 (floatOfInt .f32 n) 1090519040 = some x ∧ Eig n x := by
  have hO := oneS_pos
  have hE := S.fixE_eq
  obtain ⟨a1, a2⟩ := S.ofInt_val n (by omega) (by omega)
  have b1 := S.isNum_of eightS_num
  have ab : (S.fval (floatOfInt .f32 n)).natAbs = n.natAbs * S.oneV := by rw [a2, Int.natAbs_mul]; rfl
  obtain ⟨r, r1, r2, r3, s, t, R, e1, e2, e3, hn⟩ := S.div_op a1 b1 (by
      rw [ab, Nat.pow_add]
      show n.natAbs * S.oneV < S.oneV * 2 ^ 50
      rw [Nat.mul_comm S.oneV]
      exact Nat.mul_lt_mul_of_pos_right (by have : (2 : Nat) ^ 50 = 1125899906842624 := rfl
                                            omega) hO) (by
      rw [eightS_val, Int.natAbs_natCast]
      have : 2 ^ (S.fixE - 50) ≤ S.oneV := by unfold S.oneV; exact Nat.pow_le_pow_right (by omega) (by omega)
      omega)
  refine ⟨r, r1, r2, r3, ?_⟩
  rw [ab, eightS_val, Int.natAbs_natCast] at hn
  have hq := hn n.natAbs (S.fixE - 3) (by omega)
  have hk : n.natAbs * 2 ^ (S.fixE - 3) * (8 * S.oneV) = n.natAbs * S.oneV * S.oneV := by
    show n.natAbs * eigV * (8 * S.oneV) = _
    have e8 := one_eig
    rw [Nat.mul_assoc, ← Nat.mul_assoc eigV, Nat.mul_comm eigV 8, ← e8, ← Nat.mul_assoc]
  have hR : R = n.natAbs * eigV := Nat.le_antisymm (hq.2.1 (by rw [hk]; exact Nat.le_refl _)) (hq.1 (by rw [hk]; exact Nat.le_refl _))
  have ht : t = false := by
    rw [eightS_val] at e3
    cases t
    · rfl
    · simp only [if_true, Int.natAbs_natCast] at e3; omega
  subst ht
  rw [e1, hR, Int.natCast_mul]
  rw [a2] at e2
  have hOi : (0 : Int) < (S.oneV : Int) := by omega
  cases s
  · simp only [Bool.xor_false, Bool.false_eq_true, if_false] at e2 ⊢
    have h2 : 0 ≤ n := by
      rcases Int.lt_or_le n 0 with h | h
      · have := Int.mul_neg_of_neg_of_pos h hOi; omega
      · exact h
    rw [show ((n.natAbs : Nat) : Int) = n by omega]
  · simp only [Bool.xor_false, if_true] at e2 ⊢
    have h2 : n ≤ 0 := by
      rcases Int.lt_or_le 0 n with h | h
      · have := Int.mul_pos h hOi; omega
      · exact h
    rw [show ((n.natAbs : Nat) : Int) = -n by omega, Int.neg_mul, Int.neg_neg]
theorem Eig.okP {n : Int} {x : Nat} (h : Eig n x) (h0 : n.natAbs ≤ 800) : S.okP x := by
  refine ⟨h.1, ?_⟩
  rw [h.2.2, Int.natAbs_mul, one_eig]
  show n.natAbs * eigV ≤ 100 * (8 * eigV)
  have := Nat.mul_le_mul_right eigV h0
  rw [← Nat.mul_assoc]; exact this
theorem eig_bd {n : Int} {x : Nat} (h : Eig n x) (h0 : n.natAbs ≤ 4000) : (S.fval x).natAbs ≤ 500 * S.oneV := by
  rw [h.2.2, Int.natAbs_mul, one_eig]
  show n.natAbs * eigV ≤ 500 * (8 * eigV)
  have := Nat.mul_le_mul_right eigV h0
  rw [← Nat.mul_assoc]; exact this
theorem eig_sub {a b : Int} {x y : Nat} (hx : Eig a x) (hy : Eig b y) (ha : a.natAbs ≤ 4000) (hb : b.natAbs ≤ 4000) : ∃ r, floatBits .sub .f32 x y = some r ∧ Eig (a - b) r := by
  have b1 := oneS_lt 1001 (by decide)
  have hO := oneS_pos
  have c1 := eig_bd hx ha
  have c2 := eig_bd hy hb
  obtain ⟨r, r1, r2, r3, r4⟩ := S.sub_op hx.1 hy.1 (by omega)
  refine ⟨r, r1, r2, r3, ?_⟩
  have hn := r4.near (by omega)
  rw [hx.2.2, hy.2.2, ← Int.sub_mul] at hn
  exact near_one (g := (a - b) * (eigV : Int)) hn (rep_eig _ (by omega))
theorem eig_add {a b : Int} {x y : Nat} (hx : Eig a x) (hy : Eig b y) (ha : a.natAbs ≤ 4000) (hb : b.natAbs ≤ 4000) : ∃ r, floatBits .add .f32 x y = some r ∧ Eig (a + b) r := by
  have b1 := oneS_lt 1001 (by decide)
  have hO := oneS_pos
  have c1 := eig_bd hx ha
  have c2 := eig_bd hy hb
  obtain ⟨r, r1, r2, r3, r4⟩ := S.add_op hx.1 hy.1 (by omega)
  refine ⟨r, r1, r2, r3, ?_⟩
  have hn := r4.near (by omega)
  rw [hx.2.2, hy.2.2, ← Int.add_mul] at hn
  exact near_one (g := (a + b) * (eigV : Int)) hn (rep_eig _ (by omega))
/-- Damped with the share 1 an eighth becomes the new one. -/
theorem eig_damp {a b : Int} {l x : Nat} (hl : Eig a l) (hx : Eig b x) (ha : a.natAbs ≤ 800) (hb : b.natAbs ≤ 800) : ∃ r, DampIs l x 1065353216 r ∧ Eig b r := by
  obtain ⟨d, p, r, h1, h2, h3, hr, nd, np, nr, e1, e2, e3⟩ := damp_ex (hl.okP ha) (hx.okP hb) okK_one
  refine ⟨r, ⟨d, p, h1, h2, h3⟩, nr, hr, ?_⟩
  rw [oneW_val] at e2
  have hp : S.fval p = S.fval d := S.NearI.exact e2 (S.rep_num nd)
  rw [hx.2.2, hl.2.2, ← Int.sub_mul] at e1
  have hd : S.fval d = (b - a) * (eigV : Int) := near_one (g := (b - a) * (eigV : Int)) e1 (rep_eig _ (by omega))
  rw [hp, hd, hl.2.2, ← Int.add_mul, show a + (b - a) = b by omega] at e3
  exact near_one (g := b * (eigV : Int)) e3 (rep_eig _ (by omega))
theorem eig_same {a : Int} {x y : Nat} (hx : Eig a x) (hy : Eig a y) : FloatKind.f32.format.order x y = some .eq := order_same hx.1 hy.1 (hx.2.2.trans hy.2.2.symm)
end Go.Proofs.YtonoknbangnleaaGreat
