/- Words of 32 bits widened to 64, and words of 64 bits narrowed. -/
import Derived.Test.YtibkhmdnfloemaaRows
import Derived.Test.YtibkhmdnfloemaaFA
import Derived.Test.YtibkhmdnfloemaaSV
import Derived.WalkKit
import Derived.WalkSpells
import Derived.WalkLawsBesides
import Derived.Lib.Hide
namespace Go.Proofs.Ytibkhmdnfloemaa
open Go.RowKit Ieee

theorem exW : ∃ B : Nat, B = 925 := ⟨_, rfl⟩
noncomputable def fixW : Nat := exW.choose
theorem fixW_eq : fixW = 925 := exW.choose_spec
/-- How many parts of 2 to the -1074 one of 2 to the -149 has. -/
noncomputable def widV : Nat := 2 ^ fixW
theorem widV_pos : 0 < widV := Nat.two_pow_pos _
theorem oneV_wid : oneV = S.oneV * widV := by
  unfold oneV S.oneV widV
  rw [← Nat.pow_add, show fixE = S.fixE + fixW by have := fixE_eq; have := S.fixE_eq; have := fixW_eq; omega]

/-- The widened word. -/
def wid (x : Nat) : Nat := f64.write (S.f32.read x)
theorem wid_lt (x : Nat) : wid x < 18446744073709551616 := f64.write_lt _
theorem wid_num {x : Nat} (hx : x < 4294967296) (h : S.isNum x) : floatToFloatBits .f32 x .f64 = some (wid x) ∧ isNum (wid x) ∧ fval (wid x) = S.fval x * (widV : Int) := by
  have hE := S.expo_of_num hx h
  have hf := fixW_eq
  obtain ⟨M, P, hr, hM, hc⟩ := S.num_form x hx hE
  have hP : P ≤ 253 := by rcases hc with ⟨_, h, _⟩ | ⟨h, _, _⟩ <;> omega
  have hw : wid x = f64.write (.number (S.sneg x) M (-149 + (P : Int))) := by unfold wid; rw [hr]
  obtain ⟨w1, w2⟩ := write_exact (S.sneg x) M (-149 + (P : Int)) M 0 (by omega) (by omega) (by omega) (by omega)
  rw [← hw] at w1 w2
  refine ⟨?_, w1, ?_⟩
  · obtain ⟨s, m, i, e, _⟩ := w1
    unfold floatToFloatBits
    rw [if_neg (by decide)]
    rw [show FloatKind.f32.decode x = .number (S.sneg x) M (-149 + (P : Int)) from hr]
    show (if (f64.read (f64.write (.number (S.sneg x) M (-149 + (P : Int))))).isInfinity then none else some (f64.write (.number (S.sneg x) M (-149 + (P : Int))))) = _
    rw [← hw, e]; rfl
  · rw [w2]
    unfold S.fval
    rw [hr]
    show signed (S.sneg x) M (-149 + (P : Int) + 1074).toNat = signed (S.sneg x) M (-149 + (P : Int) + 149).toNat * _
    rw [show (-149 + (P : Int) + 1074).toNat = (-149 + (P : Int) + 149).toNat + fixW by omega, signed_shift]; rfl

/-- The narrowed word of a number whose value is one of 24 digits, not too great. -/
theorem nar_num {y : Nat} (h : isNum y) {v : Int} (hv : fval y = v * (widV : Int)) (hr : S.Rep v) (hb : v.natAbs < 2 ^ S.fixB) :
    ∃ r, floatToFloatBits .f64 y .f32 = some r ∧ S.isNum r ∧ S.fval r = v ∧ r < 4294967296 := by
  have hf := fixW_eq
  obtain ⟨s, m, i, e, hi, hm⟩ := h
  have hw : fval y = signed s m (i + 1074).toNat := by unfold fval; rw [e]; rfl
  have habs : m * 2 ^ (i + 1074).toNat = v.natAbs * widV := by
    rw [← (val_amount s m (i + 1074).toNat).1, ← hw, hv, Int.natAbs_mul]; rfl
  obtain ⟨n1, R, n2, n3⟩ := S.near_core s m i fixW (i + 1074).toNat (by omega) (by
    rw [habs, Nat.pow_add, ← S.fixB_eq]; exact Nat.mul_lt_mul_of_pos_right hb widV_pos)
  have hR : R = v.natAbs := by
    rw [habs] at n3
    have hq : S.Rep ((v.natAbs : Nat) : Int) := by obtain ⟨q, k, a, b⟩ := hr; exact ⟨q, k, a, by rw [Int.natAbs_natCast]; exact b⟩
    have hnI := S.near_int_pos n3 (Nat.two_pow_pos _)
    have := S.NearI.exact (g := ((v.natAbs : Nat) : Int)) (by rw [Int.natCast_mul] at hnI; exact hnI) hq
    exact_mod_cast this
  have hval : S.fval (S.f32.nearest s m i) = v := by
    rw [n2, hR]
    have h2 : signed s m (i + 1074).toNat = v * (widV : Int) := hw.symm.trans hv
    rw [signed_eq, habs] at h2
    have hp : (0 : Int) < (widV : Int) := by have := widV_pos; omega
    cases s
    · simp only [Bool.false_eq_true, if_false] at h2 ⊢
      rw [Int.natCast_mul] at h2
      exact Int.eq_of_mul_eq_mul_right (by omega) h2
    · simp only [if_true] at h2 ⊢
      rw [Int.natCast_mul, ← Int.neg_mul] at h2
      exact Int.eq_of_mul_eq_mul_right (by omega) h2
  refine ⟨S.f32.nearest s m i, ?_, n1, hval, S.f32.write_lt (.number s m i)⟩
  obtain ⟨s', m', i', e', _⟩ := n1
  unfold floatToFloatBits
  rw [if_neg (by decide)]
  rw [show FloatKind.f64.decode y = .number s m i from e]
  show (if (S.f32.read (S.f32.nearest s m i)).isInfinity then none else some (S.f32.nearest s m i)) = _
  rw [e']; rfl

theorem nan_cut64 (x t u : Nat) (hu : (Question.nanConv .f64 x).cut t = u) : u < 18446744073709551616 ∧ ∀ z, f64.order (u % 9223372036854775808) z = none := by
  obtain ⟨h1, _, _, h2⟩ := nan_cut 0 0 t u hu
  exact ⟨h1, h2⟩

/-- Narrowing at any word: a word, or one that is drawn. -/
theorem nar_any (src dst : TypeId) (hs : (Try.prog.underlying src).isSome = true) (hd : Try.prog.underlying dst = some (.float .f32)) (y : Nat) :
    (∃ r, r < 4294967296 ∧ ∀ w, (convert src dst (.float .f64 y)).run Try.prog w = .ok (.float .f32 r) w) ∨
    ∃ nb : World → Nat, (∀ w, nb w < 4294967296) ∧ ∀ w, (convert src dst (.float .f64 y)).run Try.prog w = .ok (.float .f32 (nb w)) w.drew := by
  cases h : floatToFloatBits .f64 y .f32 with
  | some r =>
    left
    refine ⟨r, ?_, fun w => run_convert_float_float (P := Try.prog) w src dst .f64 .f32 y r hs hd h⟩
    unfold floatToFloatBits at h
    rw [if_neg (by decide)] at h
    split at h
    · cases h
    · injection h with h; rw [← h]; exact S.f32.write_lt _
    · split at h
      · cases h
      · injection h with h; rw [← h]; exact S.f32.write_lt _
  | none =>
    right
    obtain ⟨u, hs'⟩ := Option.isSome_iff_exists.1 hs
    unfold floatToFloatBits at h
    rw [if_neg (by decide)] at h
    split at h
    · rename_i a b he
      refine ⟨fun w => (Question.nanConv .f32 y).cut (w.tape w.drawn (.nanConv .f32 y)), fun w => ?_, fun w => ?_⟩
      · simp only [Question.cut]; omega
      · cases u <;> simp [convert, run_underlying hs', run_underlying hd, Conv.floatToFloat, he, Question.forced]
    · cases h
    · rename_i s m e he
      split at h
      · rename_i ho
        refine ⟨fun w => (Question.floatToFloat y).cut (w.tape w.drawn (.floatToFloat y)), fun w => ?_, fun w => ?_⟩
        · simp only [Question.cut]; omega
        · cases u <;> simp [convert, run_underlying hs', run_underlying hd, Conv.floatToFloat, he, ho, Question.forced]
      · cases h

theorem hundW_num : f64.read 4636737291354636288 = .number false 7036874417766400 (-46) := by kernel_rfl
theorem hundW_val : fval 4636737291354636288 = 100 * (oneV : Int) := by
  have hf := fixE_eq
  unfold fval; rw [hundW_num]; show signed false 7036874417766400 (-46 + 1074 : Int).toNat = _
  rw [show (-46 + 1074 : Int).toNat = fixE - 46 by omega, signed_eq]
  show ((7036874417766400 * 2 ^ (fixE - 46) : Nat) : Int) = 100 * ((oneV : Nat) : Int)
  have h : oneV = 70368744177664 * 2 ^ (fixE - 46) := by
    unfold oneV; rw [show (70368744177664 : Nat) = 2 ^ 46 from rfl, ← Nat.pow_add, show 46 + (fixE - 46) = fixE by omega]
  rw [h]
  generalize 2 ^ (fixE - 46) = y
  omega

theorem okP_wid {x : Nat} (hx : x < 4294967296) (h : S.isNum x) : (fval (wid x)).natAbs ≤ 100 * oneV ↔ (S.fval x).natAbs ≤ 100 * S.oneV := by
  rw [(wid_num hx h).2.2, Int.natAbs_mul, oneV_wid, ← Nat.mul_assoc]
  exact ⟨fun h => Nat.le_of_mul_le_mul_right h widV_pos, fun h => Nat.mul_le_mul_right _ h⟩

/-- A part, widened, against the bound. -/
theorem part_flag (x : Nat) (hx : x < 4294967296) :
    (∃ y t, (t = true ↔ S.okP x) ∧ y < 18446744073709551616 ∧ floatToFloatBits .f32 x .f64 = some y ∧ (f64.order (y % 9223372036854775808) 4636737291354636288 == some .lt || f64.order (y % 9223372036854775808) 4636737291354636288 == some .eq) = t)
    ∨ (¬ S.okP x ∧ ∃ a b, FloatKind.f32.decode x = .nan a b) := by
  have hc := isNum_of hundW_num
  by_cases hE : S.expo x < 255
  · left
    have hn := S.num_of_expo hx hE
    obtain ⟨c1, c2, c3⟩ := wid_num hx hn
    obtain ⟨an, av⟩ := abs_num (wid_lt x) c2
    refine ⟨wid x, _, ?_, wid_lt x, c1, rfl⟩
    rw [order_val an hc, av, hundW_val, S.cmp_flag]
    have := okP_wid hx hn
    exact ⟨fun h => ⟨hn, this.1 (by omega)⟩, fun h => by have := this.2 h.2; omega⟩
  · have hE2 : S.expo x = 255 := by have := S.expo_le x; omega
    have hno : ¬ S.okP x := fun h => hE (S.expo_of_num hx h.1)
    rcases S.read_full hx hE2 with h | ⟨b, h⟩
    · left
      have he : FloatKind.f32.decode x = .infinity (S.sneg x) := h
      refine ⟨f64.write (.infinity (S.sneg x)), false, ⟨fun h => (by cases h), fun h => absurd h hno⟩, f64.write_lt _, ?_, ?_⟩
      · unfold floatToFloatBits
        rw [if_neg (by decide), he]; rfl
      · cases S.sneg x <;> kernel_rfl
    · right
      exact ⟨hno, _, _, h⟩
theorem wide_nan (src dst : TypeId) (hs : (Try.prog.underlying src).isSome = true) (hd : Try.prog.underlying dst = some (.float .f64)) (x : Nat) {a : Bool} {b : Nat} (he : FloatKind.f32.decode x = .nan a b) :
    ∃ nb : World → Nat, (∀ w, nb w < 18446744073709551616 ∧ ∀ z, FloatKind.f64.format.order (nb w % 9223372036854775808) z = none) ∧ ∀ w, (convert src dst (.float .f32 x)).run Try.prog w = .ok (.float .f64 (nb w)) w.drew := by
  obtain ⟨u, hs'⟩ := Option.isSome_iff_exists.1 hs
  refine ⟨fun w => (Question.nanConv .f64 x).cut (w.tape w.drawn (.nanConv .f64 x)), fun w => nan_cut64 _ _ _ rfl, fun w => ?_⟩
  cases u <;> simp [convert, run_underlying hs', run_underlying hd, Conv.floatToFloat, he, Question.forced]
end Go.Proofs.Ytibkhmdnfloemaa
