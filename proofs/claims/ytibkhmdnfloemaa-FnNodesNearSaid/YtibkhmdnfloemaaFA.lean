/- Floating point words of 64 bits: what they read as, order, rounding, sums, products, quotients; math.Round, math.Abs; ToFixed. (Several texts as one.) -/
import Derived.WalkKit
import Derived.WalkLawsBesides
import Derived.Test.YtibkhmdnfloemaaRows
import Derived.Lib.Hide
import Derived.WalkSpells
namespace Go.Proofs.Ytibkhmdnfloemaa
open Go.RowKit Ieee

theorem fl_binade_pos (f : Format) : 0 < f.binade := Nat.two_pow_pos _
theorem fl_word_read (f : Format) (neg : Bool) (r : Nat) (h : r < f.signWeight) : f.word neg r / f.signWeight % 2 = neg.toNat ∧ f.word neg r % f.signWeight = r := by
  have hp : 0 < f.signWeight := Nat.lt_of_le_of_lt (Nat.zero_le _) h
  unfold Format.word
  cases neg
  · simp [Nat.div_eq_of_lt h, Nat.mod_eq_of_lt h]
  · simp only [if_true, Bool.toNat_true]
    refine ⟨?_, ?_⟩
    · rw [Nat.add_div_left _ hp, Nat.div_eq_of_lt h]
    · rw [Nat.add_mod_left, Nat.mod_eq_of_lt h]

theorem fl_inf_lt (f : Format) : f.infRung < f.signWeight := f.infRung_lt

/-- A word of a rung, read. -/
theorem fl_read_word (f : Format) (neg : Bool) (r : Nat) (h : r < f.signWeight) :
    f.read (f.word neg r) = if r < f.binade then .number neg r f.leastPlace
      else if r < f.infRung then .number neg (f.binade + r % f.binade) (f.leastPlace + (r / f.binade - 1 : Nat))
      else if r = f.infRung then .infinity neg else .nan neg (r - f.infRung) := by
  obtain ⟨h1, h2⟩ := fl_word_read f neg r h
  have e : (f.word neg r / f.signWeight % 2 == 1) = neg := by rw [h1]; cases neg <;> rfl
  unfold Format.read
  simp only [h2, e]

theorem fl_read_word_nan (f : Format) (neg : Bool) (r : Nat) (h : r ≤ f.infRung) : (f.read (f.word neg r)).isNaN = false := by
  rw [fl_read_word f neg r (Nat.lt_of_le_of_lt h (fl_inf_lt f))]
  split
  · rfl
  · split
    · rfl
    · split
      · rfl
      · exact absurd h (by omega)

theorem fl_nearest_nan (f : Format) (neg : Bool) (mag : Nat) (place : Int) : (f.read (f.nearest neg mag place)).isNaN = false := by
  unfold Format.nearest
  split
  · exact fl_read_word_nan f neg 0 (Nat.zero_le _)
  · exact fl_read_word_nan f neg _ (Nat.min_le_right _ _)

/-- A quotient by a number other than nought is no NaN if the dividend is none. -/
theorem fl_div_some (f : Format) (x y : Nat) (hx : (f.read x).isNaN = false) {s : Bool} {m : Nat} {i : Int} (hy : f.read y = .number s m i) (hm : m ≠ 0) : ∃ r, f.div x y = some r := by
  unfold Format.div
  rw [hy]
  cases e : f.read x with
  | nan a b => rw [e] at hx; cases hx
  | infinity a => exact ⟨_, rfl⟩
  | number a b c =>
    simp only [Datum.quotient, if_neg hm, Option.map_some]
    exact ⟨_, rfl⟩

theorem fl_signed_zero (s : Bool) (u : Nat) : signed s 0 u = 0 := by cases s <;> simp [signed]
theorem fl_signed_eq_zero {s : Bool} {m u : Nat} (h : signed s m u = 0) : m = 0 := by
  have : m <<< u = 0 := by
    have h' : ((m <<< u : Nat) : Int) = 0 := by
      unfold signed at h
      split at h <;> omega
    omega
  rw [Nat.shiftLeft_eq] at this
  rcases Nat.mul_eq_zero.1 this with h | h
  · exact h
  · exact absurd h (Nat.pos_iff_ne_zero.1 (Nat.two_pow_pos _))

/-- A number that is no NaN equals itself; one that is equals nothing. -/
theorem fl_order_self (f : Format) (x : Nat) : f.order x x = if (f.read x).isNaN then none else some .eq := by
  unfold Format.order
  cases f.read x with
  | nan a b => rfl
  | infinity a => cases a <;> rfl
  | number a b c => simp [Datum.order, Datum.isNaN]

theorem fl_compare_eq {a b : Int} (h : compare a b = .eq) : a = b := by
  simpa using h

/-- What equals a zero is a zero. -/
theorem fl_order_zero {f : Format} {x z : Nat} {s : Bool} {i : Int} (hz : f.read z = .number s 0 i) (h : f.order x z = some .eq) : ∃ t j, f.read x = .number t 0 j := by
  unfold Format.order at h
  rw [hz] at h
  cases e : f.read x with
  | nan a b => rw [e] at h; cases h
  | infinity a => rw [e] at h; cases a <;> simp [Datum.order] at h
  | number a b c =>
    rw [e] at h
    simp only [Datum.order, fl_signed_zero, Option.some.injEq] at h
    have := fl_signed_eq_zero (fl_compare_eq h)
    subst this
    exact ⟨a, c, rfl⟩

/-- A number other than nought by a zero: an infinity. -/
theorem fl_div_zero_some {f : Format} {x y : Nat} {s t : Bool} {m : Nat} {i j : Int} (hx : f.read x = .number s m i) (hm : m ≠ 0) (hy : f.read y = .number t 0 j) : ∃ r, f.div x y = some r := by
  unfold Format.div
  rw [hx, hy]
  simp only [Datum.quotient, if_pos, if_neg hm, Option.map_some]
  exact ⟨_, rfl⟩
end Go.Proofs.Ytibkhmdnfloemaa
namespace Go.Proofs.Ytibkhmdnfloemaa
open Go.RowKit Ieee

abbrev f64 : Format := FloatKind.f64.format
theorem f64_eq : f64 = double := rfl
theorem lp64 : f64.leastPlace = -1074 := by kernel_rfl
theorem bin64 : f64.binade = 4503599627370496 := by kernel_rfl
theorem inf64 : f64.infRung = 9218868437227405312 := by kernel_rfl
theorem sgn64 : f64.signWeight = 9223372036854775808 := by kernel_rfl

/-- The value of a datum that is a number, in parts of 2 to the -1074. -/
def dval : Datum → Int
  | .number s m i => signed s m (i + 1074).toNat
  | _ => 0
def fval (x : Nat) : Int := dval (f64.read x)
def isNum (x : Nat) : Prop := ∃ s m i, f64.read x = .number s m i ∧ -1074 ≤ i ∧ m < 9007199254740992

theorem signed_eq (s : Bool) (m u : Nat) : signed s m u = (if s then -((m * 2 ^ u : Nat) : Int) else ((m * 2 ^ u : Nat) : Int)) := by
  unfold signed; rw [Nat.shiftLeft_eq]
theorem signed_shift (s : Bool) (m u v : Nat) : signed s m (u + v) = signed s m u * ((2 ^ v : Nat) : Int) := by
  rw [signed_eq, signed_eq, Nat.pow_add]
  split
  · push_cast; rw [Int.neg_mul, Int.mul_assoc]
  · push_cast; rw [Int.mul_assoc]

/-- Every word that reads as a number. -/
theorem read_num {x : Nat} {s : Bool} {m : Nat} {i : Int} (h : f64.read x = .number s m i) : -1074 ≤ i ∧ m < 9007199254740992 := by
  unfold Format.read at h
  simp only [lp64, bin64, inf64, sgn64] at h
  split at h
  · injection h with h1 h2 h3; omega
  · split at h
    · injection h with h1 h2 h3; omega
    · split at h <;> cases h
theorem isNum_of {x : Nat} {s : Bool} {m : Nat} {i : Int} (h : f64.read x = .number s m i) : isNum x := ⟨s, m, i, h, read_num h⟩

theorem compare_scale (a b : Int) (c : Nat) (hc : 0 < c) : compare (a * (c : Int)) (b * (c : Int)) = compare a b := by
  have hc' : (0 : Int) < (c : Int) := by omega
  rcases Int.lt_trichotomy a b with h | h | h
  · have h' : a * (c : Int) < b * (c : Int) := Int.mul_lt_mul_of_pos_right h hc'
    rw [Int.compare_eq_lt.2 h, Int.compare_eq_lt.2 h']
  · subst h; simp
  · have h' : b * (c : Int) < a * (c : Int) := Int.mul_lt_mul_of_pos_right h hc'
    rw [Int.compare_eq_gt.2 h, Int.compare_eq_gt.2 h']

/-- The order of two numbers is that of their values. -/
theorem order_val {x y : Nat} (hx : isNum x) (hy : isNum y) : f64.order x y = some (compare (fval x) (fval y)) := by
  obtain ⟨s, m, i, ex, hi, _⟩ := hx
  obtain ⟨t, n, j, ey, hj, _⟩ := hy
  unfold Format.order fval
  rw [ex, ey]
  show some (compare (signed s m (i - min i j).toNat) (signed t n (j - min i j).toNat)) = some (compare (signed s m (i + 1074).toNat) (signed t n (j + 1074).toNat))
  rw [show (i + 1074).toNat = (i - min i j).toNat + (min i j + 1074).toNat by omega, show (j + 1074).toNat = (j - min i j).toNat + (min i j + 1074).toNat by omega]
  rw [signed_shift, signed_shift, compare_scale _ _ _ (Nat.two_pow_pos _)]

/-- A cut towards zero is the quotient. -/
theorem cut_zero (neg : Bool) (n d : Nat) : Toward.zero.cut neg n d = n / 2 ^ d := by
  unfold Toward.cut
  simp only [Nat.shiftLeft_eq, Nat.one_mul, Bool.toNat_false, Nat.add_zero]
  rcases Nat.le_total d (n.log2 + 2) with h | h
  · rw [Nat.min_eq_left h]
  · rw [Nat.min_eq_right h]
    have h1 : n < 2 ^ (n.log2 + 1) := Nat.lt_log2_self
    have h2 : n < 2 ^ (n.log2 + 2) := Nat.lt_of_lt_of_le h1 (Nat.pow_le_pow_right (by omega) (by omega))
    have h3 : n < 2 ^ d := Nat.lt_of_lt_of_le h2 (Nat.pow_le_pow_right (by omega) h)
    rw [Nat.div_eq_of_lt h2, Nat.div_eq_of_lt h3]

/-- The value of one half and of one: 2 to the 1073 and to the 1074, the exponents kept from being reckoned out. -/
theorem exE : ∃ E : Nat, E = 1074 := ⟨_, rfl⟩
noncomputable def fixE : Nat := exE.choose
theorem fixE_eq : fixE = 1074 := exE.choose_spec
noncomputable def halfV : Nat := 2 ^ (fixE - 1)
noncomputable def oneV : Nat := 2 ^ fixE
theorem oneV_eq : oneV = 2 * halfV := by
  unfold oneV halfV
  have h : fixE = (fixE - 1) + 1 := by have := fixE_eq; omega
  generalize fixE - 1 = k at *
  rw [h, Nat.pow_succ, Nat.mul_comm]
theorem halfV_pos : 0 < halfV := Nat.two_pow_pos _
/-- A number cut towards zero, as an integer. -/
theorem toInt_val {x : Nat} (hx : isNum x) : (f64.read x).toInt .zero = some ((fval x).tdiv (oneV : Int)) := by
  obtain ⟨s, m, i, ex, hi, _⟩ := hx
  unfold fval
  rw [ex]
  show some (signed s (Toward.zero.cut s (m <<< i.toNat) (-i).toNat) 0) = _
  rw [cut_zero, Nat.shiftLeft_eq, signed_eq, Nat.pow_zero, Nat.mul_one]
  show _ = some ((signed s m (i + 1074).toNat).tdiv (oneV : Int))
  rw [signed_eq]
  have key : m * 2 ^ i.toNat / 2 ^ (-i).toNat = m * 2 ^ (i + 1074).toNat / oneV := by
    unfold oneV
    have hE := fixE_eq
    rcases Int.le_total 0 i with h | h
    · rw [show (-i).toNat = 0 by omega, Nat.pow_zero, Nat.div_one, show (i + 1074).toNat = i.toNat + fixE by omega, Nat.pow_add, ← Nat.mul_assoc, Nat.mul_div_cancel _ (Nat.two_pow_pos _)]
    · rw [show i.toNat = 0 by omega, Nat.pow_zero, Nat.mul_one]
      have e0 : (-i).toNat + (i + 1074).toNat = fixE := by omega
      have e : (2 : Nat) ^ fixE = 2 ^ (-i).toNat * 2 ^ (i + 1074).toNat := by rw [← Nat.pow_add, e0]
      rw [e, Nat.mul_div_mul_right _ _ (Nat.two_pow_pos _)]
  congr 1
  rw [key]
  generalize m * 2 ^ (i + 1074).toNat = a
  generalize oneV = D
  split
  · rw [Int.neg_tdiv, Int.tdiv_eq_ediv_of_nonneg (by omega)]; push_cast; rfl
  · rw [Int.tdiv_eq_ediv_of_nonneg (by omega)]; push_cast; rfl

/-- Rungs that are a whole significand, read. -/
theorem read_rung (neg : Bool) (k q : Nat) (hq0 : 4503599627370496 ≤ q) (hq1 : q < 9007199254740992) (hk : k ≤ 2045) :
    f64.read (f64.word neg (k * 4503599627370496 + q)) = .number neg q (-1074 + (k : Int)) := by
  rw [fl_read_word f64 neg _ (by rw [sgn64]; omega), bin64, inf64, lp64, if_neg (by omega), if_pos (by omega)]
  congr 1
  · omega
  · omega
theorem read_low (neg : Bool) (q : Nat) (hq1 : q < 4503599627370496) : f64.read (f64.word neg q) = .number neg q (-1074) := by
  rw [fl_read_word f64 neg _ (by rw [sgn64]; omega), bin64, lp64, if_pos hq1]

/-- An exact multiple, cut to even, is the quotient. -/
theorem cut_exact (neg : Bool) (q d : Nat) : Toward.even.cut neg (q * 2 ^ d) d = q := by
  unfold Toward.cut
  simp only [Nat.shiftLeft_eq, Nat.one_mul]
  rcases Nat.le_total d ((q * 2 ^ d).log2 + 2) with h | h
  · rw [Nat.min_eq_left h, Nat.mul_mod_left, Nat.mul_div_cancel _ (Nat.two_pow_pos _)]
    have : 0 < 2 ^ d := Nat.two_pow_pos _
    have e : (decide (2 ^ d < 2 * 0) || 2 ^ d == 2 * 0 && q % 2 == 1) = false := by
      simp
    rw [e]; rfl
  · have hq : q = 0 := by
      rcases Nat.eq_zero_or_pos q with h0 | h0
      · exact h0
      · have h1 : q * 2 ^ d < 2 ^ ((q * 2 ^ d).log2 + 1) := Nat.lt_log2_self
        have h2 : 2 ^ ((q * 2 ^ d).log2 + 1) ≤ 2 ^ d := Nat.pow_le_pow_right (by omega) (by omega)
        have h3 : 1 * 2 ^ d ≤ q * 2 ^ d := Nat.mul_le_mul_right _ h0
        omega
    subst hq
    simp

theorem read_kept (neg : Bool) (kept : Nat) (last : Int) (h0 : -1074 ≤ last) (h1 : last ≤ 900) (hk1 : kept < 9007199254740992) (hk0 : last ≠ -1074 → 4503599627370496 ≤ kept) :
    f64.read (f64.word neg ((last - -1074).toNat * 4503599627370496 + kept)) = .number neg kept last := by
  by_cases hb2 : kept < 4503599627370496
  · have hl : last = -1074 := by
      rcases Classical.em (last = -1074) with h | h
      · exact h
      · have := hk0 h; omega
    subst hl
    have e : (((-1074 : Int) - -1074).toNat * 4503599627370496 + kept) = kept := by omega
    rw [e]
    exact read_low neg kept hb2
  · obtain ⟨k, hk⟩ : ∃ k : Nat, (last - -1074).toNat = k := ⟨_, rfl⟩
    have hl : last = -1074 + (k : Int) := by omega
    rw [hk, hl]
    exact read_rung neg k kept (by omega) hk1 (by omega)

set_option maxHeartbeats 1000000 in
/-- A number with at most 53 binary digits, not too great, is written exactly: its word has its value. -/
theorem write_exact (neg : Bool) (mag : Nat) (place : Int) (q t : Nat) (hm : mag = q * 2 ^ t) (hq : q < 9007199254740992) (hp : -1074 ≤ place) (hb : (t : Int) + place ≤ 900) :
    isNum (f64.write (.number neg mag place)) ∧ fval (f64.write (.number neg mag place)) = signed neg mag (place + 1074).toNat := by
  show isNum (f64.nearest neg mag place) ∧ fval (f64.nearest neg mag place) = _
  by_cases h0 : mag = 0
  · have e : f64.nearest neg mag place = f64.word neg 0 := by unfold Format.nearest; rw [if_pos h0]
    rw [e]
    have r := read_low neg 0 (by omega)
    refine ⟨isNum_of r, ?_⟩
    unfold fval
    rw [r, h0]
    show signed neg 0 _ = signed neg 0 _
    rw [fl_signed_zero, fl_signed_zero]
  · have hq0 : q ≠ 0 := fun e => h0 (by rw [hm, e, Nat.zero_mul])
    have hlog : mag.log2 = q.log2 + t := by
      rw [hm]
      refine (Nat.log2_eq_iff (by rw [← hm]; exact h0)).2 ⟨?_, ?_⟩
      · rw [Nat.pow_add]; exact Nat.mul_le_mul_right _ (Nat.log2_self_le hq0)
      · rw [show q.log2 + t + 1 = (q.log2 + 1) + t by omega, Nat.pow_add]; exact Nat.mul_lt_mul_of_pos_right Nat.lt_log2_self (Nat.two_pow_pos _)
    have hql : q.log2 ≤ 52 := by
      have := (Nat.log2_lt hq0).2 (show q < 2 ^ 53 from hq); omega
    -- the last place that is kept
    obtain ⟨last, hlast⟩ : ∃ last : Int, last = max (place + mag.log2 - 52) (-1074) := ⟨_, rfl⟩
    have e : f64.nearest neg mag place = f64.word neg (min ((last - -1074).toNat * 4503599627370496 + Toward.even.cut neg (mag <<< (place - last).toNat) (last - place).toNat) 9218868437227405312) := by
      unfold Format.nearest
      rw [if_neg h0]
      simp only [lp64, bin64, inf64]
      rw [hlast]; rfl
    rw [hlog] at hlast
    -- the kept digits
    obtain ⟨kept, hkept⟩ : ∃ kept, kept = Toward.even.cut neg (mag <<< (place - last).toNat) (last - place).toNat := ⟨_, rfl⟩
    have hval : kept * 2 ^ (last + 1074).toNat = mag * 2 ^ (place + 1074).toNat := by
      rw [hkept]
      rcases Int.le_total last place with h | h
      · rw [show (last - place).toNat = 0 by omega, Nat.shiftLeft_eq]
        have := cut_exact neg (mag * 2 ^ (place - last).toNat) 0
        rw [Nat.pow_zero, Nat.mul_one] at this
        rw [this, Nat.mul_assoc, ← Nat.pow_add]
        congr 2; omega
      · rw [show (place - last).toNat = 0 by omega, Nat.shiftLeft_eq, Nat.pow_zero, Nat.mul_one]
        have ht : (last - place).toNat ≤ t := by omega
        have hq' : mag = (q * 2 ^ (t - (last - place).toNat)) * 2 ^ (last - place).toNat := by
          rw [hm, Nat.mul_assoc, ← Nat.pow_add]; congr 2; omega
        have := cut_exact neg (q * 2 ^ (t - (last - place).toNat)) (last - place).toNat
        rw [← hq'] at this
        rw [this]
        rw [show (last + 1074).toNat = (last - place).toNat + (place + 1074).toNat by omega, Nat.pow_add, ← Nat.mul_assoc, ← hq']
    have hk1 : kept < 9007199254740992 := by
      have hpos : 0 < 2 ^ (last + 1074).toNat := Nat.two_pow_pos _
      have h1 : mag < 2 ^ (mag.log2 + 1) := Nat.lt_log2_self
      have h2 : mag * 2 ^ (place + 1074).toNat < 2 ^ (mag.log2 + 1) * 2 ^ (place + 1074).toNat := Nat.mul_lt_mul_of_pos_right h1 (Nat.two_pow_pos _)
      rw [← Nat.pow_add] at h2
      have h3 : 2 ^ (mag.log2 + 1 + (place + 1074).toNat) ≤ 2 ^ (53 + (last + 1074).toNat) := Nat.pow_le_pow_right (by omega) (by rw [hlog]; omega)
      rw [Nat.pow_add 2 53] at h3
      have h4 : kept * 2 ^ (last + 1074).toNat < 2 ^ 53 * 2 ^ (last + 1074).toNat := by rw [hval]; omega
      exact Nat.lt_of_mul_lt_mul_right h4
    have hk0 : last ≠ -1074 → 4503599627370496 ≤ kept := fun hne => by
      have h1 : 2 ^ mag.log2 ≤ mag := Nat.log2_self_le h0
      have h2 : 2 ^ mag.log2 * 2 ^ (place + 1074).toNat ≤ mag * 2 ^ (place + 1074).toNat := Nat.mul_le_mul_right _ h1
      rw [← Nat.pow_add, ← hval] at h2
      have h3 : 2 ^ (mag.log2 + (place + 1074).toNat) = 2 ^ 52 * 2 ^ (last + 1074).toNat := by rw [← Nat.pow_add]; congr 1; rw [hlog]; omega
      rw [h3] at h2
      exact Nat.le_of_mul_le_mul_right h2 (Nat.two_pow_pos _)
    have hlu : last ≤ 900 := by omega
    have hll : -1074 ≤ last := by omega
    rw [← hkept] at e
    have hmin : min ((last - -1074).toNat * 4503599627370496 + kept) 9218868437227405312 = (last - -1074).toNat * 4503599627370496 + kept := Nat.min_eq_left (by omega)
    rw [hmin] at e
    rw [e]
    have fin : ∀ r : f64.read (f64.word neg ((last - -1074).toNat * 4503599627370496 + kept)) = .number neg kept last,
        isNum (f64.word neg ((last - -1074).toNat * 4503599627370496 + kept)) ∧ fval (f64.word neg ((last - -1074).toNat * 4503599627370496 + kept)) = signed neg mag (place + 1074).toNat := fun r => by
      refine ⟨isNum_of r, ?_⟩
      unfold fval
      rw [r]
      show signed neg kept (last + 1074).toNat = _
      rw [signed_eq, signed_eq, hval]
    exact fin (read_kept neg kept last hll hlu hk1 hk0)
end Go.Proofs.Ytibkhmdnfloemaa
namespace Go.Proofs.Ytibkhmdnfloemaa
open Go.RowKit

end Go.Proofs.Ytibkhmdnfloemaa
namespace Go.Proofs.Ytibkhmdnfloemaa
open Go.RowKit

theorem run_fbits (x : Nat) (w : World) : (callFunc 49 #[.float .f64 x]).run Try.prog w = .ok (.value (.int .u64 (x : Int))) w := by
  rw [run_callFunc_extern (e := Extern.MathFloatBits.float64bits) Try.func49 (by kernel_rfl) (by kernel_rfl) (by kernel_rfl) (by rfl)]
  rfl
theorem run_ffrom (x : Nat) (w : World) : (callFunc 48 #[.int .u64 (x : Int)]).run Try.prog w = .ok (.value (.float .f64 x)) w := by
  rw [run_callFunc_extern (e := Extern.MathFloatBits.float64frombits) Try.func48 (by kernel_rfl) (by kernel_rfl) (by kernel_rfl) (by rfl)]
  rfl

/-- The exponent field of a word; its sign bit, at its place. -/
def expo (x : Nat) : Nat := x / 4503599627370496 % 2048
def sgb (x : Nat) : Nat := x / 9223372036854775808 * 9223372036854775808
theorem bits_expo (x : Nat) (hx : x < 18446744073709551616) : bits .and .u64 ((x : Int) / 4503599627370496) 2047 = (expo x : Int) := by
  have h := u64_and_nat (x / 4503599627370496) 2047 (by omega) (by omega)
  rw [show ((x : Int) / 4503599627370496) = ((x / 4503599627370496 : Nat) : Int) by omega]
  rw [show (2047 : Int) = ((2047 : Nat) : Int) from rfl, h]
  rw [nat_mask11]; rfl
theorem nat_sign (x : Nat) (hx : x < 18446744073709551616) : x &&& 9223372036854775808 = sgb x := by
  have h2 : x &&& 9223372036854775808 = x / 9223372036854775808 % 2 * 9223372036854775808 := nat_bit 63 x
  have h3 : x / 9223372036854775808 % 2 = x / 9223372036854775808 := Nat.mod_eq_of_lt (by omega)
  rw [h2, h3]; rfl
theorem bits_sign (x : Nat) (hx : x < 18446744073709551616) : bits .and .u64 (x : Int) 9223372036854775808 = (sgb x : Int) := by
  have h := u64_and_nat x 9223372036854775808 hx (by omega)
  rw [nat_sign x hx] at h
  exact h
theorem sgb_cases (x : Nat) (hx : x < 18446744073709551616) : sgb x = 0 ∨ sgb x = 9223372036854775808 := by
  unfold sgb; omega
theorem bits_one (x : Nat) (hx : x < 18446744073709551616) : bits .or .u64 (sgb x : Int) 4607182418800017408 = ((sgb x + 4607182418800017408 : Nat) : Int) := by
  rcases sgb_cases x hx with h | h <;> rw [h] <;> kernel_rfl


/-- A word cleared below its k-th bit. -/
theorem nat_clear (a k : Nat) (ha : a < 18446744073709551616) (hk : k ≤ 52) : a &&& (18446744073709551615 - (2 ^ k - 1)) = a / 2 ^ k * 2 ^ k := by
  have hp : 2 ^ k ≤ 2 ^ 52 := Nat.pow_le_pow_right (by omega) hk
  have hm : (18446744073709551615 - (2 ^ k - 1)) = (2 ^ (64 - k) - 1) <<< k := by
    rw [Nat.shiftLeft_eq, Nat.sub_mul, ← Nat.pow_add, show 64 - k + k = 64 by omega, Nat.one_mul]
    have : 0 < 2 ^ k := Nat.two_pow_pos _
    have h64 : (2 : Nat) ^ 64 = 18446744073709551616 := rfl
    omega
  rw [hm, ← Nat.shiftLeft_eq, ← Nat.shiftRight_eq_div_pow]
  apply Nat.eq_of_testBit_eq
  intro i
  rw [Nat.testBit_and, Nat.testBit_shiftLeft, Nat.testBit_shiftLeft, Nat.testBit_shiftRight, Nat.testBit_two_pow_sub_one]
  by_cases h : k ≤ i
  · have e : k + (i - k) = i := by omega
    rw [e]
    by_cases h6 : i < 64
    · simp [h]; omega
    · have : a.testBit i = false := Nat.testBit_lt_two_pow (Nat.lt_of_lt_of_le ha (by rw [show (18446744073709551616 : Nat) = 2 ^ 64 from rfl]; exact Nat.pow_le_pow_right (by omega) (by omega)))
      simp [this]
  · simp [h]

/-- What math.Round makes of a word between one and 2 to the 52: rounded at its point, half away from zero. -/
def midW (x e : Nat) : Nat := (x + 2 ^ (51 - e)) / 2 ^ (52 - e) * 2 ^ (52 - e)
theorem bits_mid (x e : Nat) (hx : x < 18446744073709551616) (hE : expo x = 1023 + e) (he : e < 52) :
    bits .andNot .u64 (IntKind.u64.wrap ((x : Int) + 2251799813685248 / 2 ^ e)) (4503599627370495 / 2 ^ e) = ((midW x e : Nat) : Int) := by
  have hp1 : 2251799813685248 / 2 ^ e = 2 ^ (51 - e) := by
    have h : (2251799813685248 : Nat) = 2 ^ (51 - e) * 2 ^ e := by rw [← Nat.pow_add, show 51 - e + e = 51 by omega]
    rw [h, Nat.mul_div_cancel _ (Nat.two_pow_pos _)]
  have hp2 : 4503599627370495 / 2 ^ e = 2 ^ (52 - e) - 1 := by
    have h : (4503599627370495 : Nat) = (2 ^ (52 - e) - 1) * 2 ^ e + (2 ^ e - 1) := by
      rw [Nat.sub_mul, ← Nat.pow_add, show 52 - e + e = 52 by omega, Nat.one_mul]
      have h1 : 2 ^ e ≤ 2 ^ 52 := Nat.pow_le_pow_right (by omega) (by omega)
      have h2 : 0 < 2 ^ e := Nat.two_pow_pos _
      have h3 : (2 : Nat) ^ 52 = 4503599627370496 := rfl
      omega
    rw [h, Nat.add_comm, Nat.add_mul_div_right _ _ (Nat.two_pow_pos _), Nat.div_eq_of_lt (by have := Nat.two_pow_pos e; omega), Nat.zero_add]
  have hle : 2 ^ (51 - e) ≤ 2 ^ 51 := Nat.pow_le_pow_right (by omega) (by omega)
  have h51 : (2 : Nat) ^ 51 = 2251799813685248 := rfl
  have hb : x + 2 ^ (51 - e) < 18446744073709551616 := by unfold expo at hE; omega
  have hle2 : 2 ^ (52 - e) ≤ 2 ^ 52 := Nat.pow_le_pow_right (by omega) (by omega)
  have h52 : (2 : Nat) ^ 52 = 4503599627370496 := rfl
  have i1 : ((2251799813685248 : Int) / 2 ^ e) = ((2 ^ (51 - e) : Nat) : Int) := by
    rw [← hp1, Int.natCast_ediv, Int.natCast_pow]; rfl
  have i2 : ((4503599627370495 : Int) / 2 ^ e) = ((2 ^ (52 - e) - 1 : Nat) : Int) := by
    rw [← hp2, Int.natCast_ediv, Int.natCast_pow]; rfl
  rw [i1, i2]
  have hcl := nat_clear (x + 2 ^ (51 - e)) (52 - e) hb (by omega)
  unfold midW
  clear i1 i2 hp1 hp2
  generalize 2 ^ (51 - e) = p at *
  generalize 2 ^ (52 - e) = q at *
  have i3 : IntKind.u64.wrap ((x : Int) + (p : Int)) = ((x + p : Nat) : Int) := by
    rw [IntWalk.u64_in _ (by omega)]; rfl
  rw [i3, u64_andNot_nat _ _ hb (by omega), hcl]


/-- math.Abs strikes the sign. -/
theorem bits_abs (x : Nat) (hx : x < 18446744073709551616) : bits .andNot .u64 (x : Int) 9223372036854775808 = ((x % 9223372036854775808 : Nat) : Int) := by
  have h := u64_andNot_nat x 9223372036854775808 hx (by omega)
  have e : x &&& (18446744073709551615 - 9223372036854775808) = x % 9223372036854775808 := Nat.and_two_pow_sub_one_eq_mod x 63
  rw [e] at h
  exact h
set_option maxRecDepth 100000 in
set_option maxHeartbeats 1000000 in
theorem abs_any (x : Nat) (w : World) (hx : x < 18446744073709551616) :
    Calls Try.prog 41 #[.float .f64 x] w fun e w' => e = .returned (.float .f64 (x % 9223372036854775808)) ∧ w = w' := by
  have r1 := fun (x : Nat) (w : World) => run_fbits x w
  have r2 := fun (w : World) => run_ffrom (x % 9223372036854775808) w
  have e1 := bits_abs x hx
  generalize x % 9223372036854775808 = y at *
  go_enter Try.func41, Try.ntmps41
  go_wp2
  go_ret
  exact ⟨rfl, rfl⟩
end Go.Proofs.Ytibkhmdnfloemaa
namespace Go.Proofs.Ytibkhmdnfloemaa
open Go.RowKit Ieee

def sneg (x : Nat) : Bool := x / 9223372036854775808 == 1
def rung (x : Nat) : Nat := x % 9223372036854775808
theorem expo_rung (x : Nat) (_ : x < 18446744073709551616) : expo x = rung x / 4503599627370496 := by unfold expo rung; omega
theorem word_sneg (x r : Nat) (hx : x < 18446744073709551616) : f64.word (sneg x) r = sgb x + r := by
  unfold Format.word sneg sgb
  rw [sgn64]
  by_cases h : x / 9223372036854775808 = 1
  · rw [h]; rfl
  · have h0 : x / 9223372036854775808 = 0 := by omega
    rw [h0]; simp
theorem word_self (x : Nat) (hx : x < 18446744073709551616) : f64.word (sneg x) (rung x) = x := by
  rw [word_sneg x _ hx]; unfold sgb rung; omega
/-- A finite word, taken apart. -/
theorem num_form (x : Nat) (hx : x < 18446744073709551616) (hE : expo x < 2047) :
    ∃ S P : Nat, f64.read x = .number (sneg x) S (-1074 + (P : Int)) ∧ S < 9007199254740992 ∧
      ((expo x = 0 ∧ P = 0 ∧ S = rung x) ∨ (expo x = P + 1 ∧ 4503599627370496 ≤ S ∧ rung x = P * 4503599627370496 + S)) := by
  have hw := word_self x hx
  have he := expo_rung x hx
  by_cases h0 : expo x = 0
  · have hr : rung x < 4503599627370496 := by omega
    refine ⟨rung x, 0, ?_, by omega, .inl ⟨h0, rfl, rfl⟩⟩
    have := read_low (sneg x) (rung x) hr
    rw [hw] at this
    exact this
  · refine ⟨4503599627370496 + rung x % 4503599627370496, expo x - 1, ?_, by omega, .inr ⟨by omega, by omega, by omega⟩⟩
    have := read_rung (sneg x) (expo x - 1) (4503599627370496 + rung x % 4503599627370496) (by omega) (by omega) (by omega)
    rw [show (expo x - 1) * 4503599627370496 + (4503599627370496 + rung x % 4503599627370496) = rung x by omega, hw] at this
    exact this
theorem expo_of_num {x : Nat} (hx : x < 18446744073709551616) (h : isNum x) : expo x < 2047 := by
  obtain ⟨s, m, i, e, _⟩ := h
  rcases Nat.lt_or_ge (expo x) 2047 with hl | hl
  · exact hl
  · have he := expo_rung x hx
    rw [← word_self x hx, fl_read_word f64 _ _ (by rw [sgn64]; unfold rung; omega), bin64, inf64, if_neg (by omega), if_neg (by omega)] at e
    split at e <;> cases e
/-- The amount of a number's value. -/
theorem val_amount (s : Bool) (m u : Nat) : (signed s m u).natAbs = m * 2 ^ u ∧ (signed s m u = ((m * 2 ^ u : Nat) : Int) ∨ signed s m u = -((m * 2 ^ u : Nat) : Int)) := by
  rw [signed_eq]
  split
  · exact ⟨by rw [Int.natAbs_neg]; rfl, Or.inr rfl⟩
  · exact ⟨rfl, Or.inl rfl⟩

/-- A value rounded at the point, half away from zero. -/
noncomputable def rndN (a : Nat) : Nat := (a + halfV) / oneV
noncomputable def rndI (v : Int) : Int := if v < 0 then -((rndN v.natAbs : Nat) : Int) else ((rndN v.natAbs : Nat) : Int)
/-- A number with the sign of another and a value that is a rounded one. -/
theorem rnd_signed (s : Bool) (m u q k : Nat) (h : q * 2 ^ k = rndN (m * 2 ^ u) * oneV) : signed s q k = rndI (signed s m u) * (oneV : Int) := by
  have hp : 0 < oneV := Nat.two_pow_pos _
  unfold rndI
  rw [(val_amount s m u).1]
  have hq : ((q * 2 ^ k : Nat) : Int) = ((rndN (m * 2 ^ u) : Nat) : Int) * (oneV : Int) := by rw [h]; push_cast; rfl
  have hz : m * 2 ^ u = 0 → rndN (m * 2 ^ u) = 0 := fun e => by
    rw [e]; unfold rndN; rw [Nat.zero_add]; exact Nat.div_eq_of_lt (by rw [oneV_eq]; have := halfV_pos; omega)
  rw [signed_eq s q k, signed_eq s m u]
  generalize m * 2 ^ u = a at *
  generalize q * 2 ^ k = b at *
  cases s
  · simp only [Bool.false_eq_true, if_false]
    rw [if_neg (by omega), hq]
  · simp only [if_true]
    by_cases ha : a = 0
    · rw [hz ha] at hq
      rw [hz ha, ha]
      simp at hq ⊢
      omega
    · rw [if_pos (by omega), hq, Int.neg_mul]

/-- The word that math.Round answers. -/
def rndW (x : Nat) : Nat := if expo x < 1022 then sgb x else if expo x = 1022 then sgb x + 4607182418800017408 else if expo x < 1075 then midW x (expo x - 1023) else x
theorem pow_exp (a b : Nat) (h : a + b = fixE) : 2 ^ a * 2 ^ b = oneV := by unfold oneV; rw [← Nat.pow_add, h]
theorem pow_half (a b : Nat) (h : a + b = fixE - 1) : 2 ^ a * 2 ^ b = halfV := by unfold halfV; rw [← Nat.pow_add, h]

theorem rnd_val (x : Nat) (hx : x < 18446744073709551616) (hE : expo x < 2047) : rndW x < 18446744073709551616 ∧ isNum (rndW x) ∧ fval (rndW x) = rndI (fval x) * (oneV : Int) := by
  obtain ⟨S, P, hr, hS, hcase⟩ := num_form x hx hE
  have hfx : fval x = signed (sneg x) S P := by
    unfold fval; rw [hr]; show signed (sneg x) S (-1074 + (P : Int) + 1074).toNat = _
    rw [show (-1074 + (P : Int) + 1074).toNat = P by omega]
  have hsg : sgb x ≤ 9223372036854775808 := by unfold sgb; omega
  have hpos : 0 < oneV := Nat.two_pow_pos _
  have hfE := fixE_eq
  have key : ∀ (y q k : Nat), y < 18446744073709551616 → f64.read y = .number (sneg x) q (-1074 + (k : Int)) → q * 2 ^ k = rndN (S * 2 ^ P) * oneV →
      y < 18446744073709551616 ∧ isNum y ∧ fval y = rndI (fval x) * (oneV : Int) := fun y q k hy e h => by
    refine ⟨hy, isNum_of e, ?_⟩
    rw [hfx, ← rnd_signed (sneg x) S P q k h]
    unfold fval; rw [e]; show signed (sneg x) q (-1074 + (k : Int) + 1074).toNat = _
    rw [show (-1074 + (k : Int) + 1074).toNat = k by omega]
  have hrl : rung x < 9223372036854775808 := Nat.mod_lt _ (by omega)
  unfold rndW
  by_cases h1 : expo x < 1022
  · rw [if_pos h1]
    refine key _ 0 0 (by omega) ?_ ?_
    · have := read_low (sneg x) 0 (by omega)
      rw [word_sneg x 0 hx, Nat.add_zero] at this
      rw [this, show (-1074 + ((0 : Nat) : Int)) = -1074 from rfl]
    · have hlt : S * 2 ^ P < halfV := by
        have h2 : S * 2 ^ P < 2 ^ 53 * 2 ^ P := Nat.mul_lt_mul_of_pos_right hS (Nat.two_pow_pos _)
        have h3 : 2 ^ 53 * 2 ^ P ≤ halfV := by
          unfold halfV; rw [← Nat.pow_add]; exact Nat.pow_le_pow_right (by omega) (by omega)
        omega
      have : rndN (S * 2 ^ P) = 0 := by unfold rndN; exact Nat.div_eq_of_lt (by rw [oneV_eq]; omega)
      rw [this]; simp
  · rw [if_neg h1]
    rcases hcase with ⟨h0, _⟩ | ⟨hP, hS0, hrg⟩
    · omega
    · by_cases h2 : expo x = 1022
      · rw [if_pos h2]
        refine key _ 4503599627370496 1022 (by omega) ?_ ?_
        · have := read_rung (sneg x) 1022 4503599627370496 (by omega) (by omega) (by omega)
          rw [word_sneg x _ hx] at this
          exact this
        · have hP1 : P = 1021 := by omega
          have e1 : 2 ^ 52 * 2 ^ P = halfV := pow_half _ _ (by omega)
          have e2 : (2 : Nat) ^ 52 = 4503599627370496 := rfl
          have hl : halfV ≤ S * 2 ^ P := by rw [← e1, e2]; exact Nat.mul_le_mul_right _ hS0
          have hu : S * 2 ^ P < 2 * halfV := by
            rw [← e1, e2, ← Nat.mul_assoc]; exact Nat.mul_lt_mul_of_pos_right hS (Nat.two_pow_pos _)
          have hq : rndN (S * 2 ^ P) = 1 := by
            unfold rndN
            refine Nat.div_eq_of_lt_le ?_ ?_
            · rw [oneV_eq]; omega
            · rw [oneV_eq]; omega
          rw [hq, Nat.one_mul, ← e2]
          exact pow_exp 52 1022 (by omega)
      · rw [if_neg h2]
        by_cases h3 : expo x < 1075
        · rw [if_pos h3]
          obtain ⟨e, he⟩ : ∃ e, expo x = 1023 + e := ⟨expo x - 1023, by omega⟩
          have hPe : P = 1022 + e := by omega
          rw [show expo x - 1023 = e by omega]
          -- the quotient at the point
          obtain ⟨Q, hQ⟩ : ∃ Q, Q = (S + 2 ^ (51 - e)) / 2 ^ (52 - e) := ⟨_, rfl⟩
          have hpq : 0 < 2 ^ (52 - e) := Nat.two_pow_pos _
          have hone : 2 ^ (52 - e) * 2 ^ P = oneV := pow_exp _ _ (by omega)
          have hhalf : 2 ^ (51 - e) * 2 ^ P = halfV := pow_half _ _ (by omega)
          have hrn : rndN (S * 2 ^ P) = Q := by
            unfold rndN
            rw [← hhalf, ← hone, ← Nat.add_mul, Nat.mul_div_mul_right _ _ (Nat.two_pow_pos _), hQ]
          have h52 : 2 ^ (52 - e) * 2 ^ e = 4503599627370496 := by rw [← Nat.pow_add, show 52 - e + e = 52 by omega]
          have hmid : midW x e = sgb x + (P * 4503599627370496 + Q * 2 ^ (52 - e)) := by
            unfold midW
            have hxs : x = sgb x + rung x := by unfold sgb rung; omega
            have hsd : ∃ z, sgb x = z * 2 ^ (52 - e) := by
              refine ⟨sgb x / 4503599627370496 * 2 ^ e, ?_⟩
              rw [Nat.mul_assoc, Nat.mul_comm (2 ^ e), h52]
              rcases sgb_cases x hx with h | h <;> rw [h]
            obtain ⟨z, hz⟩ := hsd
            have hPd : P * 4503599627370496 = P * 2 ^ e * 2 ^ (52 - e) := by rw [Nat.mul_assoc, Nat.mul_comm (2 ^ e), h52]
            have hsum : x + 2 ^ (51 - e) = (S + 2 ^ (51 - e)) + (z + P * 2 ^ e) * 2 ^ (52 - e) := by
              rw [Nat.add_mul, ← hz, ← hPd]; omega
            rw [hsum, Nat.add_mul_div_right _ _ hpq, ← hQ, Nat.add_mul, Nat.add_mul, ← hz, ← hPd]
            omega
          have hQl : 4503599627370496 ≤ Q * 2 ^ (52 - e) := by
            rw [← h52, Nat.mul_comm]
            refine Nat.mul_le_mul_right _ ?_
            rw [hQ, Nat.le_div_iff_mul_le hpq, Nat.mul_comm, h52]
            exact Nat.le_trans hS0 (Nat.le_add_right _ _)
          have hQu : Q * 2 ^ (52 - e) ≤ 9007199254740992 := by
            have hS2 : S + 2 ^ (51 - e) < (2 * 2 ^ e + 1) * 2 ^ (52 - e) := by
              have e1 : 2 ^ (52 - e) = 2 * 2 ^ (51 - e) := by rw [show 52 - e = (51 - e) + 1 by omega, Nat.pow_succ, Nat.mul_comm]
              rw [Nat.add_mul, Nat.one_mul, Nat.mul_assoc, Nat.mul_comm (2 ^ e), h52]
              have := Nat.two_pow_pos (51 - e)
              omega
            have hQ2 : Q < 2 * 2 ^ e + 1 := by rw [hQ]; exact (Nat.div_lt_iff_lt_mul hpq).2 hS2
            have : Q * 2 ^ (52 - e) ≤ 2 * 2 ^ e * 2 ^ (52 - e) := Nat.mul_le_mul_right _ (by omega)
            rw [Nat.mul_assoc, Nat.mul_comm (2 ^ e), h52] at this
            exact this
          rw [hmid]
          have hval : Q * 2 ^ (52 - e) * 2 ^ P = rndN (S * 2 ^ P) * oneV := by rw [hrn, Nat.mul_assoc, hone]
          have hP2 : P ≤ 1073 := by omega
          by_cases hfull : Q * 2 ^ (52 - e) = 9007199254740992
          · refine key _ 4503599627370496 (P + 1) (by rw [hfull]; omega) ?_ ?_
            · have := read_rung (sneg x) (P + 1) 4503599627370496 (by omega) (by omega) (by omega)
              rw [word_sneg x _ hx] at this
              rw [hfull, show P * 4503599627370496 + 9007199254740992 = (P + 1) * 4503599627370496 + 4503599627370496 by omega]
              exact this
            · rw [← hval, hfull, Nat.pow_succ, Nat.mul_comm (2 ^ P) 2, ← Nat.mul_assoc]
          · refine key _ (Q * 2 ^ (52 - e)) P (by omega) ?_ hval
            have := read_rung (sneg x) P (Q * 2 ^ (52 - e)) hQl (by omega) (by omega)
            rw [word_sneg x _ hx] at this
            exact this
        · rw [if_neg h3]
          refine key x S P hx hr ?_
          have hdiv : 2 ^ P = 2 ^ (P - fixE) * oneV := by unfold oneV; rw [← Nat.pow_add]; congr 1; omega
          have hrn : rndN (S * 2 ^ P) = S * 2 ^ (P - fixE) := by
            unfold rndN
            rw [hdiv, ← Nat.mul_assoc, Nat.add_comm, Nat.add_mul_div_right _ _ hpos, Nat.div_eq_of_lt (by rw [oneV_eq]; have := halfV_pos; omega), Nat.zero_add]
          rw [hrn, hdiv, Nat.mul_assoc]
end Go.Proofs.Ytibkhmdnfloemaa
namespace Go.Proofs.Ytibkhmdnfloemaa
open Go.RowKit Ieee

theorem rndN_eq (a : Nat) : rndN a = a / oneV + (if halfV ≤ a % oneV then 1 else 0) := by
  have hp : 0 < oneV := Nat.two_pow_pos _
  have hh := halfV_pos
  have h2 := oneV_eq
  unfold rndN
  have hm := Nat.mod_lt a hp
  have e : a + halfV = (a % oneV + halfV) + a / oneV * oneV := by have := Nat.div_add_mod a oneV; rw [Nat.mul_comm] at this; omega
  rw [e, Nat.add_mul_div_right _ _ hp]
  generalize a % oneV = r at *
  split
  · have : (r + halfV) / oneV = 1 := Nat.div_eq_of_lt_le (by omega) (by omega)
    omega
  · have : (r + halfV) / oneV = 0 := Nat.div_eq_of_lt (by omega)
    omega

/-- The constants: a thousand million, that and a half, one half. -/
theorem c9_num : f64.read 4741671816366391296 = .number false 8388608000000000 (-23) := by kernel_rfl
theorem c95_num : f64.read 4741671816370585600 = .number false 8388608004194304 (-23) := by kernel_rfl
theorem c95n_num : f64.read 13965043853225361408 = .number true 8388608004194304 (-23) := by kernel_rfl
theorem ch_num : f64.read 4602678819172646912 = .number false 4503599627370496 (-53) := by kernel_rfl
theorem chn_num : f64.read 13826050856027422720 = .number true 4503599627370496 (-53) := by kernel_rfl
theorem c9_val : fval 4741671816366391296 = 1000000000 * (oneV : Int) := by
  have hf := fixE_eq
  unfold fval; rw [c9_num]; show signed false 8388608000000000 (-23 + 1074 : Int).toNat = _
  rw [show (-23 + 1074 : Int).toNat = fixE - 23 by omega, signed_eq]
  have e := pow_exp 23 (fixE - 23) (by omega)
  have e2 : (8388608000000000 : Nat) = 1000000000 * 2 ^ 23 := rfl
  rw [e2, Nat.mul_assoc, e]; exact Int.natCast_mul 1000000000 oneV
theorem c95_pow : 8388608004194304 * 2 ^ (fixE - 23) = 2000000001 * halfV := by
  have hf := fixE_eq
  have e := pow_half 22 (fixE - 23) (by omega)
  have e2 : (8388608004194304 : Nat) = 2000000001 * 2 ^ 22 := rfl
  rw [e2, Nat.mul_assoc, e]
theorem c95_val : fval 4741671816370585600 = 2000000001 * (halfV : Int) ∧ fval 13965043853225361408 = -(2000000001 * (halfV : Int)) := by
  have hf := fixE_eq
  refine ⟨?_, ?_⟩
  · unfold fval; rw [c95_num]; show signed false 8388608004194304 (-23 + 1074 : Int).toNat = _
    rw [show (-23 + 1074 : Int).toNat = fixE - 23 by omega, signed_eq, c95_pow]; exact Int.natCast_mul 2000000001 halfV
  · unfold fval; rw [c95n_num]; show signed true 8388608004194304 (-23 + 1074 : Int).toNat = _
    rw [show (-23 + 1074 : Int).toNat = fixE - 23 by omega, signed_eq, c95_pow]; exact congrArg (fun z : Int => -z) (Int.natCast_mul 2000000001 halfV)
theorem ch_pow : 4503599627370496 * 2 ^ (fixE - 53) = halfV := by
  have hf := fixE_eq
  have e := pow_half 52 (fixE - 53) (by omega)
  exact e
theorem ch_val : fval 4602678819172646912 = (halfV : Int) ∧ fval 13826050856027422720 = -(halfV : Int) := by
  have hf := fixE_eq
  refine ⟨?_, ?_⟩
  · unfold fval; rw [ch_num]; show signed false 4503599627370496 (-53 + 1074 : Int).toNat = _
    rw [show (-53 + 1074 : Int).toNat = fixE - 53 by omega, signed_eq, ch_pow]; rfl
  · unfold fval; rw [chn_num]; show signed true 4503599627370496 (-53 + 1074 : Int).toNat = _
    rw [show (-53 + 1074 : Int).toNat = fixE - 53 by omega, signed_eq, ch_pow]; rfl

/-- A whole number up to 2 to the 53, as a float. -/
theorem ofInt_val (n : Int) (h0 : -9007199254740992 < n) (h1 : n < 9007199254740992) : isNum (floatOfInt .f64 n) ∧ fval (floatOfInt .f64 n) = n * (oneV : Int) := by
  have hf := fixE_eq
  obtain ⟨a, b⟩ := write_exact (n < 0) n.natAbs 0 n.natAbs 0 (by rw [Nat.pow_zero, Nat.mul_one]) (by omega) (by omega) (by omega)
  refine ⟨a, ?_⟩
  show fval (f64.write (.number (n < 0) n.natAbs 0)) = _
  rw [b, show ((0 : Int) + 1074).toNat = fixE by omega, signed_eq]
  show (if (decide (n < 0)) = true then -((n.natAbs * oneV : Nat) : Int) else ((n.natAbs * oneV : Nat) : Int)) = _
  by_cases h : n < 0
  · rw [if_pos (by simpa using h)]
    push_cast
    rw [show ((n.natAbs : Nat) : Int) = -n by omega, Int.neg_mul, Int.neg_neg]
  · rw [if_neg (by simpa using h)]
    push_cast
    rw [show ((n.natAbs : Nat) : Int) = n by omega]

theorem signed_not (t : Bool) (k u : Nat) : signed (!t) k u = -signed t k u := by
  rw [signed_eq, signed_eq]; cases t <;> simp

/-- A number not too great less its whole part is exact. -/
theorem sub_trunc (p : Nat) (hp : isNum p) (n : Int) (hn : n = (fval p).tdiv (oneV : Int)) (h0 : -9007199254740992 < n) (h1 : n < 9007199254740992) (hb : (fval p).natAbs < 4000000000 * oneV) :
    ∃ f, floatBits .sub .f64 p (floatOfInt .f64 n) = some f ∧ isNum f ∧ fval f = fval p - n * (oneV : Int) := by
  have hf := fixE_eq
  have hpos : 0 < oneV := Nat.two_pow_pos _
  obtain ⟨hg, hgv⟩ := ofInt_val n h0 h1
  obtain ⟨s, m, i, ep, hi, hm⟩ := hp
  obtain ⟨t, k, j, eg, hj, hk⟩ := hg
  have hvp : fval p = signed s m (i + 1074).toNat := by unfold fval; rw [ep]; rfl
  have hvg : fval (floatOfInt .f64 n) = signed t k (j + 1074).toNat := by unfold fval; rw [eg]; rfl
  obtain ⟨base, hbase⟩ : ∃ base : Int, base = min i j := ⟨_, rfl⟩
  obtain ⟨total, ht⟩ : ∃ total : Int, total = signed s m (i - base).toNat + signed (!t) k (j - base).toNat := ⟨_, rfl⟩
  obtain ⟨sg, hsg⟩ : ∃ sg : Bool, sg = (if total = 0 then s && !t else decide (total < 0)) := ⟨_, rfl⟩
  have hsub : floatBits .sub .f64 p (floatOfInt .f64 n) = some (f64.write (.number sg total.natAbs base)) := by
    show f64.sub p (floatOfInt .f64 n) = _
    unfold Format.sub
    rw [ep, eg, hsg, ht, hbase]
    rfl
  -- the sum's value
  have hscale : total * ((2 ^ (base + 1074).toNat : Nat) : Int) = fval p - n * (oneV : Int) := by
    rw [← hgv, hvp, hvg, ht, signed_not, Int.add_mul, Int.neg_mul, ← signed_shift, ← signed_shift]
    rw [show (i - base).toNat + (base + 1074).toNat = (i + 1074).toNat by omega, show (j - base).toNat + (base + 1074).toNat = (j + 1074).toNat by omega]
    omega
  -- the amount left over
  obtain ⟨hva, hvs⟩ := val_amount s m (i + 1074).toNat
  rw [← hvp] at hva hvs
  have hleft : (fval p - n * (oneV : Int)).natAbs = (fval p).natAbs % oneV := by
    rw [hn]
    generalize fval p = v
    have e : v - v.tdiv (oneV : Int) * (oneV : Int) = v.tmod (oneV : Int) := by
      have := Int.mul_tdiv_add_tmod v (oneV : Int)
      rw [Int.mul_comm] at this
      omega
    rw [e]
    exact Int.natAbs_tmod v (oneV : Int)
  have hT : total.natAbs * 2 ^ (base + 1074).toNat = (m * 2 ^ (i + 1074).toNat) % oneV := by
    rw [← hva, ← hleft, ← hscale, Int.natAbs_mul]; rfl
  have hq : ∃ q t' : Nat, total.natAbs = q * 2 ^ t' ∧ q < 9007199254740992 ∧ (t' : Int) + base ≤ 900 := by
    have hpb : 0 < 2 ^ (base + 1074).toNat := Nat.two_pow_pos _
    by_cases hi0 : 0 ≤ i
    · refine ⟨0, 0, ?_, by omega, ?_⟩
      · have e : m * 2 ^ (i + 1074).toNat = (m * 2 ^ i.toNat) * oneV := by
          unfold oneV; rw [Nat.mul_assoc, ← Nat.pow_add]; congr 2; omega
        rw [e, Nat.mul_mod_left] at hT
        rcases Nat.mul_eq_zero.1 hT with h | h
        · rw [h]
        · omega
      · -- a number of that amount has no great exponent
        have hj2 : base ≤ i := by omega
        rcases Nat.eq_zero_or_pos m with hm0 | hm0
        · -- a zero reads at the least place
          have hx : i = -1074 := by
            have ep' := ep
            rw [hm0] at ep'
            unfold Format.read at ep'
            simp only [lp64, bin64, inf64, sgn64] at ep'
            split at ep'
            · injection ep' with _ _ h3; omega
            · split at ep'
              · injection ep' with _ h2 _; omega
              · split at ep' <;> cases ep'
          omega
        · have hle : 2 ^ i.toNat * oneV ≤ (fval p).natAbs := by
            rw [hva, show (i + 1074).toNat = i.toNat + fixE by omega, Nat.pow_add]
            exact Nat.le_mul_of_pos_left _ hm0
          have hlt : 2 ^ i.toNat * oneV < 2 ^ 32 * oneV := by
            have e32 : (2 : Nat) ^ 32 = 4294967296 := rfl
            rw [e32]
            exact Nat.lt_of_le_of_lt hle (Nat.lt_of_lt_of_le hb (Nat.mul_le_mul_right _ (by omega)))
          have := Nat.lt_of_mul_lt_mul_right hlt
          have h32 := (Nat.pow_lt_pow_iff_right (by omega : 1 < 2)).1 this
          omega
    · refine ⟨m % 2 ^ (-i).toNat, (i - base).toNat, ?_, Nat.lt_of_le_of_lt (Nat.mod_le _ _) hm, by omega⟩
      have e : oneV = 2 ^ (-i).toNat * 2 ^ (i + 1074).toNat := by unfold oneV; rw [← Nat.pow_add]; congr 1; omega
      rw [e, Nat.mul_mod_mul_right] at hT
      rw [show (i + 1074).toNat = (i - base).toNat + (base + 1074).toNat by omega, Nat.pow_add, ← Nat.mul_assoc] at hT
      exact Nat.eq_of_mul_eq_mul_right hpb hT
  obtain ⟨q, t', hq1, hq2, hq3⟩ := hq
  obtain ⟨w1, w2⟩ := write_exact sg total.natAbs base q t' hq1 hq2 (by omega) hq3
  refine ⟨_, hsub, w1, ?_⟩
  rw [w2, ← hscale, signed_eq]
  by_cases ht0 : total = 0
  · rw [ht0]; simp
  · rw [if_neg ht0] at hsg
    rw [hsg]
    by_cases hneg : total < 0
    · rw [if_pos (by simpa using hneg)]
      push_cast
      rw [show ((total.natAbs : Nat) : Int) = -total by omega, Int.neg_mul, Int.neg_neg]
    · rw [if_neg (by simpa using hneg)]
      push_cast
      rw [show ((total.natAbs : Nat) : Int) = total by omega]
end Go.Proofs.Ytibkhmdnfloemaa
namespace Go.Proofs.Ytibkhmdnfloemaa
open Go.RowKit Ieee

theorem num_of_expo {x : Nat} (hx : x < 18446744073709551616) (hE : expo x < 2047) : isNum x := by
  obtain ⟨S, P, hr, _⟩ := num_form x hx hE
  exact isNum_of hr
theorem expo_le (x : Nat) : expo x ≤ 2047 := by unfold expo; omega
/-- A word whose exponent field is full: an infinity or no number. -/
theorem read_full {x : Nat} (hx : x < 18446744073709551616) (hE : expo x = 2047) : f64.read x = .infinity (sneg x) ∨ ∃ b, f64.read x = .nan (sneg x) b := by
  have he := expo_rung x hx
  have e := fl_read_word f64 (sneg x) (rung x) (by rw [sgn64]; unfold rung; omega)
  rw [word_self x hx, bin64, inf64, if_neg (by omega), if_neg (by omega)] at e
  split at e
  · exact .inl e
  · exact .inr ⟨_, e⟩
theorem order_nan {x : Nat} {a : Bool} {b : Nat} (h : f64.read x = .nan a b) (y : Nat) : f64.order x y = none := by
  unfold Format.order; rw [h]; cases f64.read y <;> rfl
theorem order_inf {x : Nat} {a : Bool} (h : f64.read x = .infinity a) {y : Nat} (hy : isNum y) : f64.order x y = some (if a then .lt else .gt) := by
  obtain ⟨s, m, i, e, _⟩ := hy
  unfold Format.order; rw [h, e]; cases a <;> rfl
theorem abs_rung (x : Nat) : f64.word false (x % 9223372036854775808) = x % 9223372036854775808 := by
  unfold Format.word; simp
theorem abs_num {x : Nat} (hx : x < 18446744073709551616) (h : isNum x) : isNum (x % 9223372036854775808) ∧ fval (x % 9223372036854775808) = ((fval x).natAbs : Int) := by
  have hE := expo_of_num hx h
  obtain ⟨S, P, hr, hS, hc⟩ := num_form x hx hE
  have hr' : f64.read (x % 9223372036854775808) = .number false S (-1074 + (P : Int)) := by
    rw [← abs_rung x]
    rcases hc with ⟨_, h1, h2⟩ | ⟨h1, h2, h3⟩
    · have hl : rung x < 4503599627370496 := by have := expo_rung x hx; omega
      have := read_low false (rung x) hl
      rw [h1, h2]; exact this
    · have := read_rung false P S h2 hS (by omega)
      rw [← h3] at this
      exact this
  refine ⟨isNum_of hr', ?_⟩
  unfold fval
  rw [hr, hr']
  show signed false S _ = ((signed (sneg x) S _).natAbs : Int)
  rw [(val_amount (sneg x) S _).1, signed_eq]
  rfl
theorem abs_full {x : Nat} (hE : expo x = 2047) : f64.read (x % 9223372036854775808) = .infinity false ∨ ∃ b, f64.read (x % 9223372036854775808) = .nan false b := by
  have h := read_full (x := x % 9223372036854775808) (by omega) (by unfold expo at *; omega)
  have hs : sneg (x % 9223372036854775808) = false := by unfold sneg; rw [show x % 9223372036854775808 / 9223372036854775808 = 0 by omega]; rfl
  rw [hs] at h
  exact h
theorem rndW_full {x : Nat} (hE : expo x = 2047) : rndW x = x := by
  unfold rndW; rw [if_neg (by omega), if_neg (by omega), if_neg (by omega)]

theorem c9_isNum : isNum 4741671816366391296 := isNum_of c9_num
theorem c95_isNum : isNum 4741671816370585600 := isNum_of c95_num
theorem c95n_isNum : isNum 13965043853225361408 := isNum_of c95n_num
theorem ch_isNum : isNum 4602678819172646912 := isNum_of ch_num
theorem chn_isNum : isNum 13826050856027422720 := isNum_of chn_num

/-- A number that converts: cut towards zero. -/
theorem conv_val {p : Nat} (hp : isNum p) (n : Int) (hn : (fval p).tdiv (oneV : Int) = n) (h0 : -1000000001 ≤ n) (h1 : n ≤ 1000000001) : floatToIntVal .f64 p .i64 = some n := by
  unfold floatToIntVal
  have e : (FloatKind.f64.decode p).toInt .zero = some n := by
    have := toInt_val hp
    rw [hn] at this
    exact this
  rw [e]
  show (if IntKind.i64.min ≤ n ∧ n ≤ IntKind.i64.max then some n else none) = some n
  have e1 : IntKind.i64.min = -9223372036854775808 := by kernel_rfl
  have e2 : IntKind.i64.max = 9223372036854775807 := by kernel_rfl
  rw [e1, e2, if_pos (by omega)]

theorem rndN_range (a : Nat) : rndN a ≤ 1000000000 ↔ a < 2000000001 * halfV := by
  have hp : 0 < oneV := Nat.two_pow_pos _
  have h2 := oneV_eq
  unfold rndN
  constructor
  · intro h
    have := (Nat.div_lt_iff_lt_mul hp).1 (Nat.lt_succ_of_le h)
    have e : (Nat.succ 1000000000) * oneV = 2000000002 * halfV := by rw [h2]; omega
    rw [e] at this
    omega
  · intro h
    apply Nat.le_of_lt_succ
    apply (Nat.div_lt_iff_lt_mul hp).2
    have e : (Nat.succ 1000000000) * oneV = 2000000002 * halfV := by rw [h2]; omega
    rw [e]
    omega
theorem rndI_abs (v : Int) : (rndI v).natAbs = rndN v.natAbs := by
  unfold rndI; split
  · rw [Int.natAbs_neg]; rfl
  · rfl

/-- The sums of the two ways of rounding: what is in range, how great it is, which side of one half the rest is. -/
theorem round_ways (v n f : Int) (hb : v.natAbs < 2000000001 * halfV) (en : n = v.tdiv (oneV : Int)) (ef : f = v - n * (oneV : Int)) :
    -1000000000 ≤ n ∧ n ≤ 1000000000 ∧ -1000000000 ≤ rndI v ∧ rndI v ≤ 1000000000 ∧
    (((halfV : Int) ≤ f ∧ rndI v = n + 1) ∨ (f ≤ -(halfV : Int) ∧ rndI v = n - 1) ∨ (f < (halfV : Int) ∧ -(halfV : Int) < f ∧ rndI v = n)) := by
  have hp : 0 < oneV := Nat.two_pow_pos _
  have hh := halfV_pos
  have h2 := oneV_eq
  have hr := (rndN_range v.natAbs).2 hb
  have hq : v.natAbs / oneV ≤ 1000000000 := by
    have := rndN_eq v.natAbs
    omega
  have he := rndN_eq v.natAbs
  have hm := Nat.mod_lt v.natAbs hp
  have hdm := Nat.div_add_mod v.natAbs oneV
  obtain ⟨q, hq'⟩ : ∃ q, v.natAbs / oneV = q := ⟨_, rfl⟩
  obtain ⟨r, hr'⟩ : ∃ r, v.natAbs % oneV = r := ⟨_, rfl⟩
  rw [hq', hr'] at he hdm
  rw [hr'] at hm
  rw [hq'] at hq
  by_cases hv : 0 ≤ v
  · have hn : n = (q : Int) := by
      rw [en, Int.tdiv_eq_ediv_of_nonneg hv, ← hq']
      conv => lhs; rw [show v = (v.natAbs : Int) by omega]
      exact (Int.natCast_ediv _ _).symm
    have hf : f = (r : Int) := by
      rw [ef, hn]
      have e : ((oneV * q + r : Nat) : Int) = (v.natAbs : Int) := by rw [hdm]
      rw [Int.natCast_add, Int.natCast_mul, Int.mul_comm] at e
      omega
    have hI : rndI v = (rndN v.natAbs : Int) := by unfold rndI; rw [if_neg (by omega)]
    rw [hn, hf, hI]
    split at he <;> omega
  · have hn : n = -(q : Int) := by
      rw [en, show v = -(v.natAbs : Int) by omega, Int.neg_tdiv, Int.tdiv_eq_ediv_of_nonneg (by omega), ← hq']
      rw [show (v.natAbs : Int) / (oneV : Int) = ((v.natAbs / oneV : Nat) : Int) from (Int.natCast_ediv _ _).symm]
    have hf : f = -(r : Int) := by
      rw [ef, hn]
      have e : ((oneV * q + r : Nat) : Int) = (v.natAbs : Int) := by rw [hdm]
      rw [Int.natCast_add, Int.natCast_mul, Int.mul_comm] at e
      rw [Int.neg_mul]
      omega
    have hI : rndI v = -(rndN v.natAbs : Int) := by unfold rndI; rw [if_pos (by omega)]
    rw [hn, hf, hI]
    split at he <;> omega
end Go.Proofs.Ytibkhmdnfloemaa
namespace Go.Proofs.Ytibkhmdnfloemaa
open Go.RowKit Ieee

/-- A number cut to even is within one half. -/
theorem cut_near (neg : Bool) (n d : Nat) :
    2 * (Toward.even.cut neg n d * 2 ^ d) ≤ 2 * n + 2 ^ d ∧ 2 * n ≤ 2 * (Toward.even.cut neg n d * 2 ^ d) + 2 ^ d ∧ n / 2 ^ d ≤ Toward.even.cut neg n d ∧ Toward.even.cut neg n d ≤ n / 2 ^ d + 1 := by
  unfold Toward.cut
  simp only [Nat.shiftLeft_eq, Nat.one_mul]
  have hpd : 0 < 2 ^ d := Nat.two_pow_pos _
  rcases Nat.le_total d (n.log2 + 2) with h | h
  · rw [Nat.min_eq_left h]
    have hdm := Nat.div_add_mod n (2 ^ d)
    have hm := Nat.mod_lt n hpd
    rw [Nat.mul_comm] at hdm
    generalize n / 2 ^ d = q at *
    generalize n % 2 ^ d = r at *
    generalize 2 ^ d = g at *
    cases hb : (decide (g < 2 * r) || (g == 2 * r && q % 2 == 1))
    · simp only [Bool.or_eq_false_iff, decide_eq_false_iff_not] at hb
      simp only [Bool.toNat_false, Nat.add_zero]
      have := hb.1
      omega
    · have h2 : g ≤ 2 * r := by
        simp only [Bool.or_eq_true, decide_eq_true_eq, Bool.and_eq_true, beq_iff_eq] at hb
        omega
      simp only [Bool.toNat_true, Nat.add_mul, Nat.one_mul]
      omega
  · rw [Nat.min_eq_right h]
    have h1 : n < 2 ^ (n.log2 + 1) := Nat.lt_log2_self
    have e1 : 2 ^ (n.log2 + 2) = 2 * 2 ^ (n.log2 + 1) := by rw [show n.log2 + 2 = (n.log2 + 1) + 1 by omega, Nat.pow_succ, Nat.mul_comm]
    have h3 : 2 ^ (n.log2 + 2) ≤ 2 ^ d := Nat.pow_le_pow_right (by omega) h
    rw [Nat.div_eq_of_lt (by omega), Nat.mod_eq_of_lt (by omega), Nat.div_eq_of_lt (show n < 2 ^ d by omega)]
    generalize 2 ^ (n.log2 + 2) = g at *
    generalize 2 ^ d = g2 at *
    have hb : (decide (g < 2 * n) || (g == 2 * n && 0 % 2 == 1)) = false := by simp; omega
    rw [hb]
    simp only [Bool.toNat_false, Nat.add_zero, Nat.zero_mul]
    omega

theorem read_carry (neg : Bool) (k : Nat) (hk : k ≤ 2044) : f64.read (f64.word neg (k * 4503599627370496 + 9007199254740992)) = .number neg 4503599627370496 (-1074 + ((k + 1 : Nat) : Int)) := by
  rw [show k * 4503599627370496 + 9007199254740992 = (k + 1) * 4503599627370496 + 4503599627370496 by omega]
  exact read_rung neg (k + 1) 4503599627370496 (by omega) (by omega) (by omega)

set_option maxHeartbeats 1000000 in
/-- A number below 2 to the (K - 1074) is written to within 2 to the (K - 54 - 1074). -/
theorem write_near (neg : Bool) (mag : Nat) (place : Int) (K : Nat) (hp : -1074 ≤ place) (hK0 : 54 ≤ K) (hK1 : K ≤ 1900) (hA : mag * 2 ^ (place + 1074).toNat < 2 ^ K) (E : Nat) (hE : E = 2 ^ (K - 54)) :
    isNum (f64.write (.number neg mag place)) ∧ ∃ B : Nat, fval (f64.write (.number neg mag place)) = (if neg then -(B : Int) else (B : Int)) ∧
      B ≤ mag * 2 ^ (place + 1074).toNat + E ∧ mag * 2 ^ (place + 1074).toNat ≤ B + E := by
  show isNum (f64.nearest neg mag place) ∧ ∃ B : Nat, fval (f64.nearest neg mag place) = _ ∧ _
  by_cases h0 : mag = 0
  · have e : f64.nearest neg mag place = f64.word neg 0 := by unfold Format.nearest; rw [if_pos h0]
    rw [e]
    have r := read_low neg 0 (by omega)
    refine ⟨isNum_of r, 0, ?_, by omega, by rw [h0]; omega⟩
    unfold fval
    rw [r]
    show signed neg 0 _ = _
    rw [fl_signed_zero]
    cases neg <;> rfl
  · obtain ⟨last, hlast⟩ : ∃ last : Int, last = max (place + mag.log2 - 52) (-1074) := ⟨_, rfl⟩
    have e : f64.nearest neg mag place = f64.word neg (min ((last - -1074).toNat * 4503599627370496 + Toward.even.cut neg (mag <<< (place - last).toNat) (last - place).toNat) 9218868437227405312) := by
      unfold Format.nearest
      rw [if_neg h0]
      simp only [lp64, bin64, inf64]
      rw [hlast]; rfl
    have hlow : 2 ^ mag.log2 ≤ mag := Nat.log2_self_le h0
    have hhigh : mag < 2 ^ (mag.log2 + 1) := Nat.lt_log2_self
    have hlK : mag.log2 + (place + 1074).toNat < K := by
      have h1 : 2 ^ mag.log2 * 2 ^ (place + 1074).toNat ≤ mag * 2 ^ (place + 1074).toNat := Nat.mul_le_mul_right _ hlow
      rw [← Nat.pow_add] at h1
      exact (Nat.pow_lt_pow_iff_right (by omega : 1 < 2)).1 (Nat.lt_of_le_of_lt h1 hA)
    obtain ⟨kept, hkept⟩ : ∃ kept, kept = Toward.even.cut neg (mag <<< (place - last).toNat) (last - place).toNat := ⟨_, rfl⟩
    rw [← hkept] at e
    rw [Nat.shiftLeft_eq] at hkept
    obtain ⟨c1, c2, c3, c4⟩ := cut_near neg (mag * 2 ^ (place - last).toNat) (last - place).toNat
    rw [← hkept] at c1 c2 c3 c4
    -- the value kept is near
    have hnear : kept * 2 ^ (last + 1074).toNat ≤ mag * 2 ^ (place + 1074).toNat + E ∧ mag * 2 ^ (place + 1074).toNat ≤ kept * 2 ^ (last + 1074).toNat + E := by
      rcases Int.le_total last place with h | h
      · have hk : kept = mag * 2 ^ (place - last).toNat := by
          rw [show (last - place).toNat = 0 by omega, Nat.pow_zero] at c1 c2
          omega
        have : kept * 2 ^ (last + 1074).toNat = mag * 2 ^ (place + 1074).toNat := by
          rw [hk, Nat.mul_assoc, ← Nat.pow_add]; congr 2; omega
        rw [this]; omega
      · rw [show (place - last).toNat = 0 by omega, Nat.pow_zero, Nat.mul_one] at c1 c2
        have e2 : (last + 1074).toNat = (last - place).toNat + (place + 1074).toNat := by omega
        have s1 := Nat.mul_le_mul_right (2 ^ (place + 1074).toNat) c1
        have s2 := Nat.mul_le_mul_right (2 ^ (place + 1074).toNat) c2
        have e3 : kept * 2 ^ (last + 1074).toNat = kept * 2 ^ (last - place).toNat * 2 ^ (place + 1074).toNat := by rw [e2, Nat.pow_add, ← Nat.mul_assoc]
        have e4 : 2 ^ (last - place).toNat * 2 ^ (place + 1074).toNat = 2 ^ (last + 1074).toNat := by rw [e2, Nat.pow_add]
        simp only [Nat.add_mul, Nat.mul_assoc] at s1 s2
        rw [← Nat.mul_assoc kept, ← e3, e4] at s1 s2
        rcases Nat.eq_zero_or_pos (last + 1074).toNat with hz | hz
        · have hd : (last - place).toNat = 0 := by omega
          rw [hd, Nat.pow_zero] at c1 c2
          have hk : kept = mag := by omega
          have hp0 : (place + 1074).toNat = 0 := by omega
          rw [hz, hp0, hk]; omega
        · have e5 : 2 ^ (last + 1074).toNat = 2 * 2 ^ ((last + 1074).toNat - 1) := by
            rw [show (last + 1074).toNat = ((last + 1074).toNat - 1) + 1 by omega, Nat.pow_succ, Nat.mul_comm]; rfl
          have e6 : 2 ^ ((last + 1074).toNat - 1) ≤ E := by rw [hE]; exact Nat.pow_le_pow_right (by omega) (by omega)
          clear hE hkept c1 c2 c3 c4 e hlow hhigh hA hlast e2 e3 e4
          generalize kept * 2 ^ (last + 1074).toNat = X at *
          generalize mag * 2 ^ (place + 1074).toNat = Y at *
          rw [e5] at s1 s2
          generalize 2 ^ ((last + 1074).toNat - 1) = Z at *
          omega
    have hk1 : kept ≤ 9007199254740992 := by
      have hq : mag * 2 ^ (place - last).toNat / 2 ^ (last - place).toNat < 9007199254740992 := by
        rw [Nat.div_lt_iff_lt_mul (Nat.two_pow_pos _)]
        have e53 : (9007199254740992 : Nat) = 2 ^ 53 := rfl
        rw [e53, ← Nat.pow_add]
        have h1 : mag * 2 ^ (place - last).toNat < 2 ^ (mag.log2 + 1) * 2 ^ (place - last).toNat := Nat.mul_lt_mul_of_pos_right hhigh (Nat.two_pow_pos _)
        rw [← Nat.pow_add] at h1
        exact Nat.lt_of_lt_of_le h1 (Nat.pow_le_pow_right (by omega) (by omega))
      omega
    have hk0 : last ≠ -1074 → 4503599627370496 ≤ kept := fun hne => by
      refine Nat.le_trans ?_ c3
      rw [Nat.le_div_iff_mul_le (Nat.two_pow_pos _)]
      have e52 : (4503599627370496 : Nat) = 2 ^ 52 := rfl
      rw [e52, ← Nat.pow_add]
      have h1 : 2 ^ mag.log2 * 2 ^ (place - last).toNat ≤ mag * 2 ^ (place - last).toNat := Nat.mul_le_mul_right _ hlow
      rw [← Nat.pow_add] at h1
      exact Nat.le_trans (Nat.pow_le_pow_right (by omega) (by omega)) h1
    have hlu : last ≤ 900 := by omega
    have hll : -1074 ≤ last := by omega
    have hmin : min ((last - -1074).toNat * 4503599627370496 + kept) 9218868437227405312 = (last - -1074).toNat * 4503599627370496 + kept := Nat.min_eq_left (by omega)
    rw [hmin] at e
    have fin : ∀ (y q : Nat) (l : Int), f64.read y = .number neg q l → q * 2 ^ (l + 1074).toNat = kept * 2 ^ (last + 1074).toNat → isNum y ∧ ∃ B : Nat, fval y = (if neg then -(B : Int) else (B : Int)) ∧ B ≤ mag * 2 ^ (place + 1074).toNat + E ∧ mag * 2 ^ (place + 1074).toNat ≤ B + E := fun y q l r hv => by
      refine ⟨isNum_of r, kept * 2 ^ (last + 1074).toNat, ?_, hnear.1, hnear.2⟩
      unfold fval
      rw [r]
      show signed neg q (l + 1074).toNat = _
      rw [signed_eq, hv]
    rw [e]
    by_cases hc : kept = 9007199254740992
    · have r := read_carry neg (last - -1074).toNat (by omega)
      rw [hc]
      refine fin _ _ _ r ?_
      rw [hc, show (-1074 + (((last - -1074).toNat + 1 : Nat) : Int) + 1074).toNat = (last + 1074).toNat + 1 by omega, Nat.pow_succ, Nat.mul_comm (2 ^ _) 2, ← Nat.mul_assoc]
    · exact fin _ _ _ (read_kept neg kept last hll hlu (Nat.lt_of_le_of_ne hk1 hc) hk0) rfl
end Go.Proofs.Ytibkhmdnfloemaa
namespace Go.Proofs.Ytibkhmdnfloemaa
open Go.RowKit Ieee


theorem nan_cut (x y t u : Nat) (hu : (Question.nanBits .f64 x y).cut t = u) :
    u < 18446744073709551616 ∧ expo u = 2047 ∧ (∀ z, FloatKind.f64.format.order u z = none) ∧ ∀ z, FloatKind.f64.format.order (u % 9223372036854775808) z = none := by
  simp only [Question.cut, Nat.reducePow, Nat.reduceSub] at hu
  have hs : t % 2 = 0 ∨ t % 2 = 1 := by omega
  have hd : t / 2 % 4503599627370495 < 4503599627370495 := Nat.mod_lt _ (by omega)
  generalize t / 2 % 4503599627370495 = d at *
  generalize t % 2 = sg at *
  have hf : ∃ z, (z = 0 ∨ z = 1) ∧ u = z * 9223372036854775808 + (9218868437227405312 + (1 + d)) := ⟨sg, hs, by omega⟩
  clear hu hs
  obtain ⟨z, hz, hu⟩ := hf
  have h1 : u < 18446744073709551616 := by omega
  have h2 : expo u = 2047 := by unfold expo; rcases hz with rfl | rfl <;> omega
  have hr : 9218868437227405312 < rung u := by unfold rung; rcases hz with rfl | rfl <;> omega
  have hl : rung u < f64.signWeight := by rw [sgn64]; unfold rung; omega
  refine ⟨h1, h2, fun z => ?_, fun z => ?_⟩
  · have e := fl_read_word f64 (sneg u) (rung u) hl
    rw [word_self u h1, bin64, inf64, if_neg (by omega), if_neg (by omega), if_neg (by omega)] at e
    exact order_nan e z
  · have e := fl_read_word f64 false (rung u) hl
    rw [show f64.word false (rung u) = rung u from abs_rung u, bin64, inf64, if_neg (by omega), if_neg (by omega), if_neg (by omega)] at e
    exact order_nan e z

/-- An operation without a value: a word drawn that is no number. -/
theorem run_nan (op : BinOp) (hop : op = .add ∨ op = .sub ∨ op = .mul ∨ op = .quo) (x y : Nat) (h : floatBits op .f64 x y = none) :
    ∃ nb : World → Nat, (∀ w, (binOp op 53 (.float .f64 x) (.float .f64 y)).run Try.prog w = .ok (.float .f64 (nb w)) w.drew) ∧ ∀ w, nb w < 18446744073709551616 ∧ expo (nb w) = 2047 ∧ (∀ z, FloatKind.f64.format.order (nb w) z = none) ∧ ∀ z, FloatKind.f64.format.order (nb w % 9223372036854775808) z = none := by
  refine ⟨fun w => (Question.nanBits .f64 x y).cut (w.tape w.drawn (.nanBits .f64 x y)), ?_, fun w => nan_cut x y _ _ rfl⟩
  intro w
  unfold floatBits at h
  rcases hop with rfl | rfl | rfl | rfl <;> simp only at h <;> simp [binOp, Op.floatArith, h, Question.forced]

theorem mul_lt {x y p : Nat} (h : floatBits .mul .f64 x y = some p) : p < 18446744073709551616 := FloatKind.f64.format.mul_lt h



end Go.Proofs.Ytibkhmdnfloemaa
namespace Go.Proofs.Ytibkhmdnfloemaa
open Go.RowKit Ieee

/-- R is what N / D is rounded to: on the same side of every number of 53 digits, and of every middle between two of them. -/
def Near (R N D : Nat) : Prop :=
  ∀ q k : Nat, q ≤ 9007199254740992 → (q * 2 ^ k * D ≤ N → q * 2 ^ k ≤ R) ∧ (N ≤ q * 2 ^ k * D → R ≤ q * 2 ^ k) ∧
    (4503599627370496 ≤ q → q < 9007199254740992 → 2 * N < (2 * q + 1) * 2 ^ k * D → R ≤ q * 2 ^ k)

theorem cut_sides (neg : Bool) (n d G : Nat) : (n ≤ G * 2 ^ d → Toward.even.cut neg n d ≤ G) ∧ (G * 2 ^ d ≤ n → G ≤ Toward.even.cut neg n d) ∧ (2 * n < (2 * G + 1) * 2 ^ d → Toward.even.cut neg n d ≤ G) := by
  obtain ⟨c1, c2, c3, c4⟩ := cut_near neg n d
  have hp : 0 < 2 ^ d := Nat.two_pow_pos _
  refine ⟨fun h => ?_, fun h => Nat.le_trans ((Nat.le_div_iff_mul_le hp).2 h) c3, fun h => ?_⟩
  · rcases Nat.lt_or_ge (n / 2 ^ d) G with h1 | h1
    · omega
    · have h2 : G * 2 ^ d ≤ n := (Nat.le_div_iff_mul_le hp).1 h1
      have h3 : n = G * 2 ^ d := Nat.le_antisymm h h2
      rw [h3, cut_exact]
      exact Nat.le_refl _
  · generalize Toward.even.cut neg n d = K at *
    rcases Nat.lt_or_ge G K with h1 | h1
    · have h2 : (G + 1) * 2 ^ d ≤ K * 2 ^ d := Nat.mul_le_mul_right _ h1
      rw [Nat.add_mul, Nat.one_mul] at h2
      rw [Nat.add_mul, Nat.one_mul, Nat.mul_assoc] at h
      generalize 2 ^ d = g at *
      generalize K * g = a at *
      generalize G * g = b at *
      omega
    · exact h1

/-- A kept significand at its place, read. -/
theorem kept_word (neg : Bool) (kept : Nat) (last : Int) (hll : -1074 ≤ last) (hlu : last ≤ 900) (hk1 : kept ≤ 9007199254740992) (hk0 : last ≠ -1074 → 4503599627370496 ≤ kept) :
    ∃ p l, f64.read (f64.word neg (min ((last - -1074).toNat * 4503599627370496 + kept) 9218868437227405312)) = .number neg p l ∧ p * 2 ^ (l + 1074).toNat = kept * 2 ^ (last + 1074).toNat := by
  have hmin : min ((last - -1074).toNat * 4503599627370496 + kept) 9218868437227405312 = (last - -1074).toNat * 4503599627370496 + kept := Nat.min_eq_left (by omega)
  rw [hmin]
  by_cases hc : kept = 9007199254740992
  · have r := read_carry neg (last - -1074).toNat (by omega)
    refine ⟨_, _, by rw [hc]; exact r, ?_⟩
    rw [hc, show (-1074 + (((last - -1074).toNat + 1 : Nat) : Int) + 1074).toNat = (last + 1074).toNat + 1 by omega, Nat.pow_succ, Nat.mul_comm (2 ^ _) 2, ← Nat.mul_assoc]
  · exact ⟨_, _, read_kept neg kept last hll (by omega) (Nat.lt_of_le_of_ne hk1 hc) hk0, rfl⟩

set_option maxHeartbeats 1000000 in
theorem near_core (neg : Bool) (mag : Nat) (place : Int) (V P : Nat) (hP : place + 1074 + (V : Int) = (P : Int)) (hb : mag * 2 ^ P < 2 ^ (1900 + V)) :
    isNum (f64.nearest neg mag place) ∧ ∃ R : Nat, fval (f64.nearest neg mag place) = (if neg then -(R : Int) else (R : Int)) ∧ Near R (mag * 2 ^ P) (2 ^ V) := by
  by_cases h0 : mag = 0
  · have e : f64.nearest neg mag place = f64.word neg 0 := by unfold Format.nearest; rw [if_pos h0]
    rw [e]
    have r := read_low neg 0 (by omega)
    refine ⟨isNum_of r, 0, ?_, ?_⟩
    · unfold fval
      rw [r]
      show signed neg 0 _ = _
      rw [fl_signed_zero]
      cases neg <;> rfl
    · intro q k hq
      rw [h0, Nat.zero_mul]
      refine ⟨fun h => ?_, fun _ => Nat.zero_le _, fun _ _ _ => Nat.zero_le _⟩
      have h1 := Nat.le_zero.1 h
      rcases Nat.mul_eq_zero.1 h1 with h2 | h2
      · omega
      · exact absurd h2 (Nat.pos_iff_ne_zero.1 (Nat.two_pow_pos _))
  · obtain ⟨last, hlast⟩ : ∃ last : Int, last = max (place + mag.log2 - 52) (-1074) := ⟨_, rfl⟩
    have e : f64.nearest neg mag place = f64.word neg (min ((last - -1074).toNat * 4503599627370496 + Toward.even.cut neg (mag <<< (place - last).toNat) (last - place).toNat) 9218868437227405312) := by
      unfold Format.nearest
      rw [if_neg h0]
      simp only [lp64, bin64, inf64]
      rw [hlast]; rfl
    have hlow : 2 ^ mag.log2 ≤ mag := Nat.log2_self_le h0
    have hhigh : mag < 2 ^ (mag.log2 + 1) := Nat.lt_log2_self
    have hlK : mag.log2 + P < 1900 + V := by
      have h1 : 2 ^ mag.log2 * 2 ^ P ≤ mag * 2 ^ P := Nat.mul_le_mul_right _ hlow
      rw [← Nat.pow_add] at h1
      exact (Nat.pow_lt_pow_iff_right (by omega : 1 < 2)).1 (Nat.lt_of_le_of_lt h1 hb)
    clear hb
    obtain ⟨kept, hkept⟩ : ∃ kept, kept = Toward.even.cut neg (mag <<< (place - last).toNat) (last - place).toNat := ⟨_, rfl⟩
    rw [← hkept] at e
    rw [Nat.shiftLeft_eq] at hkept
    obtain ⟨a, ha⟩ : ∃ a, a = (place - last).toNat := ⟨_, rfl⟩
    obtain ⟨b, hb'⟩ : ∃ b, b = (last - place).toNat := ⟨_, rfl⟩
    obtain ⟨L, hL⟩ : ∃ L, L = (last + 1074).toNat := ⟨_, rfl⟩
    rw [← ha, ← hb'] at hkept
    have hPb : P + b = (L + V) + a := by omega
    have hsides := fun G => cut_sides neg (mag * 2 ^ a) b G
    rw [← hkept] at hsides
    have c3 := (cut_near neg (mag * 2 ^ a) b).2.2.1
    have c4 := (cut_near neg (mag * 2 ^ a) b).2.2.2
    rw [← hkept] at c3 c4
    -- the sides, in terms of the exact value
    have hpb : 0 < 2 ^ b := Nat.two_pow_pos _
    have hpl : 0 < 2 ^ (L + V) := Nat.two_pow_pos _
    have hA : mag * 2 ^ a * 2 ^ (L + V) = mag * 2 ^ P * 2 ^ b := by
      rw [Nat.mul_assoc, Nat.mul_assoc, ← Nat.pow_add, ← Nat.pow_add, hPb, Nat.add_comm a]
    obtain ⟨A, hAe⟩ : ∃ A, A = mag * 2 ^ P := ⟨_, rfl⟩
    rw [← hAe] at hA
    have X : ∀ G, (A ≤ G * 2 ^ (L + V) → kept ≤ G) ∧ (G * 2 ^ (L + V) ≤ A → G ≤ kept) ∧ (2 * A < (2 * G + 1) * 2 ^ (L + V) → kept ≤ G) := fun G => by
      obtain ⟨s1, s2, s3⟩ := hsides G
      refine ⟨fun h => s1 ?_, fun h => s2 ?_, fun h => s3 ?_⟩
      · refine Nat.le_of_mul_le_mul_right ?_ hpl
        rw [hA]
        have := Nat.mul_le_mul_right (2 ^ b) h
        rw [Nat.mul_right_comm] at this
        exact this
      · refine Nat.le_of_mul_le_mul_right ?_ hpl
        rw [hA, Nat.mul_right_comm]
        exact Nat.mul_le_mul_right (2 ^ b) h
      · refine Nat.lt_of_mul_lt_mul_right (a := 2 ^ (L + V)) ?_
        rw [Nat.mul_assoc, hA, Nat.mul_right_comm, ← Nat.mul_assoc]
        exact Nat.mul_lt_mul_of_pos_right h hpb
    have hup : A < 2 ^ 53 * 2 ^ (L + V) := by
      rw [hAe]
      have h1 : mag * 2 ^ P < 2 ^ (mag.log2 + 1) * 2 ^ P := Nat.mul_lt_mul_of_pos_right hhigh (Nat.two_pow_pos _)
      refine Nat.lt_of_lt_of_le h1 ?_
      rw [← Nat.pow_add, ← Nat.pow_add]
      exact Nat.pow_le_pow_right (by omega) (by omega)
    have hdn : L ≠ 0 → 2 ^ 52 * 2 ^ (L + V) ≤ A := fun hne => by
      rw [hAe]
      refine Nat.le_trans ?_ (Nat.mul_le_mul_right _ hlow)
      rw [← Nat.pow_add, ← Nat.pow_add]
      exact Nat.pow_le_pow_right (by omega) (by omega)
    have e53 : (9007199254740992 : Nat) = 2 ^ 53 := rfl
    have e52 : (4503599627370496 : Nat) = 2 ^ 52 := rfl
    have hk1 : kept ≤ 9007199254740992 := (X _).1 (by rw [e53]; exact Nat.le_of_lt hup)
    have hk0 : L ≠ 0 → 4503599627370496 ≤ kept := fun hne => (X _).2.1 (by rw [e52]; exact hdn hne)
    have hk0' : last ≠ -1074 → 4503599627370496 ≤ kept := fun hne => hk0 (by omega)
    have hlu : last ≤ 900 := by clear hup hlow hhigh hk1 hk0 hk0' e53 e52 hA hAe; omega
    have hll : -1074 ≤ last := by omega
    have hnear : Near (kept * 2 ^ L) A (2 ^ V) := by
      intro q k hq
      have hpv : 0 < 2 ^ V := Nat.two_pow_pos _
      rcases Nat.lt_or_ge k L with hkL | hkL
      · -- a finer number: it lies at or below the least one of the binade
        have hg : q * 2 ^ k ≤ 2 ^ 52 * 2 ^ L := by
          refine Nat.le_trans (Nat.mul_le_mul_right _ hq) ?_
          rw [e53, ← Nat.pow_add, ← Nat.pow_add]
          exact Nat.pow_le_pow_right (by omega) (by omega)
        have hlo := hdn (by omega)
        have hkk := hk0 (by omega)
        rw [Nat.pow_add, ← Nat.mul_assoc] at hlo
        refine ⟨fun _ => Nat.le_trans hg (Nat.mul_le_mul_right _ hkk), fun h => ?_, fun _ hq2 h => ?_⟩
        · have h1 : 2 ^ 52 * 2 ^ L ≤ q * 2 ^ k := Nat.le_of_mul_le_mul_right (Nat.le_trans hlo h) hpv
          have h2 : A ≤ 2 ^ 52 * 2 ^ (L + V) := by
            rw [Nat.pow_add, ← Nat.mul_assoc]
            exact Nat.le_trans h (Nat.mul_le_mul_right _ hg)
          have h3 := (X _).1 h2
          exact Nat.le_trans (Nat.mul_le_mul_right _ h3) h1
        · exfalso
          have h1 : (2 * q + 1) * 2 ^ k ≤ 2 * (2 ^ 52 * 2 ^ L) := by
            have h2 : (2 * q + 1) * 2 ^ k ≤ 2 ^ 54 * 2 ^ k := Nat.mul_le_mul_right _ (by omega)
            refine Nat.le_trans h2 ?_
            rw [← Nat.pow_add, show (2 : Nat) * (2 ^ 52 * 2 ^ L) = 2 ^ (53 + L) by rw [← Nat.mul_assoc, Nat.pow_add]]
            exact Nat.pow_le_pow_right (by omega) (by omega)
          have h2 := Nat.mul_le_mul_right (2 ^ V) h1
          rw [Nat.mul_assoc 2 _ (2 ^ V)] at h2
          generalize 2 ^ 52 * 2 ^ L * 2 ^ V = z at *
          generalize (2 * q + 1) * 2 ^ k * 2 ^ V = y at *
          omega
      · -- a number of the same grain
        obtain ⟨j, rfl⟩ : ∃ j, k = L + j := ⟨k - L, by omega⟩
        have hg : q * 2 ^ (L + j) = q * 2 ^ j * 2 ^ L := by rw [Nat.pow_add, Nat.mul_comm (2 ^ L), Nat.mul_assoc]
        have hgv : q * 2 ^ (L + j) * 2 ^ V = q * 2 ^ j * 2 ^ (L + V) := by rw [hg, Nat.mul_assoc, ← Nat.pow_add]
        obtain ⟨x1, x2, _⟩ := X (q * 2 ^ j)
        rw [hgv, hg]
        refine ⟨fun h => Nat.mul_le_mul_right _ (x2 h), fun h => Nat.mul_le_mul_right _ (x1 h), fun hq0 hq1 h => ?_⟩
        rcases Nat.eq_zero_or_pos j with rfl | hj
        · have h3 := (X q).2.2 (by
            have : (2 * q + 1) * 2 ^ (L + 0) * 2 ^ V = (2 * q + 1) * 2 ^ (L + V) := by rw [Nat.mul_assoc, ← Nat.pow_add]; rfl
            rw [← this]; exact h)
          rw [Nat.pow_zero, Nat.mul_one]
          exact Nat.mul_le_mul_right _ h3
        · refine Nat.mul_le_mul_right _ (x1 (Nat.le_trans (Nat.le_of_lt hup) (Nat.mul_le_mul_right _ ?_)))
          have h5 : 2 ^ 1 ≤ 2 ^ j := Nat.pow_le_pow_right (by omega) hj
          exact Nat.mul_le_mul hq0 h5
    obtain ⟨p, l, r, hv⟩ := kept_word neg kept last hll hlu hk1 hk0'
    rw [e]
    refine ⟨isNum_of r, kept * 2 ^ L, ?_, by rw [← hAe]; exact hnear⟩
    unfold fval
    rw [r]
    show signed neg p (l + 1074).toNat = _
    rw [signed_eq, hv, ← hL]
end Go.Proofs.Ytibkhmdnfloemaa
namespace Go.Proofs.Ytibkhmdnfloemaa
open Go.RowKit Ieee

theorem exB : ∃ B : Nat, B = 1900 := ⟨_, rfl⟩
/-- The bound of what is reckoned with: 2 to the 1900, the exponent kept from being reckoned out. -/
noncomputable def fixB : Nat := exB.choose
theorem fixB_eq : fixB = 1900 := exB.choose_spec

/-- The numbers of 53 digits, in parts of 2 to the -1074. -/
def Rep (v : Int) : Prop := ∃ q k : Nat, q ≤ 9007199254740992 ∧ v.natAbs = q * 2 ^ k
/-- v is what N / D is rounded to, for signed ones. -/
def NearI (v N : Int) (D : Nat) : Prop := ∀ g : Int, Rep g → (g * (D : Int) ≤ N → g ≤ v) ∧ (N ≤ g * (D : Int) → v ≤ g)
/-- A rounded quotient with its sign. -/
def Rounds (v N : Int) (D : Nat) : Prop := ∃ (s : Bool) (R A : Nat), v = (if s then -(R : Int) else (R : Int)) ∧ N = (if s then -(A : Int) else (A : Int)) ∧ Near R A D

theorem rep_neg {v : Int} (h : Rep v) : Rep (-v) := by
  obtain ⟨q, k, h1, h2⟩ := h; exact ⟨q, k, h1, by rw [Int.natAbs_neg]; exact h2⟩
theorem rep_num {x : Nat} (h : isNum x) : Rep (fval x) := by
  obtain ⟨s, m, i, e, _, hm⟩ := h
  refine ⟨m, (i + 1074).toNat, Nat.le_of_lt hm, ?_⟩
  unfold fval; rw [e]; exact (val_amount s m _).1
theorem near_int_pos {R A D : Nat} (h : Near R A D) (hD : 0 < D) : NearI (R : Int) (A : Int) D := by
  intro g hg
  obtain ⟨q, k, hq, hv⟩ := hg
  obtain ⟨n1, n2, _⟩ := h q k hq
  have hDi : (0 : Int) < (D : Int) := by omega
  rw [← hv] at n1 n2
  rcases Int.lt_or_le g 0 with h0 | h0
  · refine ⟨fun _ => by omega, fun h => ?_⟩
    have := Int.mul_neg_of_neg_of_pos h0 hDi
    omega
  · obtain ⟨a, rfl⟩ : ∃ a : Nat, g = (a : Int) := ⟨g.toNat, by omega⟩
    rw [Int.natAbs_natCast] at n1 n2
    refine ⟨fun h => ?_, fun h => ?_⟩
    · have := n1 (by exact_mod_cast h); omega
    · have := n2 (by exact_mod_cast h); omega
theorem near_int_neg {v N : Int} {D : Nat} (h : NearI v N D) : NearI (-v) (-N) D := by
  intro g hg
  obtain ⟨h1, h2⟩ := h (-g) (rep_neg hg)
  rw [Int.neg_mul] at h1 h2
  exact ⟨fun h => by have := h2 (by omega); omega, fun h => by have := h1 (by omega); omega⟩
theorem Rounds.near {v N : Int} {D : Nat} (h : Rounds v N D) (hD : 0 < D) : NearI v N D := by
  obtain ⟨s, R, A, rfl, rfl, hn⟩ := h
  have := near_int_pos hn hD
  cases s
  · exact this
  · exact near_int_neg this
/-- One that is a number of 53 digits itself is kept. -/
theorem NearI.exact {v g : Int} {D : Nat} (h : NearI v (g * (D : Int)) D) (hg : Rep g) : v = g := by
  obtain ⟨h1, h2⟩ := h g hg
  exact Int.le_antisymm (h2 (Int.le_refl _)) (h1 (Int.le_refl _))

theorem signed_abs (s : Bool) (m u : Nat) : signed s m u = if s then -(((signed s m u).natAbs : Nat) : Int) else (((signed s m u).natAbs : Nat) : Int) := by
  rw [(val_amount s m u).1, signed_eq]

/-- A sum of numbers. -/
theorem add_op {x y : Nat} (hx : isNum x) (hy : isNum y) (hb : (fval x + fval y).natAbs < 2 ^ fixB) :
    ∃ r, f64.add x y = some r ∧ isNum r ∧ r < 18446744073709551616 ∧ Rounds (fval r) (fval x + fval y) 1 := by
  obtain ⟨s, m, i, ex, hi, _⟩ := hx
  obtain ⟨t, n, j, ey, hj, _⟩ := hy
  obtain ⟨T, hT⟩ : ∃ T, T = signed s m (i - min i j).toNat + signed t n (j - min i j).toNat := ⟨_, rfl⟩
  obtain ⟨neg, hneg⟩ : ∃ neg : Bool, neg = (if T = 0 then s && t else decide (T < 0)) := ⟨_, rfl⟩
  have hr : f64.add x y = some (f64.nearest neg T.natAbs (min i j)) := by
    unfold Format.add; rw [ex, ey]
    show some (f64.write (.number (if signed s m (i - min i j).toNat + signed t n (j - min i j).toNat = 0 then s && t else decide (signed s m (i - min i j).toNat + signed t n (j - min i j).toNat < 0)) (signed s m (i - min i j).toNat + signed t n (j - min i j).toNat).natAbs (min i j))) = _
    rw [← hT, ← hneg]; rfl
  obtain ⟨P, hP⟩ : ∃ P : Nat, P = (min i j + 1074).toNat := ⟨_, rfl⟩
  have hsum : fval x + fval y = T * ((2 ^ P : Nat) : Int) := by
    unfold fval; rw [ex, ey]
    show signed s m (i + 1074).toNat + signed t n (j + 1074).toNat = _
    rw [show (i + 1074).toNat = (i - min i j).toNat + P by omega, show (j + 1074).toNat = (j - min i j).toNat + P by omega, signed_shift, signed_shift, ← Int.add_mul, hT]
  have habs : (fval x + fval y).natAbs = T.natAbs * 2 ^ P := by rw [hsum, Int.natAbs_mul]; rfl
  obtain ⟨hn, R, hv, hnear⟩ := near_core neg T.natAbs (min i j) 0 P (by omega) (by rw [← habs, Nat.add_zero, ← fixB_eq]; exact hb)
  refine ⟨_, hr, hn, FloatKind.f64.format.add_lt hr, ?_⟩
  rw [← habs, Nat.pow_zero] at hnear
  by_cases h0 : T = 0
  · have hz : (fval x + fval y) = 0 := by rw [hsum, h0, Int.zero_mul]
    rw [hz] at hnear ⊢
    have hR : R ≤ 0 := by have := (hnear 0 0 (by omega)).2.1 (by simp); simpa using this
    exact ⟨neg, R, 0, hv, by cases neg <;> simp, hnear⟩
  · rw [if_neg h0] at hneg
    refine ⟨neg, R, (fval x + fval y).natAbs, hv, ?_, hnear⟩
    have hp : (0 : Int) < ((2 ^ P : Nat) : Int) := by have := Nat.two_pow_pos P; omega
    rw [hneg, hsum]
    by_cases h1 : T < 0
    · have := Int.mul_neg_of_neg_of_pos h1 hp
      simp only [h1, decide_true, if_true]
      clear hb hsum habs hnear
      generalize T * ((2 ^ P : Nat) : Int) = z at *
      omega
    · have := Int.mul_nonneg (show (0 : Int) ≤ T by omega) (Int.le_of_lt hp)
      simp only [h1, decide_false]
      clear hb hsum habs hnear
      generalize T * ((2 ^ P : Nat) : Int) = z at *
      simp only [Bool.false_eq_true, if_false]
      omega

/-- The word of the opposite number reads as the opposite datum: a difference is a sum. -/
theorem sub_op {x y : Nat} (hx : isNum x) (hy : isNum y) (hb : (fval x - fval y).natAbs < 2 ^ fixB) :
    ∃ r, f64.sub x y = some r ∧ isNum r ∧ r < 18446744073709551616 ∧ Rounds (fval r) (fval x - fval y) 1 := by
  obtain ⟨s, m, i, ex, hi, _⟩ := hx
  obtain ⟨t, n, j, ey, hj, _⟩ := hy
  obtain ⟨T, hT⟩ : ∃ T, T = signed s m (i - min i j).toNat + signed (!t) n (j - min i j).toNat := ⟨_, rfl⟩
  obtain ⟨neg, hneg⟩ : ∃ neg : Bool, neg = (if T = 0 then s && !t else decide (T < 0)) := ⟨_, rfl⟩
  have hr : f64.sub x y = some (f64.nearest neg T.natAbs (min i j)) := by
    unfold Format.sub; rw [ex, ey]
    show some (f64.write (.number (if signed s m (i - min i j).toNat + signed (!t) n (j - min i j).toNat = 0 then s && !t else decide (signed s m (i - min i j).toNat + signed (!t) n (j - min i j).toNat < 0)) (signed s m (i - min i j).toNat + signed (!t) n (j - min i j).toNat).natAbs (min i j))) = _
    rw [← hT, ← hneg]; rfl
  obtain ⟨P, hP⟩ : ∃ P : Nat, P = (min i j + 1074).toNat := ⟨_, rfl⟩
  have hsum : fval x - fval y = T * ((2 ^ P : Nat) : Int) := by
    unfold fval; rw [ex, ey]
    show signed s m (i + 1074).toNat - signed t n (j + 1074).toNat = _
    rw [Int.sub_eq_add_neg, ← signed_not t, show (i + 1074).toNat = (i - min i j).toNat + P by omega, show (j + 1074).toNat = (j - min i j).toNat + P by omega, signed_shift, signed_shift, ← Int.add_mul, hT]
  have habs : (fval x - fval y).natAbs = T.natAbs * 2 ^ P := by rw [hsum, Int.natAbs_mul]; rfl
  obtain ⟨hn, R, hv, hnear⟩ := near_core neg T.natAbs (min i j) 0 P (by omega) (by rw [← habs, Nat.add_zero, ← fixB_eq]; exact hb)
  refine ⟨_, hr, hn, FloatKind.f64.format.sub_lt hr, ?_⟩
  rw [← habs, Nat.pow_zero] at hnear
  by_cases h0 : T = 0
  · have hz : (fval x - fval y) = 0 := by rw [hsum, h0, Int.zero_mul]
    rw [hz] at hnear ⊢
    exact ⟨neg, R, 0, hv, by cases neg <;> simp, hnear⟩
  · rw [if_neg h0] at hneg
    refine ⟨neg, R, (fval x - fval y).natAbs, hv, ?_, hnear⟩
    have hp : (0 : Int) < ((2 ^ P : Nat) : Int) := by have := Nat.two_pow_pos P; omega
    rw [hneg, hsum]
    by_cases h1 : T < 0
    · have := Int.mul_neg_of_neg_of_pos h1 hp
      simp only [h1, decide_true, if_true]
      clear hb hsum habs hnear
      generalize T * ((2 ^ P : Nat) : Int) = z at *
      omega
    · have := Int.mul_nonneg (show (0 : Int) ≤ T by omega) (Int.le_of_lt hp)
      simp only [h1, decide_false]
      clear hb hsum habs hnear
      generalize T * ((2 ^ P : Nat) : Int) = z at *
      simp only [Bool.false_eq_true, if_false]
      omega

theorem signed_mul (s t : Bool) (m n u v : Nat) : signed s m u * signed t n v = if s ^^ t then -((m * n * 2 ^ (u + v) : Nat) : Int) else ((m * n * 2 ^ (u + v) : Nat) : Int) := by
  rw [signed_eq, signed_eq, Nat.pow_add, show m * n * (2 ^ u * 2 ^ v) = (m * 2 ^ u) * (n * 2 ^ v) by rw [Nat.mul_assoc, Nat.mul_assoc, Nat.mul_left_comm n]]
  generalize m * 2 ^ u = a
  generalize n * 2 ^ v = b
  cases s <;> cases t <;> simp [Int.neg_mul, Int.mul_neg]

/-- A product of numbers. -/
theorem mul_op {x y : Nat} (hx : isNum x) (hy : isNum y) (hb : (fval x * fval y).natAbs < 2 ^ (fixB + fixE)) :
    ∃ r, f64.mul x y = some r ∧ isNum r ∧ r < 18446744073709551616 ∧ Rounds (fval r) (fval x * fval y) oneV := by
  have hE := fixE_eq
  obtain ⟨s, m, i, ex, hi, _⟩ := hx
  obtain ⟨t, n, j, ey, hj, _⟩ := hy
  have hr : f64.mul x y = some (f64.nearest (s ^^ t) (m * n) (i + j)) := by
    unfold Format.mul; rw [ex, ey]; rfl
  obtain ⟨u, hu⟩ : ∃ u : Nat, u = (i + 1074).toNat := ⟨_, rfl⟩
  obtain ⟨v, hv'⟩ : ∃ v : Nat, v = (j + 1074).toNat := ⟨_, rfl⟩
  have hprod : fval x * fval y = if s ^^ t then -((m * n * 2 ^ (u + v) : Nat) : Int) else ((m * n * 2 ^ (u + v) : Nat) : Int) := by
    unfold fval; rw [ex, ey]
    show signed s m (i + 1074).toNat * signed t n (j + 1074).toNat = _
    rw [← hu, ← hv']; exact signed_mul s t m n u v
  have habs : (fval x * fval y).natAbs = m * n * 2 ^ (u + v) := by
    rw [hprod]; split
    · rw [Int.natAbs_neg]; rfl
    · rfl
  obtain ⟨hn, R, hv, hnear⟩ := near_core (s ^^ t) (m * n) (i + j) fixE (u + v) (by omega) (by rw [← habs, ← fixB_eq]; exact hb)
  exact ⟨_, hr, hn, FloatKind.f64.format.mul_lt hr, s ^^ t, R, _, hv, hprod, hnear⟩
end Go.Proofs.Ytibkhmdnfloemaa
namespace Go.Proofs.Ytibkhmdnfloemaa
open Go.RowKit Ieee

/-- A quotient with one digit more, which tells whether anything is left over, lies on the side of every number of 53 digits on which the quotient lies. -/
theorem div_sides (dvd n Q st q b c : Nat) (hn : 0 < n) (hQ : Q = dvd / n) (hst : st = (dvd % n != 0).toNat) (hQ0 : 9007199254740992 ≤ Q) (hq : q ≤ 9007199254740992) :
    (q * 2 ^ c * n ≤ 2 * dvd * 2 ^ b → q * 2 ^ c ≤ (2 * Q + st) * 2 ^ b) ∧ (2 * dvd * 2 ^ b ≤ q * 2 ^ c * n → (2 * Q + st) * 2 ^ b ≤ q * 2 ^ c) ∧
      (q < 9007199254740992 → 2 * (2 * dvd * 2 ^ b) < (2 * q + 1) * 2 ^ c * n → 2 * ((2 * Q + st) * 2 ^ b) < (2 * q + 1) * 2 ^ c) := by
  have hdm := Nat.div_add_mod dvd n
  have hml := Nat.mod_lt dvd hn
  rw [← hQ] at hdm
  have hB : 0 < 2 ^ b := Nat.two_pow_pos _
  have hst1 : st ≤ 1 := by rw [hst]; cases (dvd % n != 0) <;> simp
  have hst0 : dvd % n ≠ 0 ∨ st = 0 := by
    rcases Nat.eq_zero_or_pos (dvd % n) with h | h
    · right; rw [hst, h]; rfl
    · left; omega
  have hbig : 9007199254740992 * n ≤ dvd := by
    have := Nat.mul_le_mul_left n hQ0
    rw [Nat.mul_comm n] at this; omega
  refine ⟨fun h => ?_, fun h => ?_, fun hq1 h => ?_⟩
  · rcases Nat.lt_or_ge b c with hc | hc
    · obtain ⟨j, rfl⟩ : ∃ j, c = j + (b + 1) := ⟨c - (b + 1), by omega⟩
      have e : q * 2 ^ (j + (b + 1)) = 2 * (q * 2 ^ j) * 2 ^ b := by rw [Nat.pow_add, Nat.pow_succ, ← Nat.mul_assoc, Nat.mul_comm (2 ^ b) 2, ← Nat.mul_assoc, Nat.mul_comm (q * 2 ^ j) 2]
      rw [e] at h ⊢
      rw [Nat.mul_right_comm] at h
      have h1 := Nat.le_of_mul_le_mul_right h hB
      have h2 : q * 2 ^ j * n ≤ dvd := by rw [Nat.mul_assoc] at h1; omega
      have h3 : q * 2 ^ j ≤ Q := by rw [hQ]; exact (Nat.le_div_iff_mul_le hn).2 h2
      exact Nat.mul_le_mul_right _ (by omega)
    · have h1 : q * 2 ^ c ≤ 9007199254740992 * 2 ^ b := Nat.mul_le_mul hq (Nat.pow_le_pow_right (by omega) hc)
      exact Nat.le_trans h1 (Nat.mul_le_mul_right _ (by omega))
  · rcases Nat.lt_or_ge b c with hc | hc
    · obtain ⟨j, rfl⟩ : ∃ j, c = j + (b + 1) := ⟨c - (b + 1), by omega⟩
      have e : q * 2 ^ (j + (b + 1)) = 2 * (q * 2 ^ j) * 2 ^ b := by rw [Nat.pow_add, Nat.pow_succ, ← Nat.mul_assoc, Nat.mul_comm (2 ^ b) 2, ← Nat.mul_assoc, Nat.mul_comm (q * 2 ^ j) 2]
      rw [e] at h ⊢
      rw [Nat.mul_right_comm (2 * (q * 2 ^ j))] at h
      have h1 := Nat.le_of_mul_le_mul_right h hB
      have h2 : dvd ≤ q * 2 ^ j * n := by rw [Nat.mul_assoc] at h1; omega
      refine Nat.mul_le_mul_right _ ?_
      rcases Nat.lt_or_ge Q (q * 2 ^ j) with h3 | h3
      · omega
      · have h4 := Nat.mul_le_mul_left n h3
        rw [Nat.mul_comm n (q * 2 ^ j)] at h4
        have h5 : n * Q = q * 2 ^ j * n := by omega
        have h6 : Q = q * 2 ^ j := by rw [Nat.mul_comm (q * 2 ^ j)] at h5; exact Nat.eq_of_mul_eq_mul_left hn h5
        omega
    · exfalso
      have h1 : q * 2 ^ c * n ≤ 9007199254740992 * 2 ^ b * n := Nat.mul_le_mul_right _ (Nat.mul_le_mul hq (Nat.pow_le_pow_right (by omega) hc))
      have h2 : 2 * dvd * 2 ^ b ≤ 9007199254740992 * n * 2 ^ b := by rw [Nat.mul_right_comm 9007199254740992]; omega
      have h3 := Nat.le_of_mul_le_mul_right h2 hB
      omega
  · rcases Nat.lt_or_ge (b + 1) c with hc | hc
    · obtain ⟨j, rfl⟩ : ∃ j, c = j + (b + 2) := ⟨c - (b + 2), by omega⟩
      have e : (2 * q + 1) * 2 ^ (j + (b + 2)) = 4 * ((2 * q + 1) * 2 ^ j) * 2 ^ b := by
        rw [Nat.pow_add, Nat.pow_add 2 b 2, show (2 : Nat) ^ 2 = 4 from rfl, ← Nat.mul_assoc, Nat.mul_comm (2 ^ b) 4, ← Nat.mul_assoc, Nat.mul_comm ((2 * q + 1) * 2 ^ j) 4]
      rw [e] at h ⊢
      generalize (2 * q + 1) * 2 ^ j = H at *
      have h1 : 2 * (2 * dvd) * 2 ^ b < 4 * H * n * 2 ^ b := by rw [Nat.mul_assoc 2, Nat.mul_right_comm (4 * H)]; exact h
      have h2 := Nat.lt_of_mul_lt_mul_right h1
      rw [Nat.mul_assoc] at h2
      have h3 : Q < H := by
        rcases Nat.lt_or_ge Q H with h | h
        · exact h
        · have := Nat.mul_le_mul_left n h
          rw [Nat.mul_comm n H] at this
          omega
      rw [← Nat.mul_assoc]
      exact Nat.mul_lt_mul_of_pos_right (by omega) hB
    · exfalso
      have h1 : (2 * q + 1) * 2 ^ c * n ≤ 18014398509481983 * 2 ^ (b + 1) * n := Nat.mul_le_mul_right _ (Nat.mul_le_mul (by omega) (Nat.pow_le_pow_right (by omega) hc))
      have h2 : 2 * (2 * dvd) * 2 ^ b < 18014398509481983 * 2 * n * 2 ^ b := by
        rw [Nat.pow_succ, Nat.mul_comm (2 ^ b) 2, ← Nat.mul_assoc, Nat.mul_right_comm _ (2 ^ b) n] at h1
        rw [Nat.mul_assoc 2]; omega
      have h3 := Nat.lt_of_mul_lt_mul_right h2
      omega

set_option maxHeartbeats 1000000 in
/-- A quotient of numbers. -/
theorem div_op {x y : Nat} (hx : isNum x) (hy : isNum y) (hxb : (fval x).natAbs < 2 ^ (fixE + 200)) (hyb : 2 ^ (fixE - 200) ≤ (fval y).natAbs) :
    ∃ r, f64.div x y = some r ∧ isNum r ∧ r < 18446744073709551616 ∧ ∃ s t : Bool, ∃ R : Nat, fval r = (if s ^^ t then -(R : Int) else (R : Int)) ∧ (fval x = if s then -(((fval x).natAbs : Nat) : Int) else (((fval x).natAbs : Nat) : Int)) ∧ (fval y = if t then -(((fval y).natAbs : Nat) : Int) else (((fval y).natAbs : Nat) : Int)) ∧
      Near R ((fval x).natAbs * oneV) (fval y).natAbs := by
  have hE := fixE_eq
  obtain ⟨s, m, i, ex, hi, hm⟩ := hx
  obtain ⟨t, n, j, ey, hj, hn'⟩ := hy
  have vx : fval x = signed s m (i + 1074).toNat := by unfold fval; rw [ex]; rfl
  have vy : fval y = signed t n (j + 1074).toNat := by unfold fval; rw [ey]; rfl
  have ax : (fval x).natAbs = m * 2 ^ (i + 1074).toNat := by rw [vx]; exact (val_amount s m _).1
  have ay : (fval y).natAbs = n * 2 ^ (j + 1074).toNat := by rw [vy]; exact (val_amount t n _).1
  have hn : 0 < n := by
    rcases Nat.eq_zero_or_pos n with h | h
    · rw [ay, h, Nat.zero_mul] at hyb
      exact absurd (Nat.two_pow_pos (fixE - 200)) (by omega)
    · exact h
  obtain ⟨more, hmore⟩ : ∃ more, more = 54 + n.log2 - m.log2 := ⟨_, rfl⟩
  obtain ⟨dvd, hdvd⟩ : ∃ dvd, dvd = m * 2 ^ more := ⟨_, rfl⟩
  obtain ⟨Q, hQ⟩ : ∃ Q, Q = dvd / n := ⟨_, rfl⟩
  obtain ⟨st, hst⟩ : ∃ st, st = (dvd % n != 0).toNat := ⟨_, rfl⟩
  have hr : f64.div x y = some (f64.nearest (s ^^ t) (2 * Q + st) (i - j - more - 1)) := by
    unfold Format.div; rw [ex, ey]
    unfold Datum.quotient
    simp only [if_neg (show ¬ n = 0 by omega)]
    rw [show f64.fractionBits + 2 = 54 from rfl, ← hmore, Nat.shiftLeft_eq, ← hdvd, ← hQ, ← hst]
    rfl
  obtain ⟨I, hI⟩ : ∃ I : Nat, I = (i + 1074).toNat := ⟨_, rfl⟩
  obtain ⟨J, hJ⟩ : ∃ J : Nat, J = (j + 1074).toNat := ⟨_, rfl⟩
  rw [← hI] at ax vx
  rw [← hJ] at ay vy
  have sx : fval x = if s then -(((fval x).natAbs : Nat) : Int) else (((fval x).natAbs : Nat) : Int) := by rw [vx]; exact signed_abs s m I
  have sy : fval y = if t then -(((fval y).natAbs : Nat) : Int) else (((fval y).natAbs : Nat) : Int) := by rw [vy]; exact signed_abs t n J
  have hP : (i - j - more - 1 : Int) + 1074 + ((J + more + 1 : Nat) : Int) = ((I + fixE : Nat) : Int) := by omega
  by_cases h0 : m = 0
  · have hd0 : dvd = 0 := by rw [hdvd, h0, Nat.zero_mul]
    have hmag : 2 * Q + st = 0 := by rw [hst, hQ, hd0]; simp
    rw [hmag] at hr
    obtain ⟨hn2, R, hv, hnear⟩ := near_core (s ^^ t) 0 (i - j - more - 1) (J + more + 1) (I + fixE) hP (by rw [Nat.zero_mul]; exact Nat.two_pow_pos _)
    refine ⟨_, hr, hn2, FloatKind.f64.format.div_lt hr, s, t, R, hv, sx, sy, ?_⟩
    rw [ax, h0, Nat.zero_mul, Nat.zero_mul]
    rw [Nat.zero_mul] at hnear
    have hR : R = 0 := by have := (hnear 0 0 (by omega)).2.1 (by simp); simpa using this
    intro q k hq
    rw [hR]
    refine ⟨fun h => ?_, fun _ => Nat.zero_le _, fun _ _ _ => Nat.zero_le _⟩
    rcases Nat.mul_eq_zero.1 (Nat.le_zero.1 h) with h2 | h2
    · omega
    · exfalso; rw [h2] at hyb; have := Nat.two_pow_pos (fixE - 200); omega
  · have hQ0 : 9007199254740992 ≤ Q := by
      rw [hQ, Nat.le_div_iff_mul_le hn, hdvd]
      have h1 : n < 2 ^ (n.log2 + 1) := Nat.lt_log2_self
      have h2 : 2 ^ m.log2 * 2 ^ more ≤ m * 2 ^ more := Nat.mul_le_mul_right _ (Nat.log2_self_le h0)
      rw [← Nat.pow_add] at h2
      have h3 : 2 ^ 53 * n ≤ 2 ^ 53 * 2 ^ (n.log2 + 1) := Nat.mul_le_mul_left _ (Nat.le_of_lt h1)
      rw [← Nat.pow_add] at h3
      have h4 : 2 ^ (53 + (n.log2 + 1)) ≤ 2 ^ (m.log2 + more) := Nat.pow_le_pow_right (by omega) (by omega)
      exact Nat.le_trans h3 (Nat.le_trans h4 h2)
    have hst1 : st ≤ 1 := by rw [hst]; cases (dvd % n != 0) <;> simp
    obtain ⟨V, hV⟩ : ∃ V, V = J + more + 1 := ⟨_, rfl⟩
    rw [← hV] at hP
    have hpv : 0 < 2 ^ V := Nat.two_pow_pos _
    have hpJ : 0 < 2 ^ J := Nat.two_pow_pos _
    -- the exact quotient, scaled
    have key : (fval x).natAbs * oneV * 2 ^ V = 2 * dvd * 2 ^ (I + fixE) * 2 ^ J := by
      rw [ax, hV, hdvd]; unfold oneV
      rw [Nat.pow_add 2 (J + more) 1, Nat.pow_add 2 J more, Nat.pow_add 2 I fixE, Nat.pow_one]
      simp only [Nat.mul_assoc, Nat.mul_comm, Nat.mul_left_comm]
    have hD : ∀ h : Nat, h * (fval y).natAbs * 2 ^ V = h * 2 ^ V * n * 2 ^ J := fun h => by
      rw [ay]; simp only [Nat.mul_assoc, Nat.mul_comm, Nat.mul_left_comm]
    have hA : (2 * Q + st) * 2 ^ (I + fixE) < 2 ^ (1900 + V) := by
      have h1 : (2 * Q + st) * n ≤ 4 * dvd := by
        have h2 : Q * n ≤ dvd := by rw [hQ]; exact Nat.div_mul_le_self dvd n
        have h3 : (2 * Q + st) * n ≤ (4 * Q) * n := Nat.mul_le_mul_right _ (by omega)
        rw [Nat.mul_assoc] at h3; omega
      have h2 : (2 * Q + st) * 2 ^ (I + fixE) * (n * 2 ^ J) ≤ 2 * ((fval x).natAbs * oneV * 2 ^ V) := by
        rw [key]
        have := Nat.mul_le_mul_right (2 ^ (I + fixE) * 2 ^ J) h1
        calc (2 * Q + st) * 2 ^ (I + fixE) * (n * 2 ^ J) = (2 * Q + st) * n * (2 ^ (I + fixE) * 2 ^ J) := by simp only [Nat.mul_assoc, Nat.mul_comm, Nat.mul_left_comm]
          _ ≤ 4 * dvd * (2 ^ (I + fixE) * 2 ^ J) := this
          _ = 2 * (2 * dvd * 2 ^ (I + fixE) * 2 ^ J) := by rw [show 4 * dvd = 2 * (2 * dvd) by omega]; simp only [Nat.mul_assoc]
      have h3 : 2 * ((fval x).natAbs * oneV * 2 ^ V) < 2 * (2 ^ (fixE + 200) * oneV * 2 ^ V) := by
        have : (fval x).natAbs * oneV * 2 ^ V < 2 ^ (fixE + 200) * oneV * 2 ^ V := Nat.mul_lt_mul_of_pos_right (Nat.mul_lt_mul_of_pos_right hxb (Nat.two_pow_pos _)) hpv
        omega
      have h4 : (2 * Q + st) * 2 ^ (I + fixE) * 2 ^ (fixE - 200) ≤ (2 * Q + st) * 2 ^ (I + fixE) * (n * 2 ^ J) := Nat.mul_le_mul_left _ (by rw [← ay]; exact hyb)
      have h5 : 2 * (2 ^ (fixE + 200) * oneV * 2 ^ V) = 2 ^ (fixE + 401 + V) * 2 ^ (fixE - 200) := by
        unfold oneV
        rw [← Nat.pow_add, ← Nat.pow_add, ← Nat.pow_add, show 2 * 2 ^ (fixE + 200 + fixE + V) = 2 ^ (fixE + 200 + fixE + V + 1) by rw [Nat.pow_succ, Nat.mul_comm]]
        exact congrArg (fun z => 2 ^ z) (by clear h2 h3 h4; omega)
      rw [h5] at h3
      have h6 := Nat.lt_of_le_of_lt h4 (Nat.lt_of_le_of_lt h2 h3)
      have h7 := Nat.lt_of_mul_lt_mul_right h6
      exact Nat.lt_of_lt_of_le h7 (Nat.pow_le_pow_right (by omega) (by omega))
    obtain ⟨hn2, R, hv, hnear⟩ := near_core (s ^^ t) (2 * Q + st) (i - j - more - 1) V (I + fixE) hP hA
    refine ⟨_, hr, hn2, FloatKind.f64.format.div_lt hr, s, t, R, hv, sx, sy, ?_⟩
    intro q k hq
    obtain ⟨n1, n2, n3⟩ := hnear q k hq
    have e : ∀ z : Nat, z * 2 ^ k * 2 ^ V = z * 2 ^ (k + V) := fun z => by rw [Nat.mul_assoc, ← Nat.pow_add]
    rw [e] at n1 n2 n3
    obtain ⟨d1, d2, d3⟩ := div_sides dvd n Q st q (I + fixE) (k + V) hn hQ hst hQ0 hq
    refine ⟨fun h => n1 (d1 ?_), fun h => n2 (d2 ?_), fun hq0 hq1 h => n3 hq0 hq1 (d3 hq1 ?_)⟩
    · refine Nat.le_of_mul_le_mul_right ?_ hpJ
      have h2 := Nat.mul_le_mul_right (2 ^ V) h
      rw [key, hD, e] at h2
      exact h2
    · refine Nat.le_of_mul_le_mul_right ?_ hpJ
      have h2 := Nat.mul_le_mul_right (2 ^ V) h
      rw [key, hD, e] at h2
      exact h2
    · refine Nat.lt_of_mul_lt_mul_right (a := 2 ^ J) ?_
      have h2 := Nat.mul_lt_mul_of_pos_right h hpv
      rw [hD, e, Nat.mul_assoc, key, ← Nat.mul_assoc] at h2
      exact h2

/-- A number that is no tiny one has a half. -/
theorem rep_half {v : Int} (h : Rep v) (hb : 18014398509481984 ≤ v.natAbs) : ∃ z, v = 2 * z ∧ Rep z := by
  obtain ⟨q, k, hq, hv⟩ := h
  cases k with
  | zero => rw [Nat.pow_zero, Nat.mul_one] at hv; omega
  | succ k =>
    rw [Nat.pow_succ, Nat.mul_comm (2 ^ k) 2, ← Nat.mul_assoc, Nat.mul_comm q 2, Nat.mul_assoc] at hv
    refine ⟨v / 2, by omega, q, k, hq, by omega⟩
theorem rep_two {v : Int} (h : Rep v) : Rep (2 * v) := by
  obtain ⟨q, k, hq, hv⟩ := h
  exact ⟨q, k + 1, hq, by rw [Int.natAbs_mul, hv, Nat.pow_succ, Nat.mul_comm (2 ^ k) 2, ← Nat.mul_assoc, ← Nat.mul_assoc, Nat.mul_comm q 2]; rfl⟩
end Go.Proofs.Ytibkhmdnfloemaa
namespace Go.Proofs.Ytibkhmdnfloemaa
open Go.RowKit Ieee

theorem rep_nat {q k : Nat} (hq : q ≤ 9007199254740992) : Rep ((q * 2 ^ k : Nat) : Int) := ⟨q, k, hq, Int.natAbs_natCast _⟩

theorem near_err_pos {v : Int} {A D : Nat} (h : NearI v (A : Int) D) (hD : 0 < D) :
    4503599627370496 * (v * (D : Int) - (A : Int)) ≤ (A : Int) + 4503599627370496 * (D : Int) ∧ 4503599627370496 * ((A : Int) - v * (D : Int)) ≤ (A : Int) + 4503599627370496 * (D : Int) := by
  obtain ⟨n, hn⟩ : ∃ n, n = A / D := ⟨_, rfl⟩
  have hdm := Nat.div_add_mod A D
  have hml := Nat.mod_lt A hD
  rw [← hn] at hdm
  have n0 : n * D ≤ A := by rw [Nat.mul_comm]; omega
  have n1 : A < (n + 1) * D := by rw [Nat.add_mul, Nat.one_mul, Nat.mul_comm n D]; omega
  have key : ∀ q k : Nat, q < 9007199254740992 → q * 2 ^ k ≤ n → n + 1 ≤ (q + 1) * 2 ^ k → (4503599627370496 * 2 ^ k ≤ n ∨ k = 0) →
      4503599627370496 * (v * (D : Int) - (A : Int)) ≤ (A : Int) + 4503599627370496 * (D : Int) ∧ 4503599627370496 * ((A : Int) - v * (D : Int)) ≤ (A : Int) + 4503599627370496 * (D : Int) := fun q k hq h1 h2 h3 => by
    have l1 : q * 2 ^ k * D ≤ A := Nat.le_trans (Nat.mul_le_mul_right D h1) n0
    have l2 : A ≤ (q + 1) * 2 ^ k * D := Nat.le_of_lt (Nat.lt_of_lt_of_le n1 (Nat.mul_le_mul_right D h2))
    have r1 := (h _ (rep_nat (q := q) (k := k) (by omega))).1 (by exact_mod_cast l1)
    have r2 := (h _ (rep_nat (q := q + 1) (k := k) (by omega))).2 (by exact_mod_cast l2)
    have hDi : (0 : Int) ≤ (D : Int) := by omega
    have r1' := Int.mul_le_mul_of_nonneg_right r1 hDi
    have r2' := Int.mul_le_mul_of_nonneg_right r2 hDi
    rw [← Int.natCast_mul] at r1' r2'
    have e : (q + 1) * 2 ^ k * D = q * 2 ^ k * D + 2 ^ k * D := by rw [Nat.add_mul, Nat.one_mul, Nat.add_mul]
    rw [e] at r2' l2
    have l3 : 4503599627370496 * (2 ^ k * D) ≤ A ∨ 2 ^ k * D = D := by
      rcases h3 with h3 | rfl
      · left
        rw [← Nat.mul_assoc]
        exact Nat.le_trans (Nat.mul_le_mul_right D h3) n0
      · right; rw [Nat.pow_zero, Nat.one_mul]
    generalize v * (D : Int) = z at *
    generalize q * 2 ^ k * D = x at *
    generalize 2 ^ k * D = y at *
    omega
  rcases Nat.lt_or_ge n 9007199254740992 with hs | hs
  · exact key n 0 hs (by rw [Nat.pow_zero, Nat.mul_one]; exact Nat.le_refl _) (by rw [Nat.pow_zero, Nat.mul_one]; exact Nat.le_refl _) (.inr rfl)
  · have h0 : n ≠ 0 := by omega
    have h1 : 2 ^ n.log2 ≤ n := Nat.log2_self_le h0
    have h2 : n < 2 ^ (n.log2 + 1) := Nat.lt_log2_self
    have hl : 53 ≤ n.log2 := by
      rcases Nat.lt_or_ge n.log2 53 with h | h
      · have : 2 ^ (n.log2 + 1) ≤ 2 ^ 53 := Nat.pow_le_pow_right (by omega) (by omega)
        have : (2 : Nat) ^ 53 = 9007199254740992 := rfl
        omega
      · exact h
    obtain ⟨j, hj⟩ : ∃ j, n.log2 = 52 + j := ⟨n.log2 - 52, by omega⟩
    rw [hj] at h1 h2
    have e52 : (2 : Nat) ^ 52 = 4503599627370496 := rfl
    have e53 : (2 : Nat) ^ 53 = 9007199254740992 := rfl
    rw [Nat.pow_add, e52] at h1
    rw [show 52 + j + 1 = 53 + j by omega, Nat.pow_add, e53] at h2
    have hpj : 0 < 2 ^ j := Nat.two_pow_pos _
    refine key (n / 2 ^ j) j ((Nat.div_lt_iff_lt_mul hpj).2 h2) (Nat.div_mul_le_self n (2 ^ j)) ?_ (.inl h1)
    have := Nat.div_add_mod n (2 ^ j)
    have := Nat.mod_lt n hpj
    rw [Nat.add_mul, Nat.one_mul, Nat.mul_comm]
    omega

/-- A rounded value lies within a 2 to the 52nd part of the exact one, and a unit. -/
theorem near_err {v N : Int} {D : Nat} (h : NearI v N D) (hD : 0 < D) :
    4503599627370496 * (v * (D : Int) - N) ≤ (N.natAbs : Int) + 4503599627370496 * (D : Int) ∧ 4503599627370496 * (N - v * (D : Int)) ≤ (N.natAbs : Int) + 4503599627370496 * (D : Int) := by
  rcases Int.le_total 0 N with h0 | h0
  · obtain ⟨A, rfl⟩ : ∃ A : Nat, N = (A : Int) := ⟨N.toNat, by omega⟩
    rw [Int.natAbs_natCast]
    exact near_err_pos h hD
  · obtain ⟨A, rfl⟩ : ∃ A : Nat, N = -(A : Int) := ⟨(-N).toNat, by omega⟩
    have hn := near_int_neg h
    rw [Int.neg_neg] at hn
    obtain ⟨a, b⟩ := near_err_pos hn hD
    rw [Int.neg_mul] at a b
    rw [Int.natAbs_neg, Int.natAbs_natCast]
    generalize v * (D : Int) = z at *
    omega
end Go.Proofs.Ytibkhmdnfloemaa
