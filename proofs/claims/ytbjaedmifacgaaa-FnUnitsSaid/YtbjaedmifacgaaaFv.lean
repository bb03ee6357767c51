/- Plain facts on float64 words: the value of a finite one as a whole number of parts of 2 to the -1074; order, truncation, exact writing. Nothing here speaks of the program. -/
import Derived.Test.YtbjaedmifacgaaaFl
namespace Go.Proofs.Ytbjaedmifacgaaa
open Go.RowKit Ieee

abbrev f64 : Format := FloatKind.f64.format
theorem f64_eq : f64 = double := rfl
theorem lp64 : f64.leastPlace = -1074 := by kernel_rfl
theorem bin64 : f64.binade = 4503599627370496 := by kernel_rfl
theorem inf64 : f64.infRung = 9218868437227405312 := by kernel_rfl
theorem sgn64 : f64.signWeight = 9223372036854775808 := by kernel_rfl

/-- The value of a datum that is a number, in parts of 2 to the -1074. -/
def dval : Datum → Int
  | .number s m i => signed s m (i + 1074).toNat
  | _ => 0
def fval (x : Nat) : Int := dval (f64.read x)
def isNum (x : Nat) : Prop := ∃ s m i, f64.read x = .number s m i ∧ -1074 ≤ i ∧ m < 9007199254740992

theorem signed_eq (s : Bool) (m u : Nat) : signed s m u = (if s then -((m * 2 ^ u : Nat) : Int) else ((m * 2 ^ u : Nat) : Int)) := by
  unfold signed; rw [Nat.shiftLeft_eq]
theorem signed_shift (s : Bool) (m u v : Nat) : signed s m (u + v) = signed s m u * ((2 ^ v : Nat) : Int) := by
  rw [signed_eq, signed_eq, Nat.pow_add]
  split
  · push_cast; rw [Int.neg_mul, Int.mul_assoc]
  · push_cast; rw [Int.mul_assoc]

/-- Every word that reads as a number. -/
theorem read_num {x : Nat} {s : Bool} {m : Nat} {i : Int} (h : f64.read x = .number s m i) : -1074 ≤ i ∧ m < 9007199254740992 := by
  unfold Format.read at h
  simp only [lp64, bin64, inf64, sgn64] at h
  split at h
  · injection h with h1 h2 h3; omega
  · split at h
    · injection h with h1 h2 h3; omega
    · split at h <;> cases h
theorem isNum_of {x : Nat} {s : Bool} {m : Nat} {i : Int} (h : f64.read x = .number s m i) : isNum x := ⟨s, m, i, h, read_num h⟩

theorem compare_scale (a b : Int) (c : Nat) (hc : 0 < c) : compare (a * (c : Int)) (b * (c : Int)) = compare a b := by
  have hc' : (0 : Int) < (c : Int) := by omega
  rcases Int.lt_trichotomy a b with h | h | h
  · have h' : a * (c : Int) < b * (c : Int) := Int.mul_lt_mul_of_pos_right h hc'
    rw [Int.compare_eq_lt.2 h, Int.compare_eq_lt.2 h']
  · subst h; simp
  · have h' : b * (c : Int) < a * (c : Int) := Int.mul_lt_mul_of_pos_right h hc'
    rw [Int.compare_eq_gt.2 h, Int.compare_eq_gt.2 h']

/-- The order of two numbers is that of their values. -/
theorem order_val {x y : Nat} (hx : isNum x) (hy : isNum y) : f64.order x y = some (compare (fval x) (fval y)) := by
  obtain ⟨s, m, i, ex, hi, _⟩ := hx
  obtain ⟨t, n, j, ey, hj, _⟩ := hy
  unfold Format.order fval
  rw [ex, ey]
  show some (compare (signed s m (i - min i j).toNat) (signed t n (j - min i j).toNat)) = some (compare (signed s m (i + 1074).toNat) (signed t n (j + 1074).toNat))
  rw [show (i + 1074).toNat = (i - min i j).toNat + (min i j + 1074).toNat by omega, show (j + 1074).toNat = (j - min i j).toNat + (min i j + 1074).toNat by omega]
  rw [signed_shift, signed_shift, compare_scale _ _ _ (Nat.two_pow_pos _)]

/-- A cut towards zero is the quotient. -/
theorem cut_zero (neg : Bool) (n d : Nat) : Toward.zero.cut neg n d = n / 2 ^ d := by
  unfold Toward.cut
  simp only [Nat.shiftLeft_eq, Nat.one_mul, Bool.toNat_false, Nat.add_zero]
  rcases Nat.le_total d (n.log2 + 2) with h | h
  · rw [Nat.min_eq_left h]
  · rw [Nat.min_eq_right h]
    have h1 : n < 2 ^ (n.log2 + 1) := Nat.lt_log2_self
    have h2 : n < 2 ^ (n.log2 + 2) := Nat.lt_of_lt_of_le h1 (Nat.pow_le_pow_right (by omega) (by omega))
    have h3 : n < 2 ^ d := Nat.lt_of_lt_of_le h2 (Nat.pow_le_pow_right (by omega) h)
    rw [Nat.div_eq_of_lt h2, Nat.div_eq_of_lt h3]

/-- The value of one half and of one: 2 to the 1073 and to the 1074, the exponents kept from being reckoned out. -/
theorem exE : ∃ E : Nat, E = 1074 := ⟨_, rfl⟩
noncomputable def fixE : Nat := exE.choose
theorem fixE_eq : fixE = 1074 := exE.choose_spec
noncomputable def halfV : Nat := 2 ^ (fixE - 1)
noncomputable def oneV : Nat := 2 ^ fixE
theorem oneV_eq : oneV = 2 * halfV := by
  unfold oneV halfV
  have h : fixE = (fixE - 1) + 1 := by have := fixE_eq; omega
  generalize fixE - 1 = k at *
  rw [h, Nat.pow_succ, Nat.mul_comm]
theorem halfV_pos : 0 < halfV := Nat.two_pow_pos _
/-- A number cut towards zero, as an integer. -/
theorem toInt_val {x : Nat} (hx : isNum x) : (f64.read x).toInt .zero = some ((fval x).tdiv (oneV : Int)) := by
  obtain ⟨s, m, i, ex, hi, _⟩ := hx
  unfold fval
  rw [ex]
  show some (signed s (Toward.zero.cut s (m <<< i.toNat) (-i).toNat) 0) = _
  rw [cut_zero, Nat.shiftLeft_eq, signed_eq, Nat.pow_zero, Nat.mul_one]
  show _ = some ((signed s m (i + 1074).toNat).tdiv (oneV : Int))
  rw [signed_eq]
  have key : m * 2 ^ i.toNat / 2 ^ (-i).toNat = m * 2 ^ (i + 1074).toNat / oneV := by
    unfold oneV
    have hE := fixE_eq
    rcases Int.le_total 0 i with h | h
    · rw [show (-i).toNat = 0 by omega, Nat.pow_zero, Nat.div_one, show (i + 1074).toNat = i.toNat + fixE by omega, Nat.pow_add, ← Nat.mul_assoc, Nat.mul_div_cancel _ (Nat.two_pow_pos _)]
    · rw [show i.toNat = 0 by omega, Nat.pow_zero, Nat.mul_one]
      have e0 : (-i).toNat + (i + 1074).toNat = fixE := by omega
      have e : (2 : Nat) ^ fixE = 2 ^ (-i).toNat * 2 ^ (i + 1074).toNat := by rw [← Nat.pow_add, e0]
      rw [e, Nat.mul_div_mul_right _ _ (Nat.two_pow_pos _)]
  congr 1
  rw [key]
  generalize m * 2 ^ (i + 1074).toNat = a
  generalize oneV = D
  split
  · rw [Int.neg_tdiv, Int.tdiv_eq_ediv_of_nonneg (by omega)]; push_cast; rfl
  · rw [Int.tdiv_eq_ediv_of_nonneg (by omega)]; push_cast; rfl

/-- Rungs that are a whole significand, read. -/
theorem read_rung (neg : Bool) (k q : Nat) (hq0 : 4503599627370496 ≤ q) (hq1 : q < 9007199254740992) (hk : k ≤ 2045) :
    f64.read (f64.word neg (k * 4503599627370496 + q)) = .number neg q (-1074 + (k : Int)) := by
  rw [fl_read_word f64 neg _ (by rw [sgn64]; omega), bin64, inf64, lp64, if_neg (by omega), if_pos (by omega)]
  congr 1
  · omega
  · omega
theorem read_low (neg : Bool) (q : Nat) (hq1 : q < 4503599627370496) : f64.read (f64.word neg q) = .number neg q (-1074) := by
  rw [fl_read_word f64 neg _ (by rw [sgn64]; omega), bin64, lp64, if_pos hq1]

/-- An exact multiple, cut to even, is the quotient. -/
theorem cut_exact (neg : Bool) (q d : Nat) : Toward.even.cut neg (q * 2 ^ d) d = q := by
  unfold Toward.cut
  simp only [Nat.shiftLeft_eq, Nat.one_mul]
  rcases Nat.le_total d ((q * 2 ^ d).log2 + 2) with h | h
  · rw [Nat.min_eq_left h, Nat.mul_mod_left, Nat.mul_div_cancel _ (Nat.two_pow_pos _)]
    have : 0 < 2 ^ d := Nat.two_pow_pos _
    have e : (decide (2 ^ d < 2 * 0) || 2 ^ d == 2 * 0 && q % 2 == 1) = false := by
      simp
    rw [e]; rfl
  · have hq : q = 0 := by
      rcases Nat.eq_zero_or_pos q with h0 | h0
      · exact h0
      · have h1 : q * 2 ^ d < 2 ^ ((q * 2 ^ d).log2 + 1) := Nat.lt_log2_self
        have h2 : 2 ^ ((q * 2 ^ d).log2 + 1) ≤ 2 ^ d := Nat.pow_le_pow_right (by omega) (by omega)
        have h3 : 1 * 2 ^ d ≤ q * 2 ^ d := Nat.mul_le_mul_right _ h0
        omega
    subst hq
    simp

theorem read_kept (neg : Bool) (kept : Nat) (last : Int) (h0 : -1074 ≤ last) (h1 : last ≤ 900) (hk1 : kept < 9007199254740992) (hk0 : last ≠ -1074 → 4503599627370496 ≤ kept) :
    f64.read (f64.word neg ((last - -1074).toNat * 4503599627370496 + kept)) = .number neg kept last := by
  by_cases hb2 : kept < 4503599627370496
  · have hl : last = -1074 := by
      rcases Classical.em (last = -1074) with h | h
      · exact h
      · have := hk0 h; omega
    subst hl
    have e : (((-1074 : Int) - -1074).toNat * 4503599627370496 + kept) = kept := by omega
    rw [e]
    exact read_low neg kept hb2
  · obtain ⟨k, hk⟩ : ∃ k : Nat, (last - -1074).toNat = k := ⟨_, rfl⟩
    have hl : last = -1074 + (k : Int) := by omega
    rw [hk, hl]
    exact read_rung neg k kept (by omega) hk1 (by omega)

set_option maxHeartbeats 1000000 in
/-- A number with at most 53 binary digits, not too great, is written exactly: its word has its value. -/
theorem write_exact (neg : Bool) (mag : Nat) (place : Int) (q t : Nat) (hm : mag = q * 2 ^ t) (hq : q < 9007199254740992) (hp : -1074 ≤ place) (hb : (t : Int) + place ≤ 900) :
    isNum (f64.write (.number neg mag place)) ∧ fval (f64.write (.number neg mag place)) = signed neg mag (place + 1074).toNat := by
  show isNum (f64.nearest neg mag place) ∧ fval (f64.nearest neg mag place) = _
  by_cases h0 : mag = 0
  · have e : f64.nearest neg mag place = f64.word neg 0 := by unfold Format.nearest; rw [if_pos h0]
    rw [e]
    have r := read_low neg 0 (by omega)
    refine ⟨isNum_of r, ?_⟩
    unfold fval
    rw [r, h0]
    show signed neg 0 _ = signed neg 0 _
    rw [fl_signed_zero, fl_signed_zero]
  · have hq0 : q ≠ 0 := fun e => h0 (by rw [hm, e, Nat.zero_mul])
    have hlog : mag.log2 = q.log2 + t := by
      rw [hm]
      refine (Nat.log2_eq_iff (by rw [← hm]; exact h0)).2 ⟨?_, ?_⟩
      · rw [Nat.pow_add]; exact Nat.mul_le_mul_right _ (Nat.log2_self_le hq0)
      · rw [show q.log2 + t + 1 = (q.log2 + 1) + t by omega, Nat.pow_add]; exact Nat.mul_lt_mul_of_pos_right Nat.lt_log2_self (Nat.two_pow_pos _)
    have hql : q.log2 ≤ 52 := by
      have := (Nat.log2_lt hq0).2 (show q < 2 ^ 53 from hq); omega
    -- the last place that is kept
    obtain ⟨last, hlast⟩ : ∃ last : Int, last = max (place + mag.log2 - 52) (-1074) := ⟨_, rfl⟩
    have e : f64.nearest neg mag place = f64.word neg (min ((last - -1074).toNat * 4503599627370496 + Toward.even.cut neg (mag <<< (place - last).toNat) (last - place).toNat) 9218868437227405312) := by
      unfold Format.nearest
      rw [if_neg h0]
      simp only [lp64, bin64, inf64]
      rw [hlast]; rfl
    rw [hlog] at hlast
    -- the kept digits
    obtain ⟨kept, hkept⟩ : ∃ kept, kept = Toward.even.cut neg (mag <<< (place - last).toNat) (last - place).toNat := ⟨_, rfl⟩
    have hval : kept * 2 ^ (last + 1074).toNat = mag * 2 ^ (place + 1074).toNat := by
      rw [hkept]
      rcases Int.le_total last place with h | h
      · rw [show (last - place).toNat = 0 by omega, Nat.shiftLeft_eq]
        have := cut_exact neg (mag * 2 ^ (place - last).toNat) 0
        rw [Nat.pow_zero, Nat.mul_one] at this
        rw [this, Nat.mul_assoc, ← Nat.pow_add]
        congr 2; omega
      · rw [show (place - last).toNat = 0 by omega, Nat.shiftLeft_eq, Nat.pow_zero, Nat.mul_one]
        have ht : (last - place).toNat ≤ t := by omega
        have hq' : mag = (q * 2 ^ (t - (last - place).toNat)) * 2 ^ (last - place).toNat := by
          rw [hm, Nat.mul_assoc, ← Nat.pow_add]; congr 2; omega
        have := cut_exact neg (q * 2 ^ (t - (last - place).toNat)) (last - place).toNat
        rw [← hq'] at this
        rw [this]
        rw [show (last + 1074).toNat = (last - place).toNat + (place + 1074).toNat by omega, Nat.pow_add, ← Nat.mul_assoc, ← hq']
    have hk1 : kept < 9007199254740992 := by
      have hpos : 0 < 2 ^ (last + 1074).toNat := Nat.two_pow_pos _
      have h1 : mag < 2 ^ (mag.log2 + 1) := Nat.lt_log2_self
      have h2 : mag * 2 ^ (place + 1074).toNat < 2 ^ (mag.log2 + 1) * 2 ^ (place + 1074).toNat := Nat.mul_lt_mul_of_pos_right h1 (Nat.two_pow_pos _)
      rw [← Nat.pow_add] at h2
      have h3 : 2 ^ (mag.log2 + 1 + (place + 1074).toNat) ≤ 2 ^ (53 + (last + 1074).toNat) := Nat.pow_le_pow_right (by omega) (by rw [hlog]; omega)
      rw [Nat.pow_add 2 53] at h3
      have h4 : kept * 2 ^ (last + 1074).toNat < 2 ^ 53 * 2 ^ (last + 1074).toNat := by rw [hval]; omega
      exact Nat.lt_of_mul_lt_mul_right h4
    have hk0 : last ≠ -1074 → 4503599627370496 ≤ kept := fun hne => by
      have h1 : 2 ^ mag.log2 ≤ mag := Nat.log2_self_le h0
      have h2 : 2 ^ mag.log2 * 2 ^ (place + 1074).toNat ≤ mag * 2 ^ (place + 1074).toNat := Nat.mul_le_mul_right _ h1
      rw [← Nat.pow_add, ← hval] at h2
      have h3 : 2 ^ (mag.log2 + (place + 1074).toNat) = 2 ^ 52 * 2 ^ (last + 1074).toNat := by rw [← Nat.pow_add]; congr 1; rw [hlog]; omega
      rw [h3] at h2
      exact Nat.le_of_mul_le_mul_right h2 (Nat.two_pow_pos _)
    have hlu : last ≤ 900 := by omega
    have hll : -1074 ≤ last := by omega
    rw [← hkept] at e
    have hmin : min ((last - -1074).toNat * 4503599627370496 + kept) 9218868437227405312 = (last - -1074).toNat * 4503599627370496 + kept := Nat.min_eq_left (by omega)
    rw [hmin] at e
    rw [e]
    have fin : ∀ r : f64.read (f64.word neg ((last - -1074).toNat * 4503599627370496 + kept)) = .number neg kept last,
        isNum (f64.word neg ((last - -1074).toNat * 4503599627370496 + kept)) ∧ fval (f64.word neg ((last - -1074).toNat * 4503599627370496 + kept)) = signed neg mag (place + 1074).toNat := fun r => by
      refine ⟨isNum_of r, ?_⟩
      unfold fval
      rw [r]
      show signed neg kept (last + 1074).toNat = _
      rw [signed_eq, signed_eq, hval]
    exact fin (read_kept neg kept last hll hlu hk1 hk0)
end Go.Proofs.Ytbjaedmifacgaaa
