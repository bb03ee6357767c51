/- The facts on float64 words again, for words of 32 bits (made from those by a program). Nothing here speaks of the program. -/
import Derived.Test.YtibkhmdnfloemaaFA
namespace Go.Proofs.Ytibkhmdnfloemaa.S
open Go.RowKit Ieee

abbrev f32 : Format := FloatKind.f32.format
theorem f64_eq : f32 = single := rfl
theorem lp64 : f32.leastPlace = -149 := by kernel_rfl
theorem bin64 : f32.binade = 8388608 := by kernel_rfl
theorem inf64 : f32.infRung = 2139095040 := by kernel_rfl
theorem sgn64 : f32.signWeight = 2147483648 := by kernel_rfl
/-- The value of a datum that is a number, in parts of 2 to the -149. -/
def dval : Datum → Int
  | .number s m i => signed s m (i + 149).toNat
  | _ => 0
def fval (x : Nat) : Int := dval (f32.read x)
def isNum (x : Nat) : Prop := ∃ s m i, f32.read x = .number s m i ∧ -149 ≤ i ∧ m < 16777216
theorem signed_eq (s : Bool) (m u : Nat) : signed s m u = (if s then -((m * 2 ^ u : Nat) : Int) else ((m * 2 ^ u : Nat) : Int)) := by
  unfold signed; rw [Nat.shiftLeft_eq]
theorem signed_shift (s : Bool) (m u v : Nat) : signed s m (u + v) = signed s m u * ((2 ^ v : Nat) : Int) := by
  rw [signed_eq, signed_eq, Nat.pow_add]
  split
  · push_cast; rw [Int.neg_mul, Int.mul_assoc]
  · push_cast; rw [Int.mul_assoc]
/-- Every word that reads as a number. -/
theorem read_num {x : Nat} {s : Bool} {m : Nat} {i : Int} (h : f32.read x = .number s m i) : -149 ≤ i ∧ m < 16777216 := by
  unfold Format.read at h
  simp only [lp64, bin64, inf64, sgn64] at h
  split at h
  · injection h with h1 h2 h3; omega
  · split at h
    · injection h with h1 h2 h3; omega
    · split at h <;> cases h
theorem isNum_of {x : Nat} {s : Bool} {m : Nat} {i : Int} (h : f32.read x = .number s m i) : isNum x := ⟨s, m, i, h, read_num h⟩
theorem compare_scale (a b : Int) (c : Nat) (hc : 0 < c) : compare (a * (c : Int)) (b * (c : Int)) = compare a b := by
  have hc' : (0 : Int) < (c : Int) := by omega
  rcases Int.lt_trichotomy a b with h | h | h
  · have h' : a * (c : Int) < b * (c : Int) := Int.mul_lt_mul_of_pos_right h hc'
    rw [Int.compare_eq_lt.2 h, Int.compare_eq_lt.2 h']
  · subst h; simp
  · have h' : b * (c : Int) < a * (c : Int) := Int.mul_lt_mul_of_pos_right h hc'
    rw [Int.compare_eq_gt.2 h, Int.compare_eq_gt.2 h']
/-- The order of two numbers is that of their values. -/
theorem order_val {x y : Nat} (hx : isNum x) (hy : isNum y) : f32.order x y = some (compare (fval x) (fval y)) := by
  obtain ⟨s, m, i, ex, hi, _⟩ := hx
  obtain ⟨t, n, j, ey, hj, _⟩ := hy
  unfold Format.order fval
  rw [ex, ey]
  show some (compare (signed s m (i - min i j).toNat) (signed t n (j - min i j).toNat)) = some (compare (signed s m (i + 149).toNat) (signed t n (j + 149).toNat))
  rw [show (i + 149).toNat = (i - min i j).toNat + (min i j + 149).toNat by omega, show (j + 149).toNat = (j - min i j).toNat + (min i j + 149).toNat by omega]
  rw [signed_shift, signed_shift, compare_scale _ _ _ (Nat.two_pow_pos _)]
/-- A cut towards zero is the quotient. -/
theorem cut_zero (neg : Bool) (n d : Nat) : Toward.zero.cut neg n d = n / 2 ^ d := by
  unfold Toward.cut
  simp only [Nat.shiftLeft_eq, Nat.one_mul, Bool.toNat_false, Nat.add_zero]
  rcases Nat.le_total d (n.log2 + 2) with h | h
  · rw [Nat.min_eq_left h]
  · rw [Nat.min_eq_right h]
    have h1 : n < 2 ^ (n.log2 + 1) := Nat.lt_log2_self
    have h2 : n < 2 ^ (n.log2 + 2) := Nat.lt_of_lt_of_le h1 (Nat.pow_le_pow_right (by omega) (by omega))
    have h3 : n < 2 ^ d := Nat.lt_of_lt_of_le h2 (Nat.pow_le_pow_right (by omega) h)
    rw [Nat.div_eq_of_lt h2, Nat.div_eq_of_lt h3]
/-- The value of one half and of one: 2 to the 148 and to the 149, the exponents kept from being reckoned out. -/
theorem exE : ∃ E : Nat, E = 149 := ⟨_, rfl⟩
noncomputable def fixE : Nat := exE.choose
theorem fixE_eq : fixE = 149 := exE.choose_spec
noncomputable def halfV : Nat := 2 ^ (fixE - 1)
noncomputable def oneV : Nat := 2 ^ fixE
theorem oneV_eq : oneV = 2 * halfV := by
  unfold oneV halfV
  have h : fixE = (fixE - 1) + 1 := by have := fixE_eq; omega
  generalize fixE - 1 = k at *
  rw [h, Nat.pow_succ, Nat.mul_comm]
theorem halfV_pos : 0 < halfV := Nat.two_pow_pos _
/-- A number cut towards zero, as an integer. -/
theorem toInt_val {x : Nat} (hx : isNum x) : (f32.read x).toInt .zero = some ((fval x).tdiv (oneV : Int)) := by
  obtain ⟨s, m, i, ex, hi, _⟩ := hx
  unfold fval
  rw [ex]
  show some (signed s (Toward.zero.cut s (m <<< i.toNat) (-i).toNat) 0) = _
  rw [cut_zero, Nat.shiftLeft_eq, signed_eq, Nat.pow_zero, Nat.mul_one]
  show _ = some ((signed s m (i + 149).toNat).tdiv (oneV : Int))
  rw [signed_eq]
  have key : m * 2 ^ i.toNat / 2 ^ (-i).toNat = m * 2 ^ (i + 149).toNat / oneV := by
    unfold oneV
    have hE := fixE_eq
    rcases Int.le_total 0 i with h | h
    · rw [show (-i).toNat = 0 by omega, Nat.pow_zero, Nat.div_one, show (i + 149).toNat = i.toNat + fixE by omega, Nat.pow_add, ← Nat.mul_assoc, Nat.mul_div_cancel _ (Nat.two_pow_pos _)]
    · rw [show i.toNat = 0 by omega, Nat.pow_zero, Nat.mul_one]
      have e0 : (-i).toNat + (i + 149).toNat = fixE := by omega
      have e : (2 : Nat) ^ fixE = 2 ^ (-i).toNat * 2 ^ (i + 149).toNat := by rw [← Nat.pow_add, e0]
      rw [e, Nat.mul_div_mul_right _ _ (Nat.two_pow_pos _)]
  congr 1
  rw [key]
  generalize m * 2 ^ (i + 149).toNat = a
  generalize oneV = D
  split
  · rw [Int.neg_tdiv, Int.tdiv_eq_ediv_of_nonneg (by omega)]; push_cast; rfl
  · rw [Int.tdiv_eq_ediv_of_nonneg (by omega)]; push_cast; rfl
/-- Rungs that are a whole significand, read. -/
theorem read_rung (neg : Bool) (k q : Nat) (hq0 : 8388608 ≤ q) (hq1 : q < 16777216) (hk : k ≤ 253) :
    f32.read (f32.word neg (k * 8388608 + q)) = .number neg q (-149 + (k : Int)) := by
  rw [fl_read_word f32 neg _ (by rw [sgn64]; omega), bin64, inf64, lp64, if_neg (by omega), if_pos (by omega)]
  congr 1
  · omega
  · omega
theorem read_low (neg : Bool) (q : Nat) (hq1 : q < 8388608) : f32.read (f32.word neg q) = .number neg q (-149) := by
  rw [fl_read_word f32 neg _ (by rw [sgn64]; omega), bin64, lp64, if_pos hq1]
/-- An exact multiple, cut to even, is the quotient. -/
theorem cut_exact (neg : Bool) (q d : Nat) : Toward.even.cut neg (q * 2 ^ d) d = q := by
  unfold Toward.cut
  simp only [Nat.shiftLeft_eq, Nat.one_mul]
  rcases Nat.le_total d ((q * 2 ^ d).log2 + 2) with h | h
  · rw [Nat.min_eq_left h, Nat.mul_mod_left, Nat.mul_div_cancel _ (Nat.two_pow_pos _)]
    have : 0 < 2 ^ d := Nat.two_pow_pos _
    have e : (decide (2 ^ d < 2 * 0) || 2 ^ d == 2 * 0 && q % 2 == 1) = false := by
      simp
    rw [e]; rfl
  · have hq : q = 0 := by
      rcases Nat.eq_zero_or_pos q with h0 | h0
      · exact h0
      · have h1 : q * 2 ^ d < 2 ^ ((q * 2 ^ d).log2 + 1) := Nat.lt_log2_self
        have h2 : 2 ^ ((q * 2 ^ d).log2 + 1) ≤ 2 ^ d := Nat.pow_le_pow_right (by omega) (by omega)
        have h3 : 1 * 2 ^ d ≤ q * 2 ^ d := Nat.mul_le_mul_right _ h0
        omega
    subst hq
    simp
theorem read_kept (neg : Bool) (kept : Nat) (last : Int) (h0 : -149 ≤ last) (h1 : last ≤ 100) (hk1 : kept < 16777216) (hk0 : last ≠ -149 → 8388608 ≤ kept) :
    f32.read (f32.word neg ((last - -149).toNat * 8388608 + kept)) = .number neg kept last := by
  by_cases hb2 : kept < 8388608
  · have hl : last = -149 := by
      rcases Classical.em (last = -149) with h | h
      · exact h
      · have := hk0 h; omega
    subst hl
    have e : (((-149 : Int) - -149).toNat * 8388608 + kept) = kept := by omega
    rw [e]
    exact read_low neg kept hb2
  · obtain ⟨k, hk⟩ : ∃ k : Nat, (last - -149).toNat = k := ⟨_, rfl⟩
    have hl : last = -149 + (k : Int) := by omega
    rw [hk, hl]
    exact read_rung neg k kept (by omega) hk1 (by omega)
set_option maxHeartbeats 1000000 in
/-- A number with at most 24 binary digits, not too great, is written exactly: its word has its value. -/
theorem write_exact (neg : Bool) (mag : Nat) (place : Int) (q t : Nat) (hm : mag = q * 2 ^ t) (hq : q < 16777216) (hp : -149 ≤ place) (hb : (t : Int) + place ≤ 100) :
    isNum (f32.write (.number neg mag place)) ∧ fval (f32.write (.number neg mag place)) = signed neg mag (place + 149).toNat := by
  show isNum (f32.nearest neg mag place) ∧ fval (f32.nearest neg mag place) = _
  by_cases h0 : mag = 0
  · have e : f32.nearest neg mag place = f32.word neg 0 := by unfold Format.nearest; rw [if_pos h0]
    rw [e]
    have r := read_low neg 0 (by omega)
    refine ⟨isNum_of r, ?_⟩
    unfold fval
    rw [r, h0]
    show signed neg 0 _ = signed neg 0 _
    rw [fl_signed_zero, fl_signed_zero]
  · have hq0 : q ≠ 0 := fun e => h0 (by rw [hm, e, Nat.zero_mul])
    have hlog : mag.log2 = q.log2 + t := by
      rw [hm]
      refine (Nat.log2_eq_iff (by rw [← hm]; exact h0)).2 ⟨?_, ?_⟩
      · rw [Nat.pow_add]; exact Nat.mul_le_mul_right _ (Nat.log2_self_le hq0)
      · rw [show q.log2 + t + 1 = (q.log2 + 1) + t by omega, Nat.pow_add]; exact Nat.mul_lt_mul_of_pos_right Nat.lt_log2_self (Nat.two_pow_pos _)
    have hql : q.log2 ≤ 23 := by
      have := (Nat.log2_lt hq0).2 (show q < 2 ^ 24 from hq); omega
    -- the last place that is kept
    obtain ⟨last, hlast⟩ : ∃ last : Int, last = max (place + mag.log2 - 23) (-149) := ⟨_, rfl⟩
    have e : f32.nearest neg mag place = f32.word neg (min ((last - -149).toNat * 8388608 + Toward.even.cut neg (mag <<< (place - last).toNat) (last - place).toNat) 2139095040) := by
      unfold Format.nearest
      rw [if_neg h0]
      simp only [lp64, bin64, inf64]
      rw [hlast]; rfl
    rw [hlog] at hlast
    -- the kept digits
    obtain ⟨kept, hkept⟩ : ∃ kept, kept = Toward.even.cut neg (mag <<< (place - last).toNat) (last - place).toNat := ⟨_, rfl⟩
    have hval : kept * 2 ^ (last + 149).toNat = mag * 2 ^ (place + 149).toNat := by
      rw [hkept]
      rcases Int.le_total last place with h | h
      · rw [show (last - place).toNat = 0 by omega, Nat.shiftLeft_eq]
        have := cut_exact neg (mag * 2 ^ (place - last).toNat) 0
        rw [Nat.pow_zero, Nat.mul_one] at this
        rw [this, Nat.mul_assoc, ← Nat.pow_add]
        congr 2; omega
      · rw [show (place - last).toNat = 0 by omega, Nat.shiftLeft_eq, Nat.pow_zero, Nat.mul_one]
        have ht : (last - place).toNat ≤ t := by omega
        have hq' : mag = (q * 2 ^ (t - (last - place).toNat)) * 2 ^ (last - place).toNat := by
          rw [hm, Nat.mul_assoc, ← Nat.pow_add]; congr 2; omega
        have := cut_exact neg (q * 2 ^ (t - (last - place).toNat)) (last - place).toNat
        rw [← hq'] at this
        rw [this]
        rw [show (last + 149).toNat = (last - place).toNat + (place + 149).toNat by omega, Nat.pow_add, ← Nat.mul_assoc, ← hq']
    have hk1 : kept < 16777216 := by
      have hpos : 0 < 2 ^ (last + 149).toNat := Nat.two_pow_pos _
      have h1 : mag < 2 ^ (mag.log2 + 1) := Nat.lt_log2_self
      have h2 : mag * 2 ^ (place + 149).toNat < 2 ^ (mag.log2 + 1) * 2 ^ (place + 149).toNat := Nat.mul_lt_mul_of_pos_right h1 (Nat.two_pow_pos _)
      rw [← Nat.pow_add] at h2
      have h3 : 2 ^ (mag.log2 + 1 + (place + 149).toNat) ≤ 2 ^ (24 + (last + 149).toNat) := Nat.pow_le_pow_right (by omega) (by rw [hlog]; omega)
      rw [Nat.pow_add 2 24] at h3
      have h4 : kept * 2 ^ (last + 149).toNat < 2 ^ 24 * 2 ^ (last + 149).toNat := by rw [hval]; omega
      exact Nat.lt_of_mul_lt_mul_right h4
    have hk0 : last ≠ -149 → 8388608 ≤ kept := fun hne => by
      have h1 : 2 ^ mag.log2 ≤ mag := Nat.log2_self_le h0
      have h2 : 2 ^ mag.log2 * 2 ^ (place + 149).toNat ≤ mag * 2 ^ (place + 149).toNat := Nat.mul_le_mul_right _ h1
      rw [← Nat.pow_add, ← hval] at h2
      have h3 : 2 ^ (mag.log2 + (place + 149).toNat) = 2 ^ 23 * 2 ^ (last + 149).toNat := by rw [← Nat.pow_add]; congr 1; rw [hlog]; omega
      rw [h3] at h2
      exact Nat.le_of_mul_le_mul_right h2 (Nat.two_pow_pos _)
    have hlu : last ≤ 100 := by omega
    have hll : -149 ≤ last := by omega
    rw [← hkept] at e
    have hmin : min ((last - -149).toNat * 8388608 + kept) 2139095040 = (last - -149).toNat * 8388608 + kept := Nat.min_eq_left (by omega)
    rw [hmin] at e
    rw [e]
    have fin : ∀ r : f32.read (f32.word neg ((last - -149).toNat * 8388608 + kept)) = .number neg kept last,
        isNum (f32.word neg ((last - -149).toNat * 8388608 + kept)) ∧ fval (f32.word neg ((last - -149).toNat * 8388608 + kept)) = signed neg mag (place + 149).toNat := fun r => by
      refine ⟨isNum_of r, ?_⟩
      unfold fval
      rw [r]
      show signed neg kept (last + 149).toNat = _
      rw [signed_eq, signed_eq, hval]
    exact fin (read_kept neg kept last hll hlu hk1 hk0)
/-- The exponent field of a word; its sign bit, at its place. -/
def expo (x : Nat) : Nat := x / 8388608 % 256
def sgb (x : Nat) : Nat := x / 2147483648 * 2147483648
def sneg (x : Nat) : Bool := x / 2147483648 == 1
def rung (x : Nat) : Nat := x % 2147483648
theorem expo_rung (x : Nat) (_ : x < 4294967296) : expo x = rung x / 8388608 := by unfold expo rung; omega
theorem word_sneg (x r : Nat) (hx : x < 4294967296) : f32.word (sneg x) r = sgb x + r := by
  unfold Format.word sneg sgb
  rw [sgn64]
  by_cases h : x / 2147483648 = 1
  · rw [h]; rfl
  · have h0 : x / 2147483648 = 0 := by omega
    rw [h0]; simp
theorem word_self (x : Nat) (hx : x < 4294967296) : f32.word (sneg x) (rung x) = x := by
  rw [word_sneg x _ hx]; unfold sgb rung; omega
/-- A finite word, taken apart. -/
theorem num_form (x : Nat) (hx : x < 4294967296) (hE : expo x < 255) :
    ∃ S P : Nat, f32.read x = .number (sneg x) S (-149 + (P : Int)) ∧ S < 16777216 ∧
      ((expo x = 0 ∧ P = 0 ∧ S = rung x) ∨ (expo x = P + 1 ∧ 8388608 ≤ S ∧ rung x = P * 8388608 + S)) := by
  have hw := word_self x hx
  have he := expo_rung x hx
  by_cases h0 : expo x = 0
  · have hr : rung x < 8388608 := by omega
    refine ⟨rung x, 0, ?_, by omega, .inl ⟨h0, rfl, rfl⟩⟩
    have := read_low (sneg x) (rung x) hr
    rw [hw] at this
    exact this
  · refine ⟨8388608 + rung x % 8388608, expo x - 1, ?_, by omega, .inr ⟨by omega, by omega, by omega⟩⟩
    have := read_rung (sneg x) (expo x - 1) (8388608 + rung x % 8388608) (by omega) (by omega) (by omega)
    rw [show (expo x - 1) * 8388608 + (8388608 + rung x % 8388608) = rung x by omega, hw] at this
    exact this
theorem expo_of_num {x : Nat} (hx : x < 4294967296) (h : isNum x) : expo x < 255 := by
  obtain ⟨s, m, i, e, _⟩ := h
  rcases Nat.lt_or_ge (expo x) 255 with hl | hl
  · exact hl
  · have he := expo_rung x hx
    rw [← word_self x hx, fl_read_word f32 _ _ (by rw [sgn64]; unfold rung; omega), bin64, inf64, if_neg (by omega), if_neg (by omega)] at e
    split at e <;> cases e
/-- The amount of a number's value. -/
theorem val_amount (s : Bool) (m u : Nat) : (signed s m u).natAbs = m * 2 ^ u ∧ (signed s m u = ((m * 2 ^ u : Nat) : Int) ∨ signed s m u = -((m * 2 ^ u : Nat) : Int)) := by
  rw [signed_eq]
  split
  · exact ⟨by rw [Int.natAbs_neg]; rfl, Or.inr rfl⟩
  · exact ⟨rfl, Or.inl rfl⟩
/-- A whole number up to 2 to the 24, as a float. -/
theorem ofInt_val (n : Int) (h0 : -16777216 < n) (h1 : n < 16777216) : isNum (floatOfInt .f32 n) ∧ fval (floatOfInt .f32 n) = n * (oneV : Int) := by
  have hf := fixE_eq
  obtain ⟨a, b⟩ := write_exact (n < 0) n.natAbs 0 n.natAbs 0 (by rw [Nat.pow_zero, Nat.mul_one]) (by omega) (by omega) (by omega)
  refine ⟨a, ?_⟩
  show fval (f32.write (.number (n < 0) n.natAbs 0)) = _
  rw [b, show ((0 : Int) + 149).toNat = fixE by omega, signed_eq]
  show (if (decide (n < 0)) = true then -((n.natAbs * oneV : Nat) : Int) else ((n.natAbs * oneV : Nat) : Int)) = _
  by_cases h : n < 0
  · rw [if_pos (by simpa using h)]
    push_cast
    rw [show ((n.natAbs : Nat) : Int) = -n by omega, Int.neg_mul, Int.neg_neg]
  · rw [if_neg (by simpa using h)]
    push_cast
    rw [show ((n.natAbs : Nat) : Int) = n by omega]
theorem signed_not (t : Bool) (k u : Nat) : signed (!t) k u = -signed t k u := by
  rw [signed_eq, signed_eq]; cases t <;> simp
theorem num_of_expo {x : Nat} (hx : x < 4294967296) (hE : expo x < 255) : isNum x := by
  obtain ⟨S, P, hr, _⟩ := num_form x hx hE
  exact isNum_of hr
theorem expo_le (x : Nat) : expo x ≤ 255 := by unfold expo; omega
/-- A word whose exponent field is full: an infinity or no number. -/
theorem read_full {x : Nat} (hx : x < 4294967296) (hE : expo x = 255) : f32.read x = .infinity (sneg x) ∨ ∃ b, f32.read x = .nan (sneg x) b := by
  have he := expo_rung x hx
  have e := fl_read_word f32 (sneg x) (rung x) (by rw [sgn64]; unfold rung; omega)
  rw [word_self x hx, bin64, inf64, if_neg (by omega), if_neg (by omega)] at e
  split at e
  · exact .inl e
  · exact .inr ⟨_, e⟩
theorem order_nan {x : Nat} {a : Bool} {b : Nat} (h : f32.read x = .nan a b) (y : Nat) : f32.order x y = none := by
  unfold Format.order; rw [h]; cases f32.read y <;> rfl
theorem order_inf {x : Nat} {a : Bool} (h : f32.read x = .infinity a) {y : Nat} (hy : isNum y) : f32.order x y = some (if a then .lt else .gt) := by
  obtain ⟨s, m, i, e, _⟩ := hy
  unfold Format.order; rw [h, e]; cases a <;> rfl
theorem abs_rung (x : Nat) : f32.word false (x % 2147483648) = x % 2147483648 := by
  unfold Format.word; simp
theorem abs_num {x : Nat} (hx : x < 4294967296) (h : isNum x) : isNum (x % 2147483648) ∧ fval (x % 2147483648) = ((fval x).natAbs : Int) := by
  have hE := expo_of_num hx h
  obtain ⟨S, P, hr, hS, hc⟩ := num_form x hx hE
  have hr' : f32.read (x % 2147483648) = .number false S (-149 + (P : Int)) := by
    rw [← abs_rung x]
    rcases hc with ⟨_, h1, h2⟩ | ⟨h1, h2, h3⟩
    · have hl : rung x < 8388608 := by have := expo_rung x hx; omega
      have := read_low false (rung x) hl
      rw [h1, h2]; exact this
    · have := read_rung false P S h2 hS (by omega)
      rw [← h3] at this
      exact this
  refine ⟨isNum_of hr', ?_⟩
  unfold fval
  rw [hr, hr']
  show signed false S _ = ((signed (sneg x) S _).natAbs : Int)
  rw [(val_amount (sneg x) S _).1, signed_eq]
  rfl
theorem abs_full {x : Nat} (hE : expo x = 255) : f32.read (x % 2147483648) = .infinity false ∨ ∃ b, f32.read (x % 2147483648) = .nan false b := by
  have h := read_full (x := x % 2147483648) (by omega) (by unfold expo at *; omega)
  have hs : sneg (x % 2147483648) = false := by unfold sneg; rw [show x % 2147483648 / 2147483648 = 0 by omega]; rfl
  rw [hs] at h
  exact h
/-- A number cut to even is within one half. -/
theorem cut_near (neg : Bool) (n d : Nat) :
    2 * (Toward.even.cut neg n d * 2 ^ d) ≤ 2 * n + 2 ^ d ∧ 2 * n ≤ 2 * (Toward.even.cut neg n d * 2 ^ d) + 2 ^ d ∧ n / 2 ^ d ≤ Toward.even.cut neg n d ∧ Toward.even.cut neg n d ≤ n / 2 ^ d + 1 := by
  unfold Toward.cut
  simp only [Nat.shiftLeft_eq, Nat.one_mul]
  have hpd : 0 < 2 ^ d := Nat.two_pow_pos _
  rcases Nat.le_total d (n.log2 + 2) with h | h
  · rw [Nat.min_eq_left h]
    have hdm := Nat.div_add_mod n (2 ^ d)
    have hm := Nat.mod_lt n hpd
    rw [Nat.mul_comm] at hdm
    generalize n / 2 ^ d = q at *
    generalize n % 2 ^ d = r at *
    generalize 2 ^ d = g at *
    cases hb : (decide (g < 2 * r) || (g == 2 * r && q % 2 == 1))
    · simp only [Bool.or_eq_false_iff, decide_eq_false_iff_not] at hb
      simp only [Bool.toNat_false, Nat.add_zero]
      have := hb.1
      omega
    · have h2 : g ≤ 2 * r := by
        simp only [Bool.or_eq_true, decide_eq_true_eq, Bool.and_eq_true, beq_iff_eq] at hb
        omega
      simp only [Bool.toNat_true, Nat.add_mul, Nat.one_mul]
      omega
  · rw [Nat.min_eq_right h]
    have h1 : n < 2 ^ (n.log2 + 1) := Nat.lt_log2_self
    have e1 : 2 ^ (n.log2 + 2) = 2 * 2 ^ (n.log2 + 1) := by rw [show n.log2 + 2 = (n.log2 + 1) + 1 by omega, Nat.pow_succ, Nat.mul_comm]
    have h3 : 2 ^ (n.log2 + 2) ≤ 2 ^ d := Nat.pow_le_pow_right (by omega) h
    rw [Nat.div_eq_of_lt (by omega), Nat.mod_eq_of_lt (by omega), Nat.div_eq_of_lt (show n < 2 ^ d by omega)]
    generalize 2 ^ (n.log2 + 2) = g at *
    generalize 2 ^ d = g2 at *
    have hb : (decide (g < 2 * n) || (g == 2 * n && 0 % 2 == 1)) = false := by simp; omega
    rw [hb]
    simp only [Bool.toNat_false, Nat.add_zero, Nat.zero_mul]
    omega
theorem read_carry (neg : Bool) (k : Nat) (hk : k ≤ 252) : f32.read (f32.word neg (k * 8388608 + 16777216)) = .number neg 8388608 (-149 + ((k + 1 : Nat) : Int)) := by
  rw [show k * 8388608 + 16777216 = (k + 1) * 8388608 + 8388608 by omega]
  exact read_rung neg (k + 1) 8388608 (by omega) (by omega) (by omega)
set_option maxHeartbeats 1000000 in
/-- A number below 2 to the (K - 149) is written to within 2 to the (K - 25 - 149). -/
theorem write_near (neg : Bool) (mag : Nat) (place : Int) (K : Nat) (hp : -149 ≤ place) (hK0 : 25 ≤ K) (hK1 : K ≤ 270) (hA : mag * 2 ^ (place + 149).toNat < 2 ^ K) (E : Nat) (hE : E = 2 ^ (K - 25)) :
    isNum (f32.write (.number neg mag place)) ∧ ∃ B : Nat, fval (f32.write (.number neg mag place)) = (if neg then -(B : Int) else (B : Int)) ∧
      B ≤ mag * 2 ^ (place + 149).toNat + E ∧ mag * 2 ^ (place + 149).toNat ≤ B + E := by
  show isNum (f32.nearest neg mag place) ∧ ∃ B : Nat, fval (f32.nearest neg mag place) = _ ∧ _
  by_cases h0 : mag = 0
  · have e : f32.nearest neg mag place = f32.word neg 0 := by unfold Format.nearest; rw [if_pos h0]
    rw [e]
    have r := read_low neg 0 (by omega)
    refine ⟨isNum_of r, 0, ?_, by omega, by rw [h0]; omega⟩
    unfold fval
    rw [r]
    show signed neg 0 _ = _
    rw [fl_signed_zero]
    cases neg <;> rfl
  · obtain ⟨last, hlast⟩ : ∃ last : Int, last = max (place + mag.log2 - 23) (-149) := ⟨_, rfl⟩
    have e : f32.nearest neg mag place = f32.word neg (min ((last - -149).toNat * 8388608 + Toward.even.cut neg (mag <<< (place - last).toNat) (last - place).toNat) 2139095040) := by
      unfold Format.nearest
      rw [if_neg h0]
      simp only [lp64, bin64, inf64]
      rw [hlast]; rfl
    have hlow : 2 ^ mag.log2 ≤ mag := Nat.log2_self_le h0
    have hhigh : mag < 2 ^ (mag.log2 + 1) := Nat.lt_log2_self
    have hlK : mag.log2 + (place + 149).toNat < K := by
      have h1 : 2 ^ mag.log2 * 2 ^ (place + 149).toNat ≤ mag * 2 ^ (place + 149).toNat := Nat.mul_le_mul_right _ hlow
      rw [← Nat.pow_add] at h1
      exact (Nat.pow_lt_pow_iff_right (by omega : 1 < 2)).1 (Nat.lt_of_le_of_lt h1 hA)
    obtain ⟨kept, hkept⟩ : ∃ kept, kept = Toward.even.cut neg (mag <<< (place - last).toNat) (last - place).toNat := ⟨_, rfl⟩
    rw [← hkept] at e
    rw [Nat.shiftLeft_eq] at hkept
    obtain ⟨c1, c2, c3, c4⟩ := cut_near neg (mag * 2 ^ (place - last).toNat) (last - place).toNat
    rw [← hkept] at c1 c2 c3 c4
    -- the value kept is near
    have hnear : kept * 2 ^ (last + 149).toNat ≤ mag * 2 ^ (place + 149).toNat + E ∧ mag * 2 ^ (place + 149).toNat ≤ kept * 2 ^ (last + 149).toNat + E := by
      rcases Int.le_total last place with h | h
      · have hk : kept = mag * 2 ^ (place - last).toNat := by
          rw [show (last - place).toNat = 0 by omega, Nat.pow_zero] at c1 c2
          omega
        have : kept * 2 ^ (last + 149).toNat = mag * 2 ^ (place + 149).toNat := by
          rw [hk, Nat.mul_assoc, ← Nat.pow_add]; congr 2; omega
        rw [this]; omega
      · rw [show (place - last).toNat = 0 by omega, Nat.pow_zero, Nat.mul_one] at c1 c2
        have e2 : (last + 149).toNat = (last - place).toNat + (place + 149).toNat := by omega
        have s1 := Nat.mul_le_mul_right (2 ^ (place + 149).toNat) c1
        have s2 := Nat.mul_le_mul_right (2 ^ (place + 149).toNat) c2
        have e3 : kept * 2 ^ (last + 149).toNat = kept * 2 ^ (last - place).toNat * 2 ^ (place + 149).toNat := by rw [e2, Nat.pow_add, ← Nat.mul_assoc]
        have e4 : 2 ^ (last - place).toNat * 2 ^ (place + 149).toNat = 2 ^ (last + 149).toNat := by rw [e2, Nat.pow_add]
        simp only [Nat.add_mul, Nat.mul_assoc] at s1 s2
        rw [← Nat.mul_assoc kept, ← e3, e4] at s1 s2
        rcases Nat.eq_zero_or_pos (last + 149).toNat with hz | hz
        · have hd : (last - place).toNat = 0 := by omega
          rw [hd, Nat.pow_zero] at c1 c2
          have hk : kept = mag := by omega
          have hp0 : (place + 149).toNat = 0 := by omega
          rw [hz, hp0, hk]; omega
        · have e5 : 2 ^ (last + 149).toNat = 2 * 2 ^ ((last + 149).toNat - 1) := by
            rw [show (last + 149).toNat = ((last + 149).toNat - 1) + 1 by omega, Nat.pow_succ, Nat.mul_comm]; rfl
          have e6 : 2 ^ ((last + 149).toNat - 1) ≤ E := by rw [hE]; exact Nat.pow_le_pow_right (by omega) (by omega)
          clear hE hkept c1 c2 c3 c4 e hlow hhigh hA hlast e2 e3 e4
          generalize kept * 2 ^ (last + 149).toNat = X at *
          generalize mag * 2 ^ (place + 149).toNat = Y at *
          rw [e5] at s1 s2
          generalize 2 ^ ((last + 149).toNat - 1) = Z at *
          omega
    have hk1 : kept ≤ 16777216 := by
      have hq : mag * 2 ^ (place - last).toNat / 2 ^ (last - place).toNat < 16777216 := by
        rw [Nat.div_lt_iff_lt_mul (Nat.two_pow_pos _)]
        have e53 : (16777216 : Nat) = 2 ^ 24 := rfl
        rw [e53, ← Nat.pow_add]
        have h1 : mag * 2 ^ (place - last).toNat < 2 ^ (mag.log2 + 1) * 2 ^ (place - last).toNat := Nat.mul_lt_mul_of_pos_right hhigh (Nat.two_pow_pos _)
        rw [← Nat.pow_add] at h1
        exact Nat.lt_of_lt_of_le h1 (Nat.pow_le_pow_right (by omega) (by omega))
      omega
    have hk0 : last ≠ -149 → 8388608 ≤ kept := fun hne => by
      refine Nat.le_trans ?_ c3
      rw [Nat.le_div_iff_mul_le (Nat.two_pow_pos _)]
      have e52 : (8388608 : Nat) = 2 ^ 23 := rfl
      rw [e52, ← Nat.pow_add]
      have h1 : 2 ^ mag.log2 * 2 ^ (place - last).toNat ≤ mag * 2 ^ (place - last).toNat := Nat.mul_le_mul_right _ hlow
      rw [← Nat.pow_add] at h1
      exact Nat.le_trans (Nat.pow_le_pow_right (by omega) (by omega)) h1
    have hlu : last ≤ 100 := by omega
    have hll : -149 ≤ last := by omega
    have hmin : min ((last - -149).toNat * 8388608 + kept) 2139095040 = (last - -149).toNat * 8388608 + kept := Nat.min_eq_left (by omega)
    rw [hmin] at e
    have fin : ∀ (y q : Nat) (l : Int), f32.read y = .number neg q l → q * 2 ^ (l + 149).toNat = kept * 2 ^ (last + 149).toNat → isNum y ∧ ∃ B : Nat, fval y = (if neg then -(B : Int) else (B : Int)) ∧ B ≤ mag * 2 ^ (place + 149).toNat + E ∧ mag * 2 ^ (place + 149).toNat ≤ B + E := fun y q l r hv => by
      refine ⟨isNum_of r, kept * 2 ^ (last + 149).toNat, ?_, hnear.1, hnear.2⟩
      unfold fval
      rw [r]
      show signed neg q (l + 149).toNat = _
      rw [signed_eq, hv]
    rw [e]
    by_cases hc : kept = 16777216
    · have r := read_carry neg (last - -149).toNat (by omega)
      rw [hc]
      refine fin _ _ _ r ?_
      rw [hc, show (-149 + (((last - -149).toNat + 1 : Nat) : Int) + 149).toNat = (last + 149).toNat + 1 by omega, Nat.pow_succ, Nat.mul_comm (2 ^ _) 2, ← Nat.mul_assoc]
    · exact fin _ _ _ (read_kept neg kept last hll hlu (Nat.lt_of_le_of_ne hk1 hc) hk0) rfl
/-- R is what N / D is rounded to: on the same side of every number of 24 digits, and of every middle between two of them. -/
def Near (R N D : Nat) : Prop :=
  ∀ q k : Nat, q ≤ 16777216 → (q * 2 ^ k * D ≤ N → q * 2 ^ k ≤ R) ∧ (N ≤ q * 2 ^ k * D → R ≤ q * 2 ^ k) ∧
    (8388608 ≤ q → q < 16777216 → 2 * N < (2 * q + 1) * 2 ^ k * D → R ≤ q * 2 ^ k)
theorem cut_sides (neg : Bool) (n d G : Nat) : (n ≤ G * 2 ^ d → Toward.even.cut neg n d ≤ G) ∧ (G * 2 ^ d ≤ n → G ≤ Toward.even.cut neg n d) ∧ (2 * n < (2 * G + 1) * 2 ^ d → Toward.even.cut neg n d ≤ G) := by
  obtain ⟨c1, c2, c3, c4⟩ := cut_near neg n d
  have hp : 0 < 2 ^ d := Nat.two_pow_pos _
  refine ⟨fun h => ?_, fun h => Nat.le_trans ((Nat.le_div_iff_mul_le hp).2 h) c3, fun h => ?_⟩
  · rcases Nat.lt_or_ge (n / 2 ^ d) G with h1 | h1
    · omega
    · have h2 : G * 2 ^ d ≤ n := (Nat.le_div_iff_mul_le hp).1 h1
      have h3 : n = G * 2 ^ d := Nat.le_antisymm h h2
      rw [h3, cut_exact]
      exact Nat.le_refl _
  · generalize Toward.even.cut neg n d = K at *
    rcases Nat.lt_or_ge G K with h1 | h1
    · have h2 : (G + 1) * 2 ^ d ≤ K * 2 ^ d := Nat.mul_le_mul_right _ h1
      rw [Nat.add_mul, Nat.one_mul] at h2
      rw [Nat.add_mul, Nat.one_mul, Nat.mul_assoc] at h
      generalize 2 ^ d = g at *
      generalize K * g = a at *
      generalize G * g = b at *
      omega
    · exact h1
/-- A kept significand at its place, read. -/
theorem kept_word (neg : Bool) (kept : Nat) (last : Int) (hll : -149 ≤ last) (hlu : last ≤ 100) (hk1 : kept ≤ 16777216) (hk0 : last ≠ -149 → 8388608 ≤ kept) :
    ∃ p l, f32.read (f32.word neg (min ((last - -149).toNat * 8388608 + kept) 2139095040)) = .number neg p l ∧ p * 2 ^ (l + 149).toNat = kept * 2 ^ (last + 149).toNat := by
  have hmin : min ((last - -149).toNat * 8388608 + kept) 2139095040 = (last - -149).toNat * 8388608 + kept := Nat.min_eq_left (by omega)
  rw [hmin]
  by_cases hc : kept = 16777216
  · have r := read_carry neg (last - -149).toNat (by omega)
    refine ⟨_, _, by rw [hc]; exact r, ?_⟩
    rw [hc, show (-149 + (((last - -149).toNat + 1 : Nat) : Int) + 149).toNat = (last + 149).toNat + 1 by omega, Nat.pow_succ, Nat.mul_comm (2 ^ _) 2, ← Nat.mul_assoc]
  · exact ⟨_, _, read_kept neg kept last hll (by omega) (Nat.lt_of_le_of_ne hk1 hc) hk0, rfl⟩
set_option maxHeartbeats 1000000 in
theorem near_core (neg : Bool) (mag : Nat) (place : Int) (V P : Nat) (hP : place + 149 + (V : Int) = (P : Int)) (hb : mag * 2 ^ P < 2 ^ (270 + V)) :
    isNum (f32.nearest neg mag place) ∧ ∃ R : Nat, fval (f32.nearest neg mag place) = (if neg then -(R : Int) else (R : Int)) ∧ Near R (mag * 2 ^ P) (2 ^ V) := by
  by_cases h0 : mag = 0
  · have e : f32.nearest neg mag place = f32.word neg 0 := by unfold Format.nearest; rw [if_pos h0]
    rw [e]
    have r := read_low neg 0 (by omega)
    refine ⟨isNum_of r, 0, ?_, ?_⟩
    · unfold fval
      rw [r]
      show signed neg 0 _ = _
      rw [fl_signed_zero]
      cases neg <;> rfl
    · intro q k hq
      rw [h0, Nat.zero_mul]
      refine ⟨fun h => ?_, fun _ => Nat.zero_le _, fun _ _ _ => Nat.zero_le _⟩
      have h1 := Nat.le_zero.1 h
      rcases Nat.mul_eq_zero.1 h1 with h2 | h2
      · omega
      · exact absurd h2 (Nat.pos_iff_ne_zero.1 (Nat.two_pow_pos _))
  · obtain ⟨last, hlast⟩ : ∃ last : Int, last = max (place + mag.log2 - 23) (-149) := ⟨_, rfl⟩
    have e : f32.nearest neg mag place = f32.word neg (min ((last - -149).toNat * 8388608 + Toward.even.cut neg (mag <<< (place - last).toNat) (last - place).toNat) 2139095040) := by
      unfold Format.nearest
      rw [if_neg h0]
      simp only [lp64, bin64, inf64]
      rw [hlast]; rfl
    have hlow : 2 ^ mag.log2 ≤ mag := Nat.log2_self_le h0
    have hhigh : mag < 2 ^ (mag.log2 + 1) := Nat.lt_log2_self
    have hlK : mag.log2 + P < 270 + V := by
      have h1 : 2 ^ mag.log2 * 2 ^ P ≤ mag * 2 ^ P := Nat.mul_le_mul_right _ hlow
      rw [← Nat.pow_add] at h1
      exact (Nat.pow_lt_pow_iff_right (by omega : 1 < 2)).1 (Nat.lt_of_le_of_lt h1 hb)
    clear hb
    obtain ⟨kept, hkept⟩ : ∃ kept, kept = Toward.even.cut neg (mag <<< (place - last).toNat) (last - place).toNat := ⟨_, rfl⟩
    rw [← hkept] at e
    rw [Nat.shiftLeft_eq] at hkept
    obtain ⟨a, ha⟩ : ∃ a, a = (place - last).toNat := ⟨_, rfl⟩
    obtain ⟨b, hb'⟩ : ∃ b, b = (last - place).toNat := ⟨_, rfl⟩
    obtain ⟨L, hL⟩ : ∃ L, L = (last + 149).toNat := ⟨_, rfl⟩
    rw [← ha, ← hb'] at hkept
    have hPb : P + b = (L + V) + a := by omega
    have hsides := fun G => cut_sides neg (mag * 2 ^ a) b G
    rw [← hkept] at hsides
    have c3 := (cut_near neg (mag * 2 ^ a) b).2.2.1
    have c4 := (cut_near neg (mag * 2 ^ a) b).2.2.2
    rw [← hkept] at c3 c4
    -- the sides, in terms of the exact value
    have hpb : 0 < 2 ^ b := Nat.two_pow_pos _
    have hpl : 0 < 2 ^ (L + V) := Nat.two_pow_pos _
    have hA : mag * 2 ^ a * 2 ^ (L + V) = mag * 2 ^ P * 2 ^ b := by
      rw [Nat.mul_assoc, Nat.mul_assoc, ← Nat.pow_add, ← Nat.pow_add, hPb, Nat.add_comm a]
    obtain ⟨A, hAe⟩ : ∃ A, A = mag * 2 ^ P := ⟨_, rfl⟩
    rw [← hAe] at hA
    have X : ∀ G, (A ≤ G * 2 ^ (L + V) → kept ≤ G) ∧ (G * 2 ^ (L + V) ≤ A → G ≤ kept) ∧ (2 * A < (2 * G + 1) * 2 ^ (L + V) → kept ≤ G) := fun G => by
      obtain ⟨s1, s2, s3⟩ := hsides G
      refine ⟨fun h => s1 ?_, fun h => s2 ?_, fun h => s3 ?_⟩
      · refine Nat.le_of_mul_le_mul_right ?_ hpl
        rw [hA]
        have := Nat.mul_le_mul_right (2 ^ b) h
        rw [Nat.mul_right_comm] at this
        exact this
      · refine Nat.le_of_mul_le_mul_right ?_ hpl
        rw [hA, Nat.mul_right_comm]
        exact Nat.mul_le_mul_right (2 ^ b) h
      · refine Nat.lt_of_mul_lt_mul_right (a := 2 ^ (L + V)) ?_
        rw [Nat.mul_assoc, hA, Nat.mul_right_comm, ← Nat.mul_assoc]
        exact Nat.mul_lt_mul_of_pos_right h hpb
    have hup : A < 2 ^ 24 * 2 ^ (L + V) := by
      rw [hAe]
      have h1 : mag * 2 ^ P < 2 ^ (mag.log2 + 1) * 2 ^ P := Nat.mul_lt_mul_of_pos_right hhigh (Nat.two_pow_pos _)
      refine Nat.lt_of_lt_of_le h1 ?_
      rw [← Nat.pow_add, ← Nat.pow_add]
      exact Nat.pow_le_pow_right (by omega) (by omega)
    have hdn : L ≠ 0 → 2 ^ 23 * 2 ^ (L + V) ≤ A := fun hne => by
      rw [hAe]
      refine Nat.le_trans ?_ (Nat.mul_le_mul_right _ hlow)
      rw [← Nat.pow_add, ← Nat.pow_add]
      exact Nat.pow_le_pow_right (by omega) (by omega)
    have e53 : (16777216 : Nat) = 2 ^ 24 := rfl
    have e52 : (8388608 : Nat) = 2 ^ 23 := rfl
    have hk1 : kept ≤ 16777216 := (X _).1 (by rw [e53]; exact Nat.le_of_lt hup)
    have hk0 : L ≠ 0 → 8388608 ≤ kept := fun hne => (X _).2.1 (by rw [e52]; exact hdn hne)
    have hk0' : last ≠ -149 → 8388608 ≤ kept := fun hne => hk0 (by omega)
    have hlu : last ≤ 100 := by clear hup hlow hhigh hk1 hk0 hk0' e53 e52 hA hAe; omega
    have hll : -149 ≤ last := by omega
    have hnear : Near (kept * 2 ^ L) A (2 ^ V) := by
      intro q k hq
      have hpv : 0 < 2 ^ V := Nat.two_pow_pos _
      rcases Nat.lt_or_ge k L with hkL | hkL
      · -- a finer number: it lies at or below the least one of the binade
        have hg : q * 2 ^ k ≤ 2 ^ 23 * 2 ^ L := by
          refine Nat.le_trans (Nat.mul_le_mul_right _ hq) ?_
          rw [e53, ← Nat.pow_add, ← Nat.pow_add]
          exact Nat.pow_le_pow_right (by omega) (by omega)
        have hlo := hdn (by omega)
        have hkk := hk0 (by omega)
        rw [Nat.pow_add, ← Nat.mul_assoc] at hlo
        refine ⟨fun _ => Nat.le_trans hg (Nat.mul_le_mul_right _ hkk), fun h => ?_, fun _ hq2 h => ?_⟩
        · have h1 : 2 ^ 23 * 2 ^ L ≤ q * 2 ^ k := Nat.le_of_mul_le_mul_right (Nat.le_trans hlo h) hpv
          have h2 : A ≤ 2 ^ 23 * 2 ^ (L + V) := by
            rw [Nat.pow_add, ← Nat.mul_assoc]
            exact Nat.le_trans h (Nat.mul_le_mul_right _ hg)
          have h3 := (X _).1 h2
          exact Nat.le_trans (Nat.mul_le_mul_right _ h3) h1
        · exfalso
          have h1 : (2 * q + 1) * 2 ^ k ≤ 2 * (2 ^ 23 * 2 ^ L) := by
            have h2 : (2 * q + 1) * 2 ^ k ≤ 2 ^ 25 * 2 ^ k := Nat.mul_le_mul_right _ (by omega)
            refine Nat.le_trans h2 ?_
            rw [← Nat.pow_add, show (2 : Nat) * (2 ^ 23 * 2 ^ L) = 2 ^ (24 + L) by rw [← Nat.mul_assoc, Nat.pow_add]]
            exact Nat.pow_le_pow_right (by omega) (by omega)
          have h2 := Nat.mul_le_mul_right (2 ^ V) h1
          rw [Nat.mul_assoc 2 _ (2 ^ V)] at h2
          generalize 2 ^ 23 * 2 ^ L * 2 ^ V = z at *
          generalize (2 * q + 1) * 2 ^ k * 2 ^ V = y at *
          omega
      · -- a number of the same grain
        obtain ⟨j, rfl⟩ : ∃ j, k = L + j := ⟨k - L, by omega⟩
        have hg : q * 2 ^ (L + j) = q * 2 ^ j * 2 ^ L := by rw [Nat.pow_add, Nat.mul_comm (2 ^ L), Nat.mul_assoc]
        have hgv : q * 2 ^ (L + j) * 2 ^ V = q * 2 ^ j * 2 ^ (L + V) := by rw [hg, Nat.mul_assoc, ← Nat.pow_add]
        obtain ⟨x1, x2, _⟩ := X (q * 2 ^ j)
        rw [hgv, hg]
        refine ⟨fun h => Nat.mul_le_mul_right _ (x2 h), fun h => Nat.mul_le_mul_right _ (x1 h), fun hq0 hq1 h => ?_⟩
        rcases Nat.eq_zero_or_pos j with rfl | hj
        · have h3 := (X q).2.2 (by
            have : (2 * q + 1) * 2 ^ (L + 0) * 2 ^ V = (2 * q + 1) * 2 ^ (L + V) := by rw [Nat.mul_assoc, ← Nat.pow_add]; rfl
            rw [← this]; exact h)
          rw [Nat.pow_zero, Nat.mul_one]
          exact Nat.mul_le_mul_right _ h3
        · refine Nat.mul_le_mul_right _ (x1 (Nat.le_trans (Nat.le_of_lt hup) (Nat.mul_le_mul_right _ ?_)))
          have h5 : 2 ^ 1 ≤ 2 ^ j := Nat.pow_le_pow_right (by omega) hj
          exact Nat.mul_le_mul hq0 h5
    obtain ⟨p, l, r, hv⟩ := kept_word neg kept last hll hlu hk1 hk0'
    rw [e]
    refine ⟨isNum_of r, kept * 2 ^ L, ?_, by rw [← hAe]; exact hnear⟩
    unfold fval
    rw [r]
    show signed neg p (l + 149).toNat = _
    rw [signed_eq, hv, ← hL]
theorem exB : ∃ B : Nat, B = 270 := ⟨_, rfl⟩
/-- The bound of what is reckoned with: 2 to the 270, the exponent kept from being reckoned out. -/
noncomputable def fixB : Nat := exB.choose
theorem fixB_eq : fixB = 270 := exB.choose_spec
/-- The numbers of 24 digits, in parts of 2 to the -149. -/
def Rep (v : Int) : Prop := ∃ q k : Nat, q ≤ 16777216 ∧ v.natAbs = q * 2 ^ k
/-- v is what N / D is rounded to, for signed ones. -/
def NearI (v N : Int) (D : Nat) : Prop := ∀ g : Int, Rep g → (g * (D : Int) ≤ N → g ≤ v) ∧ (N ≤ g * (D : Int) → v ≤ g)
/-- A rounded quotient with its sign. -/
def Rounds (v N : Int) (D : Nat) : Prop := ∃ (s : Bool) (R A : Nat), v = (if s then -(R : Int) else (R : Int)) ∧ N = (if s then -(A : Int) else (A : Int)) ∧ Near R A D
theorem rep_neg {v : Int} (h : Rep v) : Rep (-v) := by
  obtain ⟨q, k, h1, h2⟩ := h; exact ⟨q, k, h1, by rw [Int.natAbs_neg]; exact h2⟩
theorem rep_num {x : Nat} (h : isNum x) : Rep (fval x) := by
  obtain ⟨s, m, i, e, _, hm⟩ := h
  refine ⟨m, (i + 149).toNat, Nat.le_of_lt hm, ?_⟩
  unfold fval; rw [e]; exact (val_amount s m _).1
theorem near_int_pos {R A D : Nat} (h : Near R A D) (hD : 0 < D) : NearI (R : Int) (A : Int) D := by
  intro g hg
  obtain ⟨q, k, hq, hv⟩ := hg
  obtain ⟨n1, n2, _⟩ := h q k hq
  have hDi : (0 : Int) < (D : Int) := by omega
  rw [← hv] at n1 n2
  rcases Int.lt_or_le g 0 with h0 | h0
  · refine ⟨fun _ => by omega, fun h => ?_⟩
    have := Int.mul_neg_of_neg_of_pos h0 hDi
    omega
  · obtain ⟨a, rfl⟩ : ∃ a : Nat, g = (a : Int) := ⟨g.toNat, by omega⟩
    rw [Int.natAbs_natCast] at n1 n2
    refine ⟨fun h => ?_, fun h => ?_⟩
    · have := n1 (by exact_mod_cast h); omega
    · have := n2 (by exact_mod_cast h); omega
theorem near_int_neg {v N : Int} {D : Nat} (h : NearI v N D) : NearI (-v) (-N) D := by
  intro g hg
  obtain ⟨h1, h2⟩ := h (-g) (rep_neg hg)
  rw [Int.neg_mul] at h1 h2
  exact ⟨fun h => by have := h2 (by omega); omega, fun h => by have := h1 (by omega); omega⟩
theorem Rounds.near {v N : Int} {D : Nat} (h : Rounds v N D) (hD : 0 < D) : NearI v N D := by
  obtain ⟨s, R, A, rfl, rfl, hn⟩ := h
  have := near_int_pos hn hD
  cases s
  · exact this
  · exact near_int_neg this
/-- One that is a number of 24 digits itself is kept. -/
theorem NearI.exact {v g : Int} {D : Nat} (h : NearI v (g * (D : Int)) D) (hg : Rep g) : v = g := by
  obtain ⟨h1, h2⟩ := h g hg
  exact Int.le_antisymm (h2 (Int.le_refl _)) (h1 (Int.le_refl _))
theorem signed_abs (s : Bool) (m u : Nat) : signed s m u = if s then -(((signed s m u).natAbs : Nat) : Int) else (((signed s m u).natAbs : Nat) : Int) := by
  rw [(val_amount s m u).1, signed_eq]
/-- A sum of numbers. -/
theorem add_op {x y : Nat} (hx : isNum x) (hy : isNum y) (hb : (fval x + fval y).natAbs < 2 ^ fixB) :
    ∃ r, f32.add x y = some r ∧ isNum r ∧ r < 4294967296 ∧ Rounds (fval r) (fval x + fval y) 1 := by
  obtain ⟨s, m, i, ex, hi, _⟩ := hx
  obtain ⟨t, n, j, ey, hj, _⟩ := hy
  obtain ⟨T, hT⟩ : ∃ T, T = signed s m (i - min i j).toNat + signed t n (j - min i j).toNat := ⟨_, rfl⟩
  obtain ⟨neg, hneg⟩ : ∃ neg : Bool, neg = (if T = 0 then s && t else decide (T < 0)) := ⟨_, rfl⟩
  have hr : f32.add x y = some (f32.nearest neg T.natAbs (min i j)) := by
    unfold Format.add; rw [ex, ey]
    show some (f32.write (.number (if signed s m (i - min i j).toNat + signed t n (j - min i j).toNat = 0 then s && t else decide (signed s m (i - min i j).toNat + signed t n (j - min i j).toNat < 0)) (signed s m (i - min i j).toNat + signed t n (j - min i j).toNat).natAbs (min i j))) = _
    rw [← hT, ← hneg]; rfl
  obtain ⟨P, hP⟩ : ∃ P : Nat, P = (min i j + 149).toNat := ⟨_, rfl⟩
  have hsum : fval x + fval y = T * ((2 ^ P : Nat) : Int) := by
    unfold fval; rw [ex, ey]
    show signed s m (i + 149).toNat + signed t n (j + 149).toNat = _
    rw [show (i + 149).toNat = (i - min i j).toNat + P by omega, show (j + 149).toNat = (j - min i j).toNat + P by omega, signed_shift, signed_shift, ← Int.add_mul, hT]
  have habs : (fval x + fval y).natAbs = T.natAbs * 2 ^ P := by rw [hsum, Int.natAbs_mul]; rfl
  obtain ⟨hn, R, hv, hnear⟩ := near_core neg T.natAbs (min i j) 0 P (by omega) (by rw [← habs, Nat.add_zero, ← fixB_eq]; exact hb)
  refine ⟨_, hr, hn, FloatKind.f32.format.add_lt hr, ?_⟩
  rw [← habs, Nat.pow_zero] at hnear
  by_cases h0 : T = 0
  · have hz : (fval x + fval y) = 0 := by rw [hsum, h0, Int.zero_mul]
    rw [hz] at hnear ⊢
    have hR : R ≤ 0 := by have := (hnear 0 0 (by omega)).2.1 (by simp); simpa using this
    exact ⟨neg, R, 0, hv, by cases neg <;> simp, hnear⟩
  · rw [if_neg h0] at hneg
    refine ⟨neg, R, (fval x + fval y).natAbs, hv, ?_, hnear⟩
    have hp : (0 : Int) < ((2 ^ P : Nat) : Int) := by have := Nat.two_pow_pos P; omega
    rw [hneg, hsum]
    by_cases h1 : T < 0
    · have := Int.mul_neg_of_neg_of_pos h1 hp
      simp only [h1, decide_true, if_true]
      clear hb hsum habs hnear
      generalize T * ((2 ^ P : Nat) : Int) = z at *
      omega
    · have := Int.mul_nonneg (show (0 : Int) ≤ T by omega) (Int.le_of_lt hp)
      simp only [h1, decide_false]
      clear hb hsum habs hnear
      generalize T * ((2 ^ P : Nat) : Int) = z at *
      simp only [Bool.false_eq_true, if_false]
      omega
/-- The word of the opposite number reads as the opposite datum: a difference is a sum. -/
theorem sub_op {x y : Nat} (hx : isNum x) (hy : isNum y) (hb : (fval x - fval y).natAbs < 2 ^ fixB) :
    ∃ r, f32.sub x y = some r ∧ isNum r ∧ r < 4294967296 ∧ Rounds (fval r) (fval x - fval y) 1 := by
  obtain ⟨s, m, i, ex, hi, _⟩ := hx
  obtain ⟨t, n, j, ey, hj, _⟩ := hy
  obtain ⟨T, hT⟩ : ∃ T, T = signed s m (i - min i j).toNat + signed (!t) n (j - min i j).toNat := ⟨_, rfl⟩
  obtain ⟨neg, hneg⟩ : ∃ neg : Bool, neg = (if T = 0 then s && !t else decide (T < 0)) := ⟨_, rfl⟩
  have hr : f32.sub x y = some (f32.nearest neg T.natAbs (min i j)) := by
    unfold Format.sub; rw [ex, ey]
    show some (f32.write (.number (if signed s m (i - min i j).toNat + signed (!t) n (j - min i j).toNat = 0 then s && !t else decide (signed s m (i - min i j).toNat + signed (!t) n (j - min i j).toNat < 0)) (signed s m (i - min i j).toNat + signed (!t) n (j - min i j).toNat).natAbs (min i j))) = _
    rw [← hT, ← hneg]; rfl
  obtain ⟨P, hP⟩ : ∃ P : Nat, P = (min i j + 149).toNat := ⟨_, rfl⟩
  have hsum : fval x - fval y = T * ((2 ^ P : Nat) : Int) := by
    unfold fval; rw [ex, ey]
    show signed s m (i + 149).toNat - signed t n (j + 149).toNat = _
    rw [Int.sub_eq_add_neg, ← signed_not t, show (i + 149).toNat = (i - min i j).toNat + P by omega, show (j + 149).toNat = (j - min i j).toNat + P by omega, signed_shift, signed_shift, ← Int.add_mul, hT]
  have habs : (fval x - fval y).natAbs = T.natAbs * 2 ^ P := by rw [hsum, Int.natAbs_mul]; rfl
  obtain ⟨hn, R, hv, hnear⟩ := near_core neg T.natAbs (min i j) 0 P (by omega) (by rw [← habs, Nat.add_zero, ← fixB_eq]; exact hb)
  refine ⟨_, hr, hn, FloatKind.f32.format.sub_lt hr, ?_⟩
  rw [← habs, Nat.pow_zero] at hnear
  by_cases h0 : T = 0
  · have hz : (fval x - fval y) = 0 := by rw [hsum, h0, Int.zero_mul]
    rw [hz] at hnear ⊢
    exact ⟨neg, R, 0, hv, by cases neg <;> simp, hnear⟩
  · rw [if_neg h0] at hneg
    refine ⟨neg, R, (fval x - fval y).natAbs, hv, ?_, hnear⟩
    have hp : (0 : Int) < ((2 ^ P : Nat) : Int) := by have := Nat.two_pow_pos P; omega
    rw [hneg, hsum]
    by_cases h1 : T < 0
    · have := Int.mul_neg_of_neg_of_pos h1 hp
      simp only [h1, decide_true, if_true]
      clear hb hsum habs hnear
      generalize T * ((2 ^ P : Nat) : Int) = z at *
      omega
    · have := Int.mul_nonneg (show (0 : Int) ≤ T by omega) (Int.le_of_lt hp)
      simp only [h1, decide_false]
      clear hb hsum habs hnear
      generalize T * ((2 ^ P : Nat) : Int) = z at *
      simp only [Bool.false_eq_true, if_false]
      omega
theorem signed_mul (s t : Bool) (m n u v : Nat) : signed s m u * signed t n v = if s ^^ t then -((m * n * 2 ^ (u + v) : Nat) : Int) else ((m * n * 2 ^ (u + v) : Nat) : Int) := by
  rw [signed_eq, signed_eq, Nat.pow_add, show m * n * (2 ^ u * 2 ^ v) = (m * 2 ^ u) * (n * 2 ^ v) by rw [Nat.mul_assoc, Nat.mul_assoc, Nat.mul_left_comm n]]
  generalize m * 2 ^ u = a
  generalize n * 2 ^ v = b
  cases s <;> cases t <;> simp [Int.neg_mul, Int.mul_neg]
/-- A product of numbers. -/
theorem mul_op {x y : Nat} (hx : isNum x) (hy : isNum y) (hb : (fval x * fval y).natAbs < 2 ^ (fixB + fixE)) :
    ∃ r, f32.mul x y = some r ∧ isNum r ∧ r < 4294967296 ∧ Rounds (fval r) (fval x * fval y) oneV := by
  have hE := fixE_eq
  obtain ⟨s, m, i, ex, hi, _⟩ := hx
  obtain ⟨t, n, j, ey, hj, _⟩ := hy
  have hr : f32.mul x y = some (f32.nearest (s ^^ t) (m * n) (i + j)) := by
    unfold Format.mul; rw [ex, ey]; rfl
  obtain ⟨u, hu⟩ : ∃ u : Nat, u = (i + 149).toNat := ⟨_, rfl⟩
  obtain ⟨v, hv'⟩ : ∃ v : Nat, v = (j + 149).toNat := ⟨_, rfl⟩
  have hprod : fval x * fval y = if s ^^ t then -((m * n * 2 ^ (u + v) : Nat) : Int) else ((m * n * 2 ^ (u + v) : Nat) : Int) := by
    unfold fval; rw [ex, ey]
    show signed s m (i + 149).toNat * signed t n (j + 149).toNat = _
    rw [← hu, ← hv']; exact signed_mul s t m n u v
  have habs : (fval x * fval y).natAbs = m * n * 2 ^ (u + v) := by
    rw [hprod]; split
    · rw [Int.natAbs_neg]; rfl
    · rfl
  obtain ⟨hn, R, hv, hnear⟩ := near_core (s ^^ t) (m * n) (i + j) fixE (u + v) (by omega) (by rw [← habs, ← fixB_eq]; exact hb)
  exact ⟨_, hr, hn, FloatKind.f32.format.mul_lt hr, s ^^ t, R, _, hv, hprod, hnear⟩
/-- A quotient with one digit more, which tells whether anything is left over, lies on the side of every number of 24 digits on which the quotient lies. -/
theorem div_sides (dvd n Q st q b c : Nat) (hn : 0 < n) (hQ : Q = dvd / n) (hst : st = (dvd % n != 0).toNat) (hQ0 : 16777216 ≤ Q) (hq : q ≤ 16777216) :
    (q * 2 ^ c * n ≤ 2 * dvd * 2 ^ b → q * 2 ^ c ≤ (2 * Q + st) * 2 ^ b) ∧ (2 * dvd * 2 ^ b ≤ q * 2 ^ c * n → (2 * Q + st) * 2 ^ b ≤ q * 2 ^ c) ∧
      (q < 16777216 → 2 * (2 * dvd * 2 ^ b) < (2 * q + 1) * 2 ^ c * n → 2 * ((2 * Q + st) * 2 ^ b) < (2 * q + 1) * 2 ^ c) := by
  have hdm := Nat.div_add_mod dvd n
  have hml := Nat.mod_lt dvd hn
  rw [← hQ] at hdm
  have hB : 0 < 2 ^ b := Nat.two_pow_pos _
  have hst1 : st ≤ 1 := by rw [hst]; cases (dvd % n != 0) <;> simp
  have hst0 : dvd % n ≠ 0 ∨ st = 0 := by
    rcases Nat.eq_zero_or_pos (dvd % n) with h | h
    · right; rw [hst, h]; rfl
    · left; omega
  have hbig : 16777216 * n ≤ dvd := by
    have := Nat.mul_le_mul_left n hQ0
    rw [Nat.mul_comm n] at this; omega
  refine ⟨fun h => ?_, fun h => ?_, fun hq1 h => ?_⟩
  · rcases Nat.lt_or_ge b c with hc | hc
    · obtain ⟨j, rfl⟩ : ∃ j, c = j + (b + 1) := ⟨c - (b + 1), by omega⟩
      have e : q * 2 ^ (j + (b + 1)) = 2 * (q * 2 ^ j) * 2 ^ b := by rw [Nat.pow_add, Nat.pow_succ, ← Nat.mul_assoc, Nat.mul_comm (2 ^ b) 2, ← Nat.mul_assoc, Nat.mul_comm (q * 2 ^ j) 2]
      rw [e] at h ⊢
      rw [Nat.mul_right_comm] at h
      have h1 := Nat.le_of_mul_le_mul_right h hB
      have h2 : q * 2 ^ j * n ≤ dvd := by rw [Nat.mul_assoc] at h1; omega
      have h3 : q * 2 ^ j ≤ Q := by rw [hQ]; exact (Nat.le_div_iff_mul_le hn).2 h2
      exact Nat.mul_le_mul_right _ (by omega)
    · have h1 : q * 2 ^ c ≤ 16777216 * 2 ^ b := Nat.mul_le_mul hq (Nat.pow_le_pow_right (by omega) hc)
      exact Nat.le_trans h1 (Nat.mul_le_mul_right _ (by omega))
  · rcases Nat.lt_or_ge b c with hc | hc
    · obtain ⟨j, rfl⟩ : ∃ j, c = j + (b + 1) := ⟨c - (b + 1), by omega⟩
      have e : q * 2 ^ (j + (b + 1)) = 2 * (q * 2 ^ j) * 2 ^ b := by rw [Nat.pow_add, Nat.pow_succ, ← Nat.mul_assoc, Nat.mul_comm (2 ^ b) 2, ← Nat.mul_assoc, Nat.mul_comm (q * 2 ^ j) 2]
      rw [e] at h ⊢
      rw [Nat.mul_right_comm (2 * (q * 2 ^ j))] at h
      have h1 := Nat.le_of_mul_le_mul_right h hB
      have h2 : dvd ≤ q * 2 ^ j * n := by rw [Nat.mul_assoc] at h1; omega
      refine Nat.mul_le_mul_right _ ?_
      rcases Nat.lt_or_ge Q (q * 2 ^ j) with h3 | h3
      · omega
      · have h4 := Nat.mul_le_mul_left n h3
        rw [Nat.mul_comm n (q * 2 ^ j)] at h4
        have h5 : n * Q = q * 2 ^ j * n := by omega
        have h6 : Q = q * 2 ^ j := by rw [Nat.mul_comm (q * 2 ^ j)] at h5; exact Nat.eq_of_mul_eq_mul_left hn h5
        omega
    · exfalso
      have h1 : q * 2 ^ c * n ≤ 16777216 * 2 ^ b * n := Nat.mul_le_mul_right _ (Nat.mul_le_mul hq (Nat.pow_le_pow_right (by omega) hc))
      have h2 : 2 * dvd * 2 ^ b ≤ 16777216 * n * 2 ^ b := by rw [Nat.mul_right_comm 16777216]; omega
      have h3 := Nat.le_of_mul_le_mul_right h2 hB
      omega
  · rcases Nat.lt_or_ge (b + 1) c with hc | hc
    · obtain ⟨j, rfl⟩ : ∃ j, c = j + (b + 2) := ⟨c - (b + 2), by omega⟩
      have e : (2 * q + 1) * 2 ^ (j + (b + 2)) = 4 * ((2 * q + 1) * 2 ^ j) * 2 ^ b := by
        rw [Nat.pow_add, Nat.pow_add 2 b 2, show (2 : Nat) ^ 2 = 4 from rfl, ← Nat.mul_assoc, Nat.mul_comm (2 ^ b) 4, ← Nat.mul_assoc, Nat.mul_comm ((2 * q + 1) * 2 ^ j) 4]
      rw [e] at h ⊢
      generalize (2 * q + 1) * 2 ^ j = H at *
      have h1 : 2 * (2 * dvd) * 2 ^ b < 4 * H * n * 2 ^ b := by rw [Nat.mul_assoc 2, Nat.mul_right_comm (4 * H)]; exact h
      have h2 := Nat.lt_of_mul_lt_mul_right h1
      rw [Nat.mul_assoc] at h2
      have h3 : Q < H := by
        rcases Nat.lt_or_ge Q H with h | h
        · exact h
        · have := Nat.mul_le_mul_left n h
          rw [Nat.mul_comm n H] at this
          omega
      rw [← Nat.mul_assoc]
      exact Nat.mul_lt_mul_of_pos_right (by omega) hB
    · exfalso
      have h1 : (2 * q + 1) * 2 ^ c * n ≤ 33554431 * 2 ^ (b + 1) * n := Nat.mul_le_mul_right _ (Nat.mul_le_mul (by omega) (Nat.pow_le_pow_right (by omega) hc))
      have h2 : 2 * (2 * dvd) * 2 ^ b < 33554431 * 2 * n * 2 ^ b := by
        rw [Nat.pow_succ, Nat.mul_comm (2 ^ b) 2, ← Nat.mul_assoc, Nat.mul_right_comm _ (2 ^ b) n] at h1
        rw [Nat.mul_assoc 2]; omega
      have h3 := Nat.lt_of_mul_lt_mul_right h2
      omega
set_option maxHeartbeats 1000000 in
/-- A quotient of numbers. -/
theorem div_op {x y : Nat} (hx : isNum x) (hy : isNum y) (hxb : (fval x).natAbs < 2 ^ (fixE + 50)) (hyb : 2 ^ (fixE - 50) ≤ (fval y).natAbs) :
    ∃ r, f32.div x y = some r ∧ isNum r ∧ r < 4294967296 ∧ ∃ s t : Bool, ∃ R : Nat, fval r = (if s ^^ t then -(R : Int) else (R : Int)) ∧ (fval x = if s then -(((fval x).natAbs : Nat) : Int) else (((fval x).natAbs : Nat) : Int)) ∧ (fval y = if t then -(((fval y).natAbs : Nat) : Int) else (((fval y).natAbs : Nat) : Int)) ∧
      Near R ((fval x).natAbs * oneV) (fval y).natAbs := by
  have hE := fixE_eq
  obtain ⟨s, m, i, ex, hi, hm⟩ := hx
  obtain ⟨t, n, j, ey, hj, hn'⟩ := hy
  have vx : fval x = signed s m (i + 149).toNat := by unfold fval; rw [ex]; rfl
  have vy : fval y = signed t n (j + 149).toNat := by unfold fval; rw [ey]; rfl
  have ax : (fval x).natAbs = m * 2 ^ (i + 149).toNat := by rw [vx]; exact (val_amount s m _).1
  have ay : (fval y).natAbs = n * 2 ^ (j + 149).toNat := by rw [vy]; exact (val_amount t n _).1
  have hn : 0 < n := by
    rcases Nat.eq_zero_or_pos n with h | h
    · rw [ay, h, Nat.zero_mul] at hyb
      exact absurd (Nat.two_pow_pos (fixE - 50)) (by omega)
    · exact h
  obtain ⟨more, hmore⟩ : ∃ more, more = 25 + n.log2 - m.log2 := ⟨_, rfl⟩
  obtain ⟨dvd, hdvd⟩ : ∃ dvd, dvd = m * 2 ^ more := ⟨_, rfl⟩
  obtain ⟨Q, hQ⟩ : ∃ Q, Q = dvd / n := ⟨_, rfl⟩
  obtain ⟨st, hst⟩ : ∃ st, st = (dvd % n != 0).toNat := ⟨_, rfl⟩
  have hr : f32.div x y = some (f32.nearest (s ^^ t) (2 * Q + st) (i - j - more - 1)) := by
    unfold Format.div; rw [ex, ey]
    unfold Datum.quotient
    simp only [if_neg (show ¬ n = 0 by omega)]
    rw [show f32.fractionBits + 2 = 25 from rfl, ← hmore, Nat.shiftLeft_eq, ← hdvd, ← hQ, ← hst]
    rfl
  obtain ⟨I, hI⟩ : ∃ I : Nat, I = (i + 149).toNat := ⟨_, rfl⟩
  obtain ⟨J, hJ⟩ : ∃ J : Nat, J = (j + 149).toNat := ⟨_, rfl⟩
  rw [← hI] at ax vx
  rw [← hJ] at ay vy
  have sx : fval x = if s then -(((fval x).natAbs : Nat) : Int) else (((fval x).natAbs : Nat) : Int) := by rw [vx]; exact signed_abs s m I
  have sy : fval y = if t then -(((fval y).natAbs : Nat) : Int) else (((fval y).natAbs : Nat) : Int) := by rw [vy]; exact signed_abs t n J
  have hP : (i - j - more - 1 : Int) + 149 + ((J + more + 1 : Nat) : Int) = ((I + fixE : Nat) : Int) := by omega
  by_cases h0 : m = 0
  · have hd0 : dvd = 0 := by rw [hdvd, h0, Nat.zero_mul]
    have hmag : 2 * Q + st = 0 := by rw [hst, hQ, hd0]; simp
    rw [hmag] at hr
    obtain ⟨hn2, R, hv, hnear⟩ := near_core (s ^^ t) 0 (i - j - more - 1) (J + more + 1) (I + fixE) hP (by rw [Nat.zero_mul]; exact Nat.two_pow_pos _)
    refine ⟨_, hr, hn2, FloatKind.f32.format.div_lt hr, s, t, R, hv, sx, sy, ?_⟩
    rw [ax, h0, Nat.zero_mul, Nat.zero_mul]
    rw [Nat.zero_mul] at hnear
    have hR : R = 0 := by have := (hnear 0 0 (by omega)).2.1 (by simp); simpa using this
    intro q k hq
    rw [hR]
    refine ⟨fun h => ?_, fun _ => Nat.zero_le _, fun _ _ _ => Nat.zero_le _⟩
    rcases Nat.mul_eq_zero.1 (Nat.le_zero.1 h) with h2 | h2
    · omega
    · exfalso; rw [h2] at hyb; have := Nat.two_pow_pos (fixE - 50); omega
  · have hQ0 : 16777216 ≤ Q := by
      rw [hQ, Nat.le_div_iff_mul_le hn, hdvd]
      have h1 : n < 2 ^ (n.log2 + 1) := Nat.lt_log2_self
      have h2 : 2 ^ m.log2 * 2 ^ more ≤ m * 2 ^ more := Nat.mul_le_mul_right _ (Nat.log2_self_le h0)
      rw [← Nat.pow_add] at h2
      have h3 : 2 ^ 24 * n ≤ 2 ^ 24 * 2 ^ (n.log2 + 1) := Nat.mul_le_mul_left _ (Nat.le_of_lt h1)
      rw [← Nat.pow_add] at h3
      have h4 : 2 ^ (24 + (n.log2 + 1)) ≤ 2 ^ (m.log2 + more) := Nat.pow_le_pow_right (by omega) (by omega)
      exact Nat.le_trans h3 (Nat.le_trans h4 h2)
    have hst1 : st ≤ 1 := by rw [hst]; cases (dvd % n != 0) <;> simp
    obtain ⟨V, hV⟩ : ∃ V, V = J + more + 1 := ⟨_, rfl⟩
    rw [← hV] at hP
    have hpv : 0 < 2 ^ V := Nat.two_pow_pos _
    have hpJ : 0 < 2 ^ J := Nat.two_pow_pos _
    -- the exact quotient, scaled
    have key : (fval x).natAbs * oneV * 2 ^ V = 2 * dvd * 2 ^ (I + fixE) * 2 ^ J := by
      rw [ax, hV, hdvd]; unfold oneV
      rw [Nat.pow_add 2 (J + more) 1, Nat.pow_add 2 J more, Nat.pow_add 2 I fixE, Nat.pow_one]
      simp only [Nat.mul_assoc, Nat.mul_comm, Nat.mul_left_comm]
    have hD : ∀ h : Nat, h * (fval y).natAbs * 2 ^ V = h * 2 ^ V * n * 2 ^ J := fun h => by
      rw [ay]; simp only [Nat.mul_assoc, Nat.mul_comm, Nat.mul_left_comm]
    have hA : (2 * Q + st) * 2 ^ (I + fixE) < 2 ^ (270 + V) := by
      have h1 : (2 * Q + st) * n ≤ 4 * dvd := by
        have h2 : Q * n ≤ dvd := by rw [hQ]; exact Nat.div_mul_le_self dvd n
        have h3 : (2 * Q + st) * n ≤ (4 * Q) * n := Nat.mul_le_mul_right _ (by omega)
        rw [Nat.mul_assoc] at h3; omega
      have h2 : (2 * Q + st) * 2 ^ (I + fixE) * (n * 2 ^ J) ≤ 2 * ((fval x).natAbs * oneV * 2 ^ V) := by
        rw [key]
        have := Nat.mul_le_mul_right (2 ^ (I + fixE) * 2 ^ J) h1
        calc (2 * Q + st) * 2 ^ (I + fixE) * (n * 2 ^ J) = (2 * Q + st) * n * (2 ^ (I + fixE) * 2 ^ J) := by simp only [Nat.mul_assoc, Nat.mul_comm, Nat.mul_left_comm]
          _ ≤ 4 * dvd * (2 ^ (I + fixE) * 2 ^ J) := this
          _ = 2 * (2 * dvd * 2 ^ (I + fixE) * 2 ^ J) := by rw [show 4 * dvd = 2 * (2 * dvd) by omega]; simp only [Nat.mul_assoc]
      have h3 : 2 * ((fval x).natAbs * oneV * 2 ^ V) < 2 * (2 ^ (fixE + 50) * oneV * 2 ^ V) := by
        have : (fval x).natAbs * oneV * 2 ^ V < 2 ^ (fixE + 50) * oneV * 2 ^ V := Nat.mul_lt_mul_of_pos_right (Nat.mul_lt_mul_of_pos_right hxb (Nat.two_pow_pos _)) hpv
        omega
      have h4 : (2 * Q + st) * 2 ^ (I + fixE) * 2 ^ (fixE - 50) ≤ (2 * Q + st) * 2 ^ (I + fixE) * (n * 2 ^ J) := Nat.mul_le_mul_left _ (by rw [← ay]; exact hyb)
      have h5 : 2 * (2 ^ (fixE + 50) * oneV * 2 ^ V) = 2 ^ (fixE + 101 + V) * 2 ^ (fixE - 50) := by
        unfold oneV
        rw [← Nat.pow_add, ← Nat.pow_add, ← Nat.pow_add, show 2 * 2 ^ (fixE + 50 + fixE + V) = 2 ^ (fixE + 50 + fixE + V + 1) by rw [Nat.pow_succ, Nat.mul_comm]]
        exact congrArg (fun z => 2 ^ z) (by clear h2 h3 h4; omega)
      rw [h5] at h3
      have h6 := Nat.lt_of_le_of_lt h4 (Nat.lt_of_le_of_lt h2 h3)
      have h7 := Nat.lt_of_mul_lt_mul_right h6
      exact Nat.lt_of_lt_of_le h7 (Nat.pow_le_pow_right (by omega) (by omega))
    obtain ⟨hn2, R, hv, hnear⟩ := near_core (s ^^ t) (2 * Q + st) (i - j - more - 1) V (I + fixE) hP hA
    refine ⟨_, hr, hn2, FloatKind.f32.format.div_lt hr, s, t, R, hv, sx, sy, ?_⟩
    intro q k hq
    obtain ⟨n1, n2, n3⟩ := hnear q k hq
    have e : ∀ z : Nat, z * 2 ^ k * 2 ^ V = z * 2 ^ (k + V) := fun z => by rw [Nat.mul_assoc, ← Nat.pow_add]
    rw [e] at n1 n2 n3
    obtain ⟨d1, d2, d3⟩ := div_sides dvd n Q st q (I + fixE) (k + V) hn hQ hst hQ0 hq
    refine ⟨fun h => n1 (d1 ?_), fun h => n2 (d2 ?_), fun hq0 hq1 h => n3 hq0 hq1 (d3 hq1 ?_)⟩
    · refine Nat.le_of_mul_le_mul_right ?_ hpJ
      have h2 := Nat.mul_le_mul_right (2 ^ V) h
      rw [key, hD, e] at h2
      exact h2
    · refine Nat.le_of_mul_le_mul_right ?_ hpJ
      have h2 := Nat.mul_le_mul_right (2 ^ V) h
      rw [key, hD, e] at h2
      exact h2
    · refine Nat.lt_of_mul_lt_mul_right (a := 2 ^ J) ?_
      have h2 := Nat.mul_lt_mul_of_pos_right h hpv
      rw [hD, e, Nat.mul_assoc, key, ← Nat.mul_assoc] at h2
      exact h2
/-- A number that is no tiny one has a half. -/
theorem rep_half {v : Int} (h : Rep v) (hb : 33554432 ≤ v.natAbs) : ∃ z, v = 2 * z ∧ Rep z := by
  obtain ⟨q, k, hq, hv⟩ := h
  cases k with
  | zero => rw [Nat.pow_zero, Nat.mul_one] at hv; omega
  | succ k =>
    rw [Nat.pow_succ, Nat.mul_comm (2 ^ k) 2, ← Nat.mul_assoc, Nat.mul_comm q 2, Nat.mul_assoc] at hv
    refine ⟨v / 2, by omega, q, k, hq, by omega⟩
theorem rep_two {v : Int} (h : Rep v) : Rep (2 * v) := by
  obtain ⟨q, k, hq, hv⟩ := h
  exact ⟨q, k + 1, hq, by rw [Int.natAbs_mul, hv, Nat.pow_succ, Nat.mul_comm (2 ^ k) 2, ← Nat.mul_assoc, ← Nat.mul_assoc, Nat.mul_comm q 2]; rfl⟩
theorem rep_nat {q k : Nat} (hq : q ≤ 16777216) : Rep ((q * 2 ^ k : Nat) : Int) := ⟨q, k, hq, Int.natAbs_natCast _⟩
theorem near_err_pos {v : Int} {A D : Nat} (h : NearI v (A : Int) D) (hD : 0 < D) :
    8388608 * (v * (D : Int) - (A : Int)) ≤ (A : Int) + 8388608 * (D : Int) ∧ 8388608 * ((A : Int) - v * (D : Int)) ≤ (A : Int) + 8388608 * (D : Int) := by
  obtain ⟨n, hn⟩ : ∃ n, n = A / D := ⟨_, rfl⟩
  have hdm := Nat.div_add_mod A D
  have hml := Nat.mod_lt A hD
  rw [← hn] at hdm
  have n0 : n * D ≤ A := by rw [Nat.mul_comm]; omega
  have n1 : A < (n + 1) * D := by rw [Nat.add_mul, Nat.one_mul, Nat.mul_comm n D]; omega
  have key : ∀ q k : Nat, q < 16777216 → q * 2 ^ k ≤ n → n + 1 ≤ (q + 1) * 2 ^ k → (8388608 * 2 ^ k ≤ n ∨ k = 0) →
      8388608 * (v * (D : Int) - (A : Int)) ≤ (A : Int) + 8388608 * (D : Int) ∧ 8388608 * ((A : Int) - v * (D : Int)) ≤ (A : Int) + 8388608 * (D : Int) := fun q k hq h1 h2 h3 => by
    have l1 : q * 2 ^ k * D ≤ A := Nat.le_trans (Nat.mul_le_mul_right D h1) n0
    have l2 : A ≤ (q + 1) * 2 ^ k * D := Nat.le_of_lt (Nat.lt_of_lt_of_le n1 (Nat.mul_le_mul_right D h2))
    have r1 := (h _ (rep_nat (q := q) (k := k) (by omega))).1 (by exact_mod_cast l1)
    have r2 := (h _ (rep_nat (q := q + 1) (k := k) (by omega))).2 (by exact_mod_cast l2)
    have hDi : (0 : Int) ≤ (D : Int) := by omega
    have r1' := Int.mul_le_mul_of_nonneg_right r1 hDi
    have r2' := Int.mul_le_mul_of_nonneg_right r2 hDi
    rw [← Int.natCast_mul] at r1' r2'
    have e : (q + 1) * 2 ^ k * D = q * 2 ^ k * D + 2 ^ k * D := by rw [Nat.add_mul, Nat.one_mul, Nat.add_mul]
    rw [e] at r2' l2
    have l3 : 8388608 * (2 ^ k * D) ≤ A ∨ 2 ^ k * D = D := by
      rcases h3 with h3 | rfl
      · left
        rw [← Nat.mul_assoc]
        exact Nat.le_trans (Nat.mul_le_mul_right D h3) n0
      · right; rw [Nat.pow_zero, Nat.one_mul]
    generalize v * (D : Int) = z at *
    generalize q * 2 ^ k * D = x at *
    generalize 2 ^ k * D = y at *
    omega
  rcases Nat.lt_or_ge n 16777216 with hs | hs
  · exact key n 0 hs (by rw [Nat.pow_zero, Nat.mul_one]; exact Nat.le_refl _) (by rw [Nat.pow_zero, Nat.mul_one]; exact Nat.le_refl _) (.inr rfl)
  · have h0 : n ≠ 0 := by omega
    have h1 : 2 ^ n.log2 ≤ n := Nat.log2_self_le h0
    have h2 : n < 2 ^ (n.log2 + 1) := Nat.lt_log2_self
    have hl : 24 ≤ n.log2 := by
      rcases Nat.lt_or_ge n.log2 24 with h | h
      · have : 2 ^ (n.log2 + 1) ≤ 2 ^ 24 := Nat.pow_le_pow_right (by omega) (by omega)
        have : (2 : Nat) ^ 24 = 16777216 := rfl
        omega
      · exact h
    obtain ⟨j, hj⟩ : ∃ j, n.log2 = 23 + j := ⟨n.log2 - 23, by omega⟩
    rw [hj] at h1 h2
    have e52 : (2 : Nat) ^ 23 = 8388608 := rfl
    have e53 : (2 : Nat) ^ 24 = 16777216 := rfl
    rw [Nat.pow_add, e52] at h1
    rw [show 23 + j + 1 = 24 + j by omega, Nat.pow_add, e53] at h2
    have hpj : 0 < 2 ^ j := Nat.two_pow_pos _
    refine key (n / 2 ^ j) j ((Nat.div_lt_iff_lt_mul hpj).2 h2) (Nat.div_mul_le_self n (2 ^ j)) ?_ (.inl h1)
    have := Nat.div_add_mod n (2 ^ j)
    have := Nat.mod_lt n hpj
    rw [Nat.add_mul, Nat.one_mul, Nat.mul_comm]
    omega
/-- A rounded value lies within a 2 to the 52nd part of the exact one, and a unit. -/
theorem near_err {v N : Int} {D : Nat} (h : NearI v N D) (hD : 0 < D) :
    8388608 * (v * (D : Int) - N) ≤ (N.natAbs : Int) + 8388608 * (D : Int) ∧ 8388608 * (N - v * (D : Int)) ≤ (N.natAbs : Int) + 8388608 * (D : Int) := by
  rcases Int.le_total 0 N with h0 | h0
  · obtain ⟨A, rfl⟩ : ∃ A : Nat, N = (A : Int) := ⟨N.toNat, by omega⟩
    rw [Int.natAbs_natCast]
    exact near_err_pos h hD
  · obtain ⟨A, rfl⟩ : ∃ A : Nat, N = -(A : Int) := ⟨(-N).toNat, by omega⟩
    have hn := near_int_neg h
    rw [Int.neg_neg] at hn
    obtain ⟨a, b⟩ := near_err_pos hn hD
    rw [Int.neg_mul] at a b
    rw [Int.natAbs_neg, Int.natAbs_natCast]
    generalize v * (D : Int) = z at *
    omega
end Go.Proofs.Ytibkhmdnfloemaa.S
