/- Quotients of numbers of any size: what is rounded to nought, what is too great. Nothing here speaks of the program. -/
import Derived.Test.YtlenmnffnbldbaaScA
namespace Go.Proofs.Ytlenmnffnbldbaa
open Go.RowKit Ieee
set_option linter.unusedVariables false

theorem word_inj {neg : Bool} {r r' : Nat} (h : f64.word neg r = f64.word neg r') : r = r' := by
  unfold Format.word at h; cases neg <;> simp at h <;> omega
theorem word_zero (neg : Bool) : fval (f64.word neg 0) = 0 := by
  unfold fval; rw [read_low neg 0 (by omega)]; exact fl_signed_zero _ _
theorem nearest_zero {neg : Bool} {mag : Nat} {place : Int} (hn : isNum (f64.nearest neg mag place)) (h : fval (f64.nearest neg mag place) = 0) : f64.nearest neg mag place = f64.word neg 0 := by
  obtain ⟨r, hr, hw, _⟩ := near_word neg mag place
  rw [hw] at hn h ⊢
  have hrd := fl_read_word f64 neg r (by rw [sgn64]; omega)
  rw [bin64, inf64, lp64] at hrd
  by_cases h1 : r < 4503599627370496
  · rw [if_pos h1] at hrd
    unfold fval at h; rw [hrd] at h
    have := fl_signed_eq_zero (show signed neg r (-1074 + 1074 : Int).toNat = 0 from h)
    rw [this]
  · rw [if_neg h1] at hrd
    by_cases h2 : r < 9218868437227405312
    · rw [if_pos h2] at hrd
      unfold fval at h; rw [hrd] at h
      have := fl_signed_eq_zero (show signed neg _ _ = 0 from h)
      omega
    · rw [if_neg h2, if_pos (by omega)] at hrd
      obtain ⟨s', m', i', e', _⟩ := hn
      rw [hrd] at e'; cases e'

theorem nearest_eq (neg : Bool) (mag : Nat) (place : Int) (h0 : mag ≠ 0) : ∃ last : Int, last = max (place + mag.log2 - 52) (-1074) ∧ f64.nearest neg mag place = f64.word neg (min ((last - -1074).toNat * 4503599627370496 + Toward.even.cut neg (mag <<< (place - last).toNat) (last - place).toNat) 9218868437227405312) := by
  refine ⟨_, rfl, ?_⟩
  unfold Format.nearest
  rw [if_neg h0]
  simp only [lp64, bin64, inf64]
  rfl
theorem near_zero (neg : Bool) (mag : Nat) (place : Int) (V P : Nat) (hP : place + 1074 + (V : Int) = (P : Int)) :
    (2 * (mag * 2 ^ P) < 2 ^ V → f64.nearest neg mag place = f64.word neg 0) ∧ (f64.nearest neg mag place = f64.word neg 0 → 2 * (mag * 2 ^ P) ≤ 2 ^ V) := by
  by_cases h0 : mag = 0
  · refine ⟨fun _ => by unfold Format.nearest; rw [if_pos h0], fun _ => ?_⟩
    rw [h0, Nat.zero_mul, Nat.mul_zero]; exact Nat.zero_le _
  · obtain ⟨last, hlast, e⟩ := nearest_eq neg mag place h0
    refine ⟨fun h => ?_, fun h => ?_⟩
    · have h1 : 2 ^ (1 + mag.log2 + P) < 2 ^ V := by
        refine Nat.lt_of_le_of_lt ?_ h
        rw [Nat.add_assoc, Nat.pow_add, Nat.pow_add, Nat.pow_one]
        exact Nat.mul_le_mul_left _ (Nat.mul_le_mul_right _ (Nat.log2_self_le h0))
      have h2 := (Nat.pow_lt_pow_iff_right (by omega : 1 < 2)).1 h1
      have hl : last = -1074 := by omega
      have hd : V = (last - place).toNat + P := by omega
      rw [hd, Nat.pow_add, ← Nat.mul_assoc] at h
      have h3 := Nat.lt_of_mul_lt_mul_right h
      have h4 := (cut_sides neg (mag <<< (place - last).toNat) (last - place).toNat 0).2.2 (by
        rw [show (place - last).toNat = 0 by omega, Nat.shiftLeft_eq, Nat.pow_zero, Nat.mul_one]; omega)
      rw [e, show (last - -1074).toNat = 0 by omega, Nat.le_zero.1 h4]
      rfl
    · rw [e] at h
      have h1 := word_inj h
      have h2 : (last - -1074).toNat * 4503599627370496 + Toward.even.cut neg (mag <<< (place - last).toNat) (last - place).toNat = 0 := by omega
      have hl : last = -1074 := by omega
      have hk : Toward.even.cut neg (mag <<< (place - last).toNat) (last - place).toNat = 0 := by omega
      obtain ⟨_, c2, c3, _⟩ := cut_near neg (mag <<< (place - last).toNat) (last - place).toNat
      rw [hk] at c2 c3
      rcases Int.lt_or_le place (-1074) with hp | hp
      · rw [show (place - last).toNat = 0 by omega, Nat.shiftLeft_eq, Nat.pow_zero, Nat.mul_one] at c2
        have hd : V = (last - place).toNat + P := by omega
        rw [hd, Nat.pow_add, ← Nat.mul_assoc]
        exact Nat.mul_le_mul_right _ (by omega)
      · exfalso
        rw [show (last - place).toNat = 0 by omega, Nat.pow_zero, Nat.div_one, Nat.shiftLeft_eq] at c3
        rcases Nat.mul_eq_zero.1 (Nat.le_zero.1 c3) with h5 | h5
        · exact h0 h5
        · exact absurd h5 (Nat.pos_iff_ne_zero.1 (Nat.two_pow_pos _))
theorem near_huge (G : Nat) (hG : G = 1898) (neg : Bool) (mag : Nat) (place : Int) (V P : Nat) (hP : place + 1074 + (V : Int) = (P : Int)) (hb : 2 ^ (G + V) ≤ mag * 2 ^ P) : ¬ okQ (f64.nearest neg mag place) := by
  intro hq
  have h0 : mag ≠ 0 := fun h => by
    rw [h, Nat.zero_mul] at hb
    have := Nat.two_pow_pos (G + V)
    omega
  obtain ⟨last, hlast, e⟩ := nearest_eq neg mag place h0
  have h1 : 2 ^ (G + V) < 2 ^ (mag.log2 + 1 + P) := by
    refine Nat.lt_of_le_of_lt hb ?_
    rw [Nat.pow_add 2 (mag.log2 + 1)]
    exact Nat.mul_lt_mul_of_pos_right Nat.lt_log2_self (Nat.two_pow_pos _)
  have h2 := (Nat.pow_lt_pow_iff_right (by omega : 1 < 2)).1 h1
  clear hb h1
  have hl : 772 ≤ last := by omega
  clear h2 hP hlast
  rw [e] at hq
  obtain ⟨r, hr⟩ : ∃ r, r = min ((last - -1074).toNat * 4503599627370496 + Toward.even.cut neg (mag <<< (place - last).toNat) (last - place).toNat) 9218868437227405312 := ⟨_, rfl⟩
  rw [← hr] at hq
  have hr0 : 1846 * 4503599627370496 ≤ r := by omega
  have hr1 : r ≤ 9218868437227405312 := by omega
  have hrd := fl_read_word f64 neg r (by rw [sgn64]; omega)
  rw [bin64, inf64, lp64, if_neg (by omega)] at hrd
  by_cases h3 : r < 9218868437227405312
  · rw [if_pos h3] at hrd
    obtain ⟨_, q1, q2⟩ := hq
    unfold fval at q1 q2; rw [hrd] at q1 q2
    have e2 : dval (.number neg (4503599627370496 + r % 4503599627370496) (-1074 + ((r / 4503599627370496 - 1 : Nat) : Int))) = signed neg (4503599627370496 + r % 4503599627370496) (r / 4503599627370496 - 1) := by
      show signed neg _ (-1074 + ((r / 4503599627370496 - 1 : Nat) : Int) + 1074).toNat = _
      rw [show (-1074 + ((r / 4503599627370496 - 1 : Nat) : Int) + 1074).toNat = r / 4503599627370496 - 1 by omega]
    rw [e2, signed_eq] at q1 q2
    clear e2 hrd e
    have hE := fixE_eq
    obtain ⟨W, hW⟩ : ∃ W, W = fixE + 700 := ⟨_, rfl⟩
    obtain ⟨E, hE2⟩ : ∃ E, E = r / 4503599627370496 - 1 := ⟨_, rfl⟩
    have hE3 : W ≤ E := by omega
    rw [← hE2] at q1 q2
    have h5 : 2 ^ W ≤ 2 ^ E := Nat.pow_le_pow_right (by decide) hE3
    have h6 : 4503599627370496 * 2 ^ W ≤ (4503599627370496 + r % 4503599627370496) * 2 ^ E := Nat.mul_le_mul (Nat.le_add_right _ _) h5
    have h7 : oneV ≤ 2 ^ W := by unfold oneV; exact Nat.pow_le_pow_right (by decide) (by rw [hW]; exact Nat.le_add_right _ _)
    have h8 : 0 < oneV := Nat.two_pow_pos _
    generalize (4503599627370496 + r % 4503599627370496) * 2 ^ E = u at *
    generalize 2 ^ W = v at *
    cases neg
    · simp only [Bool.false_eq_true, if_false] at q1 q2; omega
    · simp only [if_true] at q1 q2; omega
  · rw [if_neg h3, if_pos (by omega)] at hrd
    obtain ⟨s', m', i', e', _⟩ := hq.1
    rw [hrd] at e'; cases e'
/-- What a quotient with one digit more says of the quotient, below a half. -/
theorem div_low (dvd n Q st b V : Nat) (hn : 0 < n) (hQ : Q = dvd / n) (hst : st = (dvd % n != 0).toNat) (hQ0 : 9007199254740992 ≤ Q) (h : 2 * ((2 * Q + st) * 2 ^ b) ≤ 2 ^ V) :
    2 * (2 * dvd * 2 ^ b) ≤ 2 ^ V * n := by
  have hdm := Nat.div_add_mod dvd n
  have hml := Nat.mod_lt dvd hn
  rw [← hQ] at hdm
  have hB : 0 < 2 ^ b := Nat.two_pow_pos _
  have hV : b + 2 ≤ V := by
    rcases Nat.lt_or_ge V (b + 2) with hV | hV
    · exfalso
      have h1 : 2 ^ V ≤ 2 ^ (b + 1) := Nat.pow_le_pow_right (by omega) (by omega)
      rw [Nat.pow_succ] at h1
      have h2 : 4 * 2 ^ b ≤ (2 * Q + st) * 2 ^ b := Nat.mul_le_mul_right _ (by omega)
      omega
    · exact hV
  obtain ⟨j, rfl⟩ : ∃ j, V = j + (b + 2) := ⟨V - (b + 2), by omega⟩
  have e : 2 ^ (j + (b + 2)) = 4 * 2 ^ j * 2 ^ b := by rw [Nat.pow_add, Nat.pow_add 2 b 2, show (2 : Nat) ^ 2 = 4 from rfl, ← Nat.mul_assoc, Nat.mul_right_comm, Nat.mul_comm (2 ^ j) 4]
  rw [e] at h ⊢
  rw [← Nat.mul_assoc] at h
  have h1 := Nat.le_of_mul_le_mul_right h hB
  have h2 : dvd ≤ 2 ^ j * n := by
    by_cases hr : dvd % n = 0
    · have h3 : Q * n ≤ 2 ^ j * n := Nat.mul_le_mul_right _ (by omega)
      rw [Nat.mul_comm Q] at h3
      omega
    · have hs : st = 1 := by
        rw [hst, show (dvd % n != 0) = true by simpa using hr]; rfl
      have h3 : (Q + 1) * n ≤ 2 ^ j * n := Nat.mul_le_mul_right _ (by omega)
      rw [Nat.add_mul, Nat.mul_comm Q, Nat.one_mul] at h3
      omega
  rw [← Nat.mul_assoc, Nat.mul_right_comm (4 * 2 ^ j)]
  refine Nat.mul_le_mul_right _ ?_
  rw [Nat.mul_assoc 4]
  omega

set_option maxHeartbeats 1000000 in
/-- A quotient of numbers, of any size: too great a one, or to what it is rounded; what becomes nought. -/
theorem div_gen (G : Nat) (hG : G = 1898) {x y : Nat} (hx : isNum x) (hy : isNum y) (hyb : 0 < (fval y).natAbs) :
    ∃ r, f64.div x y = some r ∧ r < 18446744073709551616 ∧ ((2 ^ G * (fval y).natAbs ≤ (fval x).natAbs * oneV ∧ ¬ okQ r) ∨ ((fval x).natAbs * oneV < 2 ^ G * (fval y).natAbs ∧ isNum r ∧ ∃ s t : Bool, ∃ R : Nat, fval r = (if s ^^ t then -(R : Int) else (R : Int)) ∧ (fval x = if s then -(((fval x).natAbs : Nat) : Int) else (((fval x).natAbs : Nat) : Int)) ∧ (fval y = if t then -(((fval y).natAbs : Nat) : Int) else (((fval y).natAbs : Nat) : Int)) ∧
      Near R ((fval x).natAbs * oneV) (fval y).natAbs ∧ (2 * ((fval x).natAbs * oneV) < (fval y).natAbs → R = 0) ∧ (R = 0 → 2 * ((fval x).natAbs * oneV) ≤ (fval y).natAbs))) := by
  have hE := fixE_eq
  obtain ⟨s, m, i, ex, hi, hm⟩ := hx
  obtain ⟨t, n, j, ey, hj, hn'⟩ := hy
  have vx : fval x = signed s m (i + 1074).toNat := by unfold fval; rw [ex]; rfl
  have vy : fval y = signed t n (j + 1074).toNat := by unfold fval; rw [ey]; rfl
  have ax : (fval x).natAbs = m * 2 ^ (i + 1074).toNat := by rw [vx]; exact (val_amount s m _).1
  have ay : (fval y).natAbs = n * 2 ^ (j + 1074).toNat := by rw [vy]; exact (val_amount t n _).1
  have hn : 0 < n := by
    rcases Nat.eq_zero_or_pos n with h | h
    · rw [ay, h, Nat.zero_mul] at hyb
      exact absurd hyb (by omega)
    · exact h
  obtain ⟨more, hmore⟩ : ∃ more, more = 54 + n.log2 - m.log2 := ⟨_, rfl⟩
  obtain ⟨dvd, hdvd⟩ : ∃ dvd, dvd = m * 2 ^ more := ⟨_, rfl⟩
  obtain ⟨Q, hQ⟩ : ∃ Q, Q = dvd / n := ⟨_, rfl⟩
  obtain ⟨st, hst⟩ : ∃ st, st = (dvd % n != 0).toNat := ⟨_, rfl⟩
  have hr : f64.div x y = some (f64.nearest (s ^^ t) (2 * Q + st) (i - j - more - 1)) := by
    unfold Format.div; rw [ex, ey]
    unfold Datum.quotient
    simp only [if_neg (show ¬ n = 0 by omega)]
    rw [show f64.fractionBits + 2 = 54 from rfl, ← hmore, Nat.shiftLeft_eq, ← hdvd, ← hQ, ← hst]
    rfl
  obtain ⟨I, hI⟩ : ∃ I : Nat, I = (i + 1074).toNat := ⟨_, rfl⟩
  obtain ⟨J, hJ⟩ : ∃ J : Nat, J = (j + 1074).toNat := ⟨_, rfl⟩
  rw [← hI] at ax vx
  rw [← hJ] at ay vy
  have sx : fval x = if s then -(((fval x).natAbs : Nat) : Int) else (((fval x).natAbs : Nat) : Int) := by rw [vx]; exact signed_abs s m I
  have sy : fval y = if t then -(((fval y).natAbs : Nat) : Int) else (((fval y).natAbs : Nat) : Int) := by rw [vy]; exact signed_abs t n J
  have hP : (i - j - more - 1 : Int) + 1074 + ((J + more + 1 : Nat) : Int) = ((I + fixE : Nat) : Int) := by omega
  by_cases h0 : m = 0
  · have hd0 : dvd = 0 := by rw [hdvd, h0, Nat.zero_mul]
    have hmag : 2 * Q + st = 0 := by rw [hst, hQ, hd0]; simp
    rw [hmag] at hr
    obtain ⟨hn2, R, hv, hnear⟩ := near_core (s ^^ t) 0 (i - j - more - 1) (J + more + 1) (I + fixE) hP (by rw [Nat.zero_mul]; exact Nat.two_pow_pos _)
    rw [Nat.zero_mul] at hnear
    have hR : R = 0 := by have := (hnear 0 0 (by omega)).2.1 (by simp); simpa using this
    have hz0 : (fval x).natAbs * oneV = 0 := by rw [ax, h0, Nat.zero_mul, Nat.zero_mul]
    refine ⟨_, hr, FloatKind.f64.format.div_lt hr, .inr ⟨by rw [hz0]; exact Nat.mul_pos (Nat.two_pow_pos _) hyb, hn2, s, t, R, hv, sx, sy, ?_, fun _ => hR, fun _ => by rw [hz0]; omega⟩⟩
    rw [hz0]
    intro q k hq
    rw [hR]
    refine ⟨fun h => ?_, fun _ => Nat.zero_le _, fun _ _ _ => Nat.zero_le _⟩
    rcases Nat.mul_eq_zero.1 (Nat.le_zero.1 h) with h2 | h2
    · omega
    · omega
  · have hQ0 : 9007199254740992 ≤ Q := by
      rw [hQ, Nat.le_div_iff_mul_le hn, hdvd]
      have h1 : n < 2 ^ (n.log2 + 1) := Nat.lt_log2_self
      have h2 : 2 ^ m.log2 * 2 ^ more ≤ m * 2 ^ more := Nat.mul_le_mul_right _ (Nat.log2_self_le h0)
      rw [← Nat.pow_add] at h2
      have h3 : 2 ^ 53 * n ≤ 2 ^ 53 * 2 ^ (n.log2 + 1) := Nat.mul_le_mul_left _ (Nat.le_of_lt h1)
      rw [← Nat.pow_add] at h3
      have h4 : 2 ^ (53 + (n.log2 + 1)) ≤ 2 ^ (m.log2 + more) := Nat.pow_le_pow_right (by omega) (by omega)
      exact Nat.le_trans h3 (Nat.le_trans h4 h2)
    have hst1 : st ≤ 1 := by rw [hst]; cases (dvd % n != 0) <;> simp
    obtain ⟨V, hV⟩ : ∃ V, V = J + more + 1 := ⟨_, rfl⟩
    rw [← hV] at hP
    have hpv : 0 < 2 ^ V := Nat.two_pow_pos _
    have hpJ : 0 < 2 ^ J := Nat.two_pow_pos _
    -- the exact quotient, scaled
    have key : (fval x).natAbs * oneV * 2 ^ V = 2 * dvd * 2 ^ (I + fixE) * 2 ^ J := by
      rw [ax, hV, hdvd]; unfold oneV
      rw [Nat.pow_add 2 (J + more) 1, Nat.pow_add 2 J more, Nat.pow_add 2 I fixE, Nat.pow_one]
      simp only [Nat.mul_assoc, Nat.mul_comm, Nat.mul_left_comm]
    have hD : ∀ h : Nat, h * (fval y).natAbs * 2 ^ V = h * 2 ^ V * n * 2 ^ J := fun h => by
      rw [ay]; simp only [Nat.mul_assoc, Nat.mul_comm, Nat.mul_left_comm]
    have hs1 := div_sides dvd n Q st 1 (I + fixE) (G + V) hn hQ hst hQ0 (by omega)
    rw [Nat.one_mul] at hs1
    rcases Nat.lt_or_ge ((fval x).natAbs * oneV) (2 ^ G * (fval y).natAbs) with hsm | hbg
    case inr =>
      refine ⟨_, hr, FloatKind.f64.format.div_lt hr, .inl ⟨hbg, ?_⟩⟩
      refine near_huge G hG (s ^^ t) (2 * Q + st) (i - j - more - 1) V (I + fixE) hP (hs1.1 ?_)
      refine Nat.le_of_mul_le_mul_right ?_ hpJ
      have h2 := Nat.mul_le_mul_right (2 ^ V) hbg
      rw [key, hD, ← Nat.pow_add] at h2
      exact h2
    have hA : (2 * Q + st) * 2 ^ (I + fixE) < 2 ^ (1900 + V) := by
      have h2 : (2 * Q + st) * 2 ^ (I + fixE) ≤ 2 ^ (G + V) := hs1.2.1 (by
        refine Nat.le_of_mul_le_mul_right ?_ hpJ
        have h2 := Nat.mul_le_mul_right (2 ^ V) (Nat.le_of_lt hsm)
        rw [key, hD, ← Nat.pow_add] at h2
        exact h2)
      exact Nat.lt_of_le_of_lt h2 (Nat.pow_lt_pow_right (by omega) (by omega))
    obtain ⟨hn2, R, hv, hnear⟩ := near_core (s ^^ t) (2 * Q + st) (i - j - more - 1) V (I + fixE) hP hA
    obtain ⟨z1, z2⟩ := near_zero (s ^^ t) (2 * Q + st) (i - j - more - 1) V (I + fixE) hP
    have d0 := (div_sides dvd n Q st 0 (I + fixE) V hn hQ hst hQ0 (by omega)).2.2 (by omega)
    refine ⟨_, hr, FloatKind.f64.format.div_lt hr, .inr ⟨hsm, hn2, s, t, R, hv, sx, sy, ?_, fun h => ?_, fun h => ?_⟩⟩
    case refine_2 =>
      have h2 : 2 * (2 * dvd * 2 ^ (I + fixE)) < (2 * 0 + 1) * 2 ^ V * n := by
        refine Nat.lt_of_mul_lt_mul_right (a := 2 ^ J) ?_
        have h3 := Nat.mul_lt_mul_of_pos_right h hpv
        rw [Nat.mul_assoc 2, key] at h3
        have h4 := hD 1
        rw [Nat.one_mul, Nat.one_mul] at h4
        rw [h4] at h3
        rw [show (2 * 0 + 1) * 2 ^ V * n * 2 ^ J = 2 ^ V * n * 2 ^ J by simp, Nat.mul_assoc 2]
        exact h3
      have h5 := d0 h2
      have h6 := z1 (by rw [show (2 * 0 + 1) * 2 ^ V = 2 ^ V by simp] at h5; exact h5)
      rw [h6, word_zero] at hv
      cases hst9 : (s ^^ t) <;> rw [hst9] at hv <;> simp at hv <;> omega
    case refine_3 =>
      have h6 : f64.nearest (s ^^ t) (2 * Q + st) (i - j - more - 1) = f64.word (s ^^ t) 0 := by
        refine nearest_zero hn2 ?_
        rw [hv, h]; cases (s ^^ t) <;> rfl
      have h7 := div_low dvd n Q st (I + fixE) V hn hQ hst hQ0 (z2 h6)
      refine Nat.le_of_mul_le_mul_right ?_ hpv
      rw [Nat.mul_assoc 2, key]
      have h4 := hD 1
      rw [Nat.one_mul, Nat.one_mul] at h4
      rw [h4, ← Nat.mul_assoc]
      exact Nat.mul_le_mul_right _ h7
    intro q k hq
    obtain ⟨n1, n2, n3⟩ := hnear q k hq
    have e : ∀ z : Nat, z * 2 ^ k * 2 ^ V = z * 2 ^ (k + V) := fun z => by rw [Nat.mul_assoc, ← Nat.pow_add]
    rw [e] at n1 n2 n3
    obtain ⟨d1, d2, d3⟩ := div_sides dvd n Q st q (I + fixE) (k + V) hn hQ hst hQ0 hq
    refine ⟨fun h => n1 (d1 ?_), fun h => n2 (d2 ?_), fun hq0 hq1 h => n3 hq0 hq1 (d3 hq1 ?_)⟩
    · refine Nat.le_of_mul_le_mul_right ?_ hpJ
      have h2 := Nat.mul_le_mul_right (2 ^ V) h
      rw [key, hD, e] at h2
      exact h2
    · refine Nat.le_of_mul_le_mul_right ?_ hpJ
      have h2 := Nat.mul_le_mul_right (2 ^ V) h
      rw [key, hD, e] at h2
      exact h2
    · refine Nat.lt_of_mul_lt_mul_right (a := 2 ^ J) ?_
      have h2 := Nat.mul_lt_mul_of_pos_right h hpv
      rw [hD, e, Nat.mul_assoc, key, ← Nat.mul_assoc] at h2
      exact h2
end Go.Proofs.Ytlenmnffnbldbaa
