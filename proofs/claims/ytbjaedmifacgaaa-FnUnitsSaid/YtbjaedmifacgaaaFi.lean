/- Plain facts on float64 words: quotients of numbers, rounded; halves. Nothing here speaks of the program. -/
import Derived.Test.YtbjaedmifacgaaaFh
namespace Go.Proofs.Ytbjaedmifacgaaa
open Go.RowKit Ieee

/-- A quotient with one digit more, which tells whether anything is left over, lies on the side of every number of 53 digits on which the quotient lies. -/
theorem div_sides (dvd n Q st q b c : Nat) (hn : 0 < n) (hQ : Q = dvd / n) (hst : st = (dvd % n != 0).toNat) (hQ0 : 9007199254740992 ≤ Q) (hq : q ≤ 9007199254740992) :
    (q * 2 ^ c * n ≤ 2 * dvd * 2 ^ b → q * 2 ^ c ≤ (2 * Q + st) * 2 ^ b) ∧ (2 * dvd * 2 ^ b ≤ q * 2 ^ c * n → (2 * Q + st) * 2 ^ b ≤ q * 2 ^ c) ∧
      (q < 9007199254740992 → 2 * (2 * dvd * 2 ^ b) < (2 * q + 1) * 2 ^ c * n → 2 * ((2 * Q + st) * 2 ^ b) < (2 * q + 1) * 2 ^ c) := by
  have hdm := Nat.div_add_mod dvd n
  have hml := Nat.mod_lt dvd hn
  rw [← hQ] at hdm
  have hB : 0 < 2 ^ b := Nat.two_pow_pos _
  have hst1 : st ≤ 1 := by rw [hst]; cases (dvd % n != 0) <;> simp
  have hst0 : dvd % n ≠ 0 ∨ st = 0 := by
    rcases Nat.eq_zero_or_pos (dvd % n) with h | h
    · right; rw [hst, h]; rfl
    · left; omega
  have hbig : 9007199254740992 * n ≤ dvd := by
    have := Nat.mul_le_mul_left n hQ0
    rw [Nat.mul_comm n] at this; omega
  refine ⟨fun h => ?_, fun h => ?_, fun hq1 h => ?_⟩
  · rcases Nat.lt_or_ge b c with hc | hc
    · obtain ⟨j, rfl⟩ : ∃ j, c = j + (b + 1) := ⟨c - (b + 1), by omega⟩
      have e : q * 2 ^ (j + (b + 1)) = 2 * (q * 2 ^ j) * 2 ^ b := by rw [Nat.pow_add, Nat.pow_succ, ← Nat.mul_assoc, Nat.mul_comm (2 ^ b) 2, ← Nat.mul_assoc, Nat.mul_comm (q * 2 ^ j) 2]
      rw [e] at h ⊢
      rw [Nat.mul_right_comm] at h
      have h1 := Nat.le_of_mul_le_mul_right h hB
      have h2 : q * 2 ^ j * n ≤ dvd := by rw [Nat.mul_assoc] at h1; omega
      have h3 : q * 2 ^ j ≤ Q := by rw [hQ]; exact (Nat.le_div_iff_mul_le hn).2 h2
      exact Nat.mul_le_mul_right _ (by omega)
    · have h1 : q * 2 ^ c ≤ 9007199254740992 * 2 ^ b := Nat.mul_le_mul hq (Nat.pow_le_pow_right (by omega) hc)
      exact Nat.le_trans h1 (Nat.mul_le_mul_right _ (by omega))
  · rcases Nat.lt_or_ge b c with hc | hc
    · obtain ⟨j, rfl⟩ : ∃ j, c = j + (b + 1) := ⟨c - (b + 1), by omega⟩
      have e : q * 2 ^ (j + (b + 1)) = 2 * (q * 2 ^ j) * 2 ^ b := by rw [Nat.pow_add, Nat.pow_succ, ← Nat.mul_assoc, Nat.mul_comm (2 ^ b) 2, ← Nat.mul_assoc, Nat.mul_comm (q * 2 ^ j) 2]
      rw [e] at h ⊢
      rw [Nat.mul_right_comm (2 * (q * 2 ^ j))] at h
      have h1 := Nat.le_of_mul_le_mul_right h hB
      have h2 : dvd ≤ q * 2 ^ j * n := by rw [Nat.mul_assoc] at h1; omega
      refine Nat.mul_le_mul_right _ ?_
      rcases Nat.lt_or_ge Q (q * 2 ^ j) with h3 | h3
      · omega
      · have h4 := Nat.mul_le_mul_left n h3
        rw [Nat.mul_comm n (q * 2 ^ j)] at h4
        have h5 : n * Q = q * 2 ^ j * n := by omega
        have h6 : Q = q * 2 ^ j := by rw [Nat.mul_comm (q * 2 ^ j)] at h5; exact Nat.eq_of_mul_eq_mul_left hn h5
        omega
    · exfalso
      have h1 : q * 2 ^ c * n ≤ 9007199254740992 * 2 ^ b * n := Nat.mul_le_mul_right _ (Nat.mul_le_mul hq (Nat.pow_le_pow_right (by omega) hc))
      have h2 : 2 * dvd * 2 ^ b ≤ 9007199254740992 * n * 2 ^ b := by rw [Nat.mul_right_comm 9007199254740992]; omega
      have h3 := Nat.le_of_mul_le_mul_right h2 hB
      omega
  · rcases Nat.lt_or_ge (b + 1) c with hc | hc
    · obtain ⟨j, rfl⟩ : ∃ j, c = j + (b + 2) := ⟨c - (b + 2), by omega⟩
      have e : (2 * q + 1) * 2 ^ (j + (b + 2)) = 4 * ((2 * q + 1) * 2 ^ j) * 2 ^ b := by
        rw [Nat.pow_add, Nat.pow_add 2 b 2, show (2 : Nat) ^ 2 = 4 from rfl, ← Nat.mul_assoc, Nat.mul_comm (2 ^ b) 4, ← Nat.mul_assoc, Nat.mul_comm ((2 * q + 1) * 2 ^ j) 4]
      rw [e] at h ⊢
      generalize (2 * q + 1) * 2 ^ j = H at *
      have h1 : 2 * (2 * dvd) * 2 ^ b < 4 * H * n * 2 ^ b := by rw [Nat.mul_assoc 2, Nat.mul_right_comm (4 * H)]; exact h
      have h2 := Nat.lt_of_mul_lt_mul_right h1
      rw [Nat.mul_assoc] at h2
      have h3 : Q < H := by
        rcases Nat.lt_or_ge Q H with h | h
        · exact h
        · have := Nat.mul_le_mul_left n h
          rw [Nat.mul_comm n H] at this
          omega
      rw [← Nat.mul_assoc]
      exact Nat.mul_lt_mul_of_pos_right (by omega) hB
    · exfalso
      have h1 : (2 * q + 1) * 2 ^ c * n ≤ 18014398509481983 * 2 ^ (b + 1) * n := Nat.mul_le_mul_right _ (Nat.mul_le_mul (by omega) (Nat.pow_le_pow_right (by omega) hc))
      have h2 : 2 * (2 * dvd) * 2 ^ b < 18014398509481983 * 2 * n * 2 ^ b := by
        rw [Nat.pow_succ, Nat.mul_comm (2 ^ b) 2, ← Nat.mul_assoc, Nat.mul_right_comm _ (2 ^ b) n] at h1
        rw [Nat.mul_assoc 2]; omega
      have h3 := Nat.lt_of_mul_lt_mul_right h2
      omega

set_option maxHeartbeats 1000000 in
/-- A quotient of numbers. -/
theorem div_op {x y : Nat} (hx : isNum x) (hy : isNum y) (hxb : (fval x).natAbs < 2 ^ (fixE + 200)) (hyb : 2 ^ (fixE - 200) ≤ (fval y).natAbs) :
    ∃ r, f64.div x y = some r ∧ isNum r ∧ r < 18446744073709551616 ∧ ∃ s t : Bool, ∃ R : Nat, fval r = (if s ^^ t then -(R : Int) else (R : Int)) ∧ (fval x = if s then -(((fval x).natAbs : Nat) : Int) else (((fval x).natAbs : Nat) : Int)) ∧ (fval y = if t then -(((fval y).natAbs : Nat) : Int) else (((fval y).natAbs : Nat) : Int)) ∧
      Near R ((fval x).natAbs * oneV) (fval y).natAbs := by
  have hE := fixE_eq
  obtain ⟨s, m, i, ex, hi, hm⟩ := hx
  obtain ⟨t, n, j, ey, hj, hn'⟩ := hy
  have vx : fval x = signed s m (i + 1074).toNat := by unfold fval; rw [ex]; rfl
  have vy : fval y = signed t n (j + 1074).toNat := by unfold fval; rw [ey]; rfl
  have ax : (fval x).natAbs = m * 2 ^ (i + 1074).toNat := by rw [vx]; exact (val_amount s m _).1
  have ay : (fval y).natAbs = n * 2 ^ (j + 1074).toNat := by rw [vy]; exact (val_amount t n _).1
  have hn : 0 < n := by
    rcases Nat.eq_zero_or_pos n with h | h
    · rw [ay, h, Nat.zero_mul] at hyb
      exact absurd (Nat.two_pow_pos (fixE - 200)) (by omega)
    · exact h
  obtain ⟨more, hmore⟩ : ∃ more, more = 54 + n.log2 - m.log2 := ⟨_, rfl⟩
  obtain ⟨dvd, hdvd⟩ : ∃ dvd, dvd = m * 2 ^ more := ⟨_, rfl⟩
  obtain ⟨Q, hQ⟩ : ∃ Q, Q = dvd / n := ⟨_, rfl⟩
  obtain ⟨st, hst⟩ : ∃ st, st = (dvd % n != 0).toNat := ⟨_, rfl⟩
  have hr : f64.div x y = some (f64.nearest (s ^^ t) (2 * Q + st) (i - j - more - 1)) := by
    unfold Format.div; rw [ex, ey]
    unfold Datum.quotient
    simp only [if_neg (show ¬ n = 0 by omega)]
    rw [show f64.fractionBits + 2 = 54 from rfl, ← hmore, Nat.shiftLeft_eq, ← hdvd, ← hQ, ← hst]
    rfl
  obtain ⟨I, hI⟩ : ∃ I : Nat, I = (i + 1074).toNat := ⟨_, rfl⟩
  obtain ⟨J, hJ⟩ : ∃ J : Nat, J = (j + 1074).toNat := ⟨_, rfl⟩
  rw [← hI] at ax vx
  rw [← hJ] at ay vy
  have sx : fval x = if s then -(((fval x).natAbs : Nat) : Int) else (((fval x).natAbs : Nat) : Int) := by rw [vx]; exact signed_abs s m I
  have sy : fval y = if t then -(((fval y).natAbs : Nat) : Int) else (((fval y).natAbs : Nat) : Int) := by rw [vy]; exact signed_abs t n J
  have hP : (i - j - more - 1 : Int) + 1074 + ((J + more + 1 : Nat) : Int) = ((I + fixE : Nat) : Int) := by omega
  by_cases h0 : m = 0
  · have hd0 : dvd = 0 := by rw [hdvd, h0, Nat.zero_mul]
    have hmag : 2 * Q + st = 0 := by rw [hst, hQ, hd0]; simp
    rw [hmag] at hr
    obtain ⟨hn2, R, hv, hnear⟩ := near_core (s ^^ t) 0 (i - j - more - 1) (J + more + 1) (I + fixE) hP (by rw [Nat.zero_mul]; exact Nat.two_pow_pos _)
    refine ⟨_, hr, hn2, FloatKind.f64.format.div_lt hr, s, t, R, hv, sx, sy, ?_⟩
    rw [ax, h0, Nat.zero_mul, Nat.zero_mul]
    rw [Nat.zero_mul] at hnear
    have hR : R = 0 := by have := (hnear 0 0 (by omega)).2.1 (by simp); simpa using this
    intro q k hq
    rw [hR]
    refine ⟨fun h => ?_, fun _ => Nat.zero_le _, fun _ _ _ => Nat.zero_le _⟩
    rcases Nat.mul_eq_zero.1 (Nat.le_zero.1 h) with h2 | h2
    · omega
    · exfalso; rw [h2] at hyb; have := Nat.two_pow_pos (fixE - 200); omega
  · have hQ0 : 9007199254740992 ≤ Q := by
      rw [hQ, Nat.le_div_iff_mul_le hn, hdvd]
      have h1 : n < 2 ^ (n.log2 + 1) := Nat.lt_log2_self
      have h2 : 2 ^ m.log2 * 2 ^ more ≤ m * 2 ^ more := Nat.mul_le_mul_right _ (Nat.log2_self_le h0)
      rw [← Nat.pow_add] at h2
      have h3 : 2 ^ 53 * n ≤ 2 ^ 53 * 2 ^ (n.log2 + 1) := Nat.mul_le_mul_left _ (Nat.le_of_lt h1)
      rw [← Nat.pow_add] at h3
      have h4 : 2 ^ (53 + (n.log2 + 1)) ≤ 2 ^ (m.log2 + more) := Nat.pow_le_pow_right (by omega) (by omega)
      exact Nat.le_trans h3 (Nat.le_trans h4 h2)
    have hst1 : st ≤ 1 := by rw [hst]; cases (dvd % n != 0) <;> simp
    obtain ⟨V, hV⟩ : ∃ V, V = J + more + 1 := ⟨_, rfl⟩
    rw [← hV] at hP
    have hpv : 0 < 2 ^ V := Nat.two_pow_pos _
    have hpJ : 0 < 2 ^ J := Nat.two_pow_pos _
    -- the exact quotient, scaled
    have key : (fval x).natAbs * oneV * 2 ^ V = 2 * dvd * 2 ^ (I + fixE) * 2 ^ J := by
      rw [ax, hV, hdvd]; unfold oneV
      rw [Nat.pow_add 2 (J + more) 1, Nat.pow_add 2 J more, Nat.pow_add 2 I fixE, Nat.pow_one]
      simp only [Nat.mul_assoc, Nat.mul_comm, Nat.mul_left_comm]
    have hD : ∀ h : Nat, h * (fval y).natAbs * 2 ^ V = h * 2 ^ V * n * 2 ^ J := fun h => by
      rw [ay]; simp only [Nat.mul_assoc, Nat.mul_comm, Nat.mul_left_comm]
    have hA : (2 * Q + st) * 2 ^ (I + fixE) < 2 ^ (1900 + V) := by
      have h1 : (2 * Q + st) * n ≤ 4 * dvd := by
        have h2 : Q * n ≤ dvd := by rw [hQ]; exact Nat.div_mul_le_self dvd n
        have h3 : (2 * Q + st) * n ≤ (4 * Q) * n := Nat.mul_le_mul_right _ (by omega)
        rw [Nat.mul_assoc] at h3; omega
      have h2 : (2 * Q + st) * 2 ^ (I + fixE) * (n * 2 ^ J) ≤ 2 * ((fval x).natAbs * oneV * 2 ^ V) := by
        rw [key]
        have := Nat.mul_le_mul_right (2 ^ (I + fixE) * 2 ^ J) h1
        calc (2 * Q + st) * 2 ^ (I + fixE) * (n * 2 ^ J) = (2 * Q + st) * n * (2 ^ (I + fixE) * 2 ^ J) := by simp only [Nat.mul_assoc, Nat.mul_comm, Nat.mul_left_comm]
          _ ≤ 4 * dvd * (2 ^ (I + fixE) * 2 ^ J) := this
          _ = 2 * (2 * dvd * 2 ^ (I + fixE) * 2 ^ J) := by rw [show 4 * dvd = 2 * (2 * dvd) by omega]; simp only [Nat.mul_assoc]
      have h3 : 2 * ((fval x).natAbs * oneV * 2 ^ V) < 2 * (2 ^ (fixE + 200) * oneV * 2 ^ V) := by
        have : (fval x).natAbs * oneV * 2 ^ V < 2 ^ (fixE + 200) * oneV * 2 ^ V := Nat.mul_lt_mul_of_pos_right (Nat.mul_lt_mul_of_pos_right hxb (Nat.two_pow_pos _)) hpv
        omega
      have h4 : (2 * Q + st) * 2 ^ (I + fixE) * 2 ^ (fixE - 200) ≤ (2 * Q + st) * 2 ^ (I + fixE) * (n * 2 ^ J) := Nat.mul_le_mul_left _ (by rw [← ay]; exact hyb)
      have h5 : 2 * (2 ^ (fixE + 200) * oneV * 2 ^ V) = 2 ^ (fixE + 401 + V) * 2 ^ (fixE - 200) := by
        unfold oneV
        rw [← Nat.pow_add, ← Nat.pow_add, ← Nat.pow_add, show 2 * 2 ^ (fixE + 200 + fixE + V) = 2 ^ (fixE + 200 + fixE + V + 1) by rw [Nat.pow_succ, Nat.mul_comm]]
        exact congrArg (fun z => 2 ^ z) (by clear h2 h3 h4; omega)
      rw [h5] at h3
      have h6 := Nat.lt_of_le_of_lt h4 (Nat.lt_of_le_of_lt h2 h3)
      have h7 := Nat.lt_of_mul_lt_mul_right h6
      exact Nat.lt_of_lt_of_le h7 (Nat.pow_le_pow_right (by omega) (by omega))
    obtain ⟨hn2, R, hv, hnear⟩ := near_core (s ^^ t) (2 * Q + st) (i - j - more - 1) V (I + fixE) hP hA
    refine ⟨_, hr, hn2, FloatKind.f64.format.div_lt hr, s, t, R, hv, sx, sy, ?_⟩
    intro q k hq
    obtain ⟨n1, n2, n3⟩ := hnear q k hq
    have e : ∀ z : Nat, z * 2 ^ k * 2 ^ V = z * 2 ^ (k + V) := fun z => by rw [Nat.mul_assoc, ← Nat.pow_add]
    rw [e] at n1 n2 n3
    obtain ⟨d1, d2, d3⟩ := div_sides dvd n Q st q (I + fixE) (k + V) hn hQ hst hQ0 hq
    refine ⟨fun h => n1 (d1 ?_), fun h => n2 (d2 ?_), fun hq0 hq1 h => n3 hq0 hq1 (d3 hq1 ?_)⟩
    · refine Nat.le_of_mul_le_mul_right ?_ hpJ
      have h2 := Nat.mul_le_mul_right (2 ^ V) h
      rw [key, hD, e] at h2
      exact h2
    · refine Nat.le_of_mul_le_mul_right ?_ hpJ
      have h2 := Nat.mul_le_mul_right (2 ^ V) h
      rw [key, hD, e] at h2
      exact h2
    · refine Nat.lt_of_mul_lt_mul_right (a := 2 ^ J) ?_
      have h2 := Nat.mul_lt_mul_of_pos_right h hpv
      rw [hD, e, Nat.mul_assoc, key, ← Nat.mul_assoc] at h2
      exact h2

/-- A number that is no tiny one has a half. -/
theorem rep_half {v : Int} (h : Rep v) (hb : 18014398509481984 ≤ v.natAbs) : ∃ z, v = 2 * z ∧ Rep z := by
  obtain ⟨q, k, hq, hv⟩ := h
  cases k with
  | zero => rw [Nat.pow_zero, Nat.mul_one] at hv; omega
  | succ k =>
    rw [Nat.pow_succ, Nat.mul_comm (2 ^ k) 2, ← Nat.mul_assoc, Nat.mul_comm q 2, Nat.mul_assoc] at hv
    refine ⟨v / 2, by omega, q, k, hq, by omega⟩
theorem rep_two {v : Int} (h : Rep v) : Rep (2 * v) := by
  obtain ⟨q, k, hq, hv⟩ := h
  exact ⟨q, k + 1, hq, by rw [Int.natAbs_mul, hv, Nat.pow_succ, Nat.mul_comm (2 ^ k) 2, ← Nat.mul_assoc, ← Nat.mul_assoc, Nat.mul_comm q 2]; rfl⟩
end Go.Proofs.Ytbjaedmifacgaaa
