/- Roots of squares: the steps of Newton's for the square of a whole number end at that number. Nothing here speaks of the program. -/
import Derived.Test.YtonoknbangnleaaRt
namespace Go.Proofs.Ytonoknbangnleaa
open Go.RowKit Ieee

/-- A number of 53 digits that is no tiny one, written with just 53. -/
theorem rep_norm {v : Nat} (h : Rep (v : Int)) (hb : 9007199254740992 ≤ v) : ∃ q k : Nat, 4503599627370496 ≤ q ∧ q < 9007199254740992 ∧ v = q * 2 ^ k := by
  obtain ⟨q, k, hq, hv⟩ := h
  rw [Int.natAbs_natCast] at hv
  have hv0 : v ≠ 0 := by omega
  have h1 : 2 ^ v.log2 ≤ v := Nat.log2_self_le hv0
  have h2 : v < 2 ^ (v.log2 + 1) := Nat.lt_log2_self
  have hl : 53 ≤ v.log2 := by
    rcases Nat.lt_or_ge v.log2 53 with h | h
    · have : 2 ^ (v.log2 + 1) ≤ 2 ^ 53 := Nat.pow_le_pow_right (by omega) (by omega)
      have : (2 : Nat) ^ 53 = 9007199254740992 := rfl
      omega
    · exact h
  obtain ⟨j, hj⟩ : ∃ j, v.log2 = 52 + j := ⟨v.log2 - 52, by omega⟩
  rw [hj] at h1 h2
  have e52 : (2 : Nat) ^ 52 = 4503599627370496 := rfl
  have e53 : (2 : Nat) ^ 53 = 9007199254740992 := rfl
  have hpj : 0 < 2 ^ j := Nat.two_pow_pos _
  have fin : ∀ a, v = a * 2 ^ j → 4503599627370496 ≤ a ∧ a < 9007199254740992 := fun a ha => by
    rw [ha, Nat.pow_add, e52] at h1
    rw [ha, show 52 + j + 1 = 53 + j by omega, Nat.pow_add, e53] at h2
    exact ⟨Nat.le_of_mul_le_mul_right h1 hpj, Nat.lt_of_mul_lt_mul_right h2⟩
  rcases Nat.lt_or_ge k j with hkj | hkj
  · -- then q is the greatest
    obtain ⟨i, rfl⟩ : ∃ i, j = k + 1 + i := ⟨j - k - 1, by omega⟩
    have h3 : 2 ^ (53 + i) ≤ q := by
      refine Nat.le_of_mul_le_mul_right ?_ (Nat.two_pow_pos k)
      rw [← Nat.pow_add, ← hv]
      rw [show 52 + (k + 1 + i) = 53 + i + k by omega] at h1
      exact h1
    have h4 : 2 ^ 53 ≤ 2 ^ (53 + i) := Nat.pow_le_pow_right (by omega) (by omega)
    have h5 : q = 9007199254740992 := by omega
    have h6 : i = 0 := by
      rcases Nat.eq_zero_or_pos i with h | h
      · exact h
      · have : 2 ^ 54 ≤ 2 ^ (53 + i) := Nat.pow_le_pow_right (by omega) (by omega)
        have : (2 : Nat) ^ 54 = 18014398509481984 := rfl
        omega
    subst h6
    have hva : v = 4503599627370496 * 2 ^ (k + 1 + 0) := by rw [hv, h5, Nat.add_zero, Nat.pow_succ, Nat.mul_comm (2 ^ k) 2, ← Nat.mul_assoc]
    exact ⟨_, _, (fin _ hva).1, (fin _ hva).2, hva⟩
  · obtain ⟨i, rfl⟩ : ∃ i, k = j + i := ⟨k - j, by omega⟩
    have hva : v = (q * 2 ^ i) * 2 ^ j := by rw [hv, Nat.pow_add, Nat.mul_comm (2 ^ j), Nat.mul_assoc]
    exact ⟨_, _, (fin _ hva).1, (fin _ hva).2, hva⟩

/-- What is between two numbers of 53 digits and no greater than either is one (Sterbenz). -/
theorem rep_sub {a b : Nat} (ha : Rep (a : Int)) (hb : Rep (b : Int)) (h : b ≤ a) (h2 : a - b ≤ b) : Rep ((a - b : Nat) : Int) := by
  obtain ⟨p, k, hp, ea⟩ := ha
  obtain ⟨q, l, hq, eb⟩ := hb
  rw [Int.natAbs_natCast] at ea eb
  have hsub : ∀ z i : Nat, a - b = z * 2 ^ i → (∃ y, y ≤ 9007199254740992 ∧ a - b ≤ y * 2 ^ i) → Rep ((a - b : Nat) : Int) := fun z i hz ⟨y, hy, hle⟩ => by
    refine ⟨z, i, ?_, by rw [Int.natAbs_natCast]; exact hz⟩
    rw [hz] at hle
    exact Nat.le_trans (Nat.le_of_mul_le_mul_right hle (Nat.two_pow_pos _)) hy
  rcases Nat.le_total k l with hkl | hkl
  · obtain ⟨i, rfl⟩ : ∃ i, l = k + i := ⟨l - k, by omega⟩
    refine hsub (p - q * 2 ^ i) k ?_ ⟨p, hp, by rw [← ea]; omega⟩
    rw [Nat.sub_mul, ea, eb, Nat.pow_add, Nat.mul_comm (2 ^ k), Nat.mul_assoc]
  · obtain ⟨i, rfl⟩ : ∃ i, k = l + i := ⟨k - l, by omega⟩
    refine hsub (p * 2 ^ i - q) l ?_ ⟨q, hq, by rw [← eb]; omega⟩
    rw [Nat.sub_mul, ea, eb, Nat.pow_add, Nat.mul_comm (2 ^ l), Nat.mul_assoc]

theorem rep_whole (m : Nat) (hm : m ≤ 9007199254740992) : Rep ((m * oneV : Nat) : Int) := ⟨m, fixE, hm, by rw [Int.natAbs_natCast]; rfl⟩

/-- The square of a whole number. -/
structure Sq (n x : Nat) : Prop where
  n1 : 1 ≤ n
  n2 : n ≤ 16384
  num : isNum x
  val : fval x = ((n * oneV * n : Nat) : Int)
theorem Sq.inR {n x : Nat} (h : Sq n x) : inR x := by
  refine ⟨h.num, ?_, ?_⟩
  · have hv := h.val
    have h1 : fval 4427486594234968593 < fval 4607182418800017408 := by
      have hq : f64.order 4427486594234968593 4607182418800017408 = some .lt := by kernel_rfl
      rw [order_val (isNum_of minq_num) (isNum_of one_num)] at hq
      injection hq with hq
      exact Int.compare_eq_lt.1 hq
    rw [one_val] at h1
    have h2 : 1 * oneV * 1 ≤ n * oneV * n := Nat.mul_le_mul (Nat.mul_le_mul h.n1 (Nat.le_refl _)) h.n1
    omega
  · have hv := h.val
    have h2 : n * oneV * n ≤ 16384 * oneV * 16384 := Nat.mul_le_mul (Nat.mul_le_mul h.n2 (Nat.le_refl _)) h.n2
    rw [maxq_val]
    omega
theorem Sq.mul {n x : Nat} (h : Sq n x) : (fval x).toNat * oneV = (n * oneV) * (n * oneV) := by
  rw [h.val, Int.toNat_natCast, Nat.mul_assoc (n * oneV)]

theorem mul_sides {a G : Nat} (h0 : a ≤ G) (h1 : G ≤ 2 * a) : (2 * a - G) * G + (G - a) * (G - a) = a * a := by
  obtain ⟨d, rfl⟩ : ∃ d, G = a + d := ⟨G - a, by omega⟩
  obtain ⟨c, rfl⟩ : ∃ c, a = c + d := ⟨a - d, by omega⟩
  rw [show 2 * (c + d) - (c + d + d) = c by omega, show c + d + d - (c + d) = d by omega]
  simp only [Nat.mul_add, Nat.add_mul]
  rw [Nat.mul_comm d c]
  omega

/-- What a step makes of a number from n on, below the square. -/
theorem sq_base {n x g : Nat} (h : Sq n x) (hg : isNum g) (g0 : n * oneV ≤ (fval g).toNat) (gx : (fval g).toNat ≤ n * oneV * n) :
    isNum (newt x g) ∧ (fval (newt x g)).toNat ≤ n * oneV * n ∧ 0 ≤ fval (newt x g) ∧ fval (newtS x g) = 2 * fval (newt x g) ∧ Near (fval (newtQ x g)).toNat ((n * oneV) * (n * oneV)) (fval g).toNat ∧
      NearI (fval (newtS x g)) (((fval g).toNat + (fval (newtQ x g)).toNat : Nat) : Int) 1 ∧ (fval (newtQ x g)).toNat ≤ n * oneV ∧ ((fval g).toNat ≤ 2 * (n * oneV) → 2 * (n * oneV) - (fval g).toNat ≤ (fval (newtQ x g)).toNat) := by
  have hol := oneV_low
  have hlb := lowV_big
  have hn1 := h.n1
  have hn2 := h.n2
  have hmul := h.mul
  have hval := h.val
  obtain ⟨b0, b1⟩ := inR_bd h.inR
  have hnU : oneV ≤ n * oneV := Nat.le_mul_of_pos_left _ hn1
  have hrx : Rep (fval x) := rep_num h.num
  have hr1 : Rep (oneV : Int) := by rw [← one_val]; exact rep_num (isNum_of one_num)
  obtain ⟨_, _, _, rn, _, r0, r1, _, nq2, _, ns, hs, q0⟩ := newt_step (mn := (oneV : Int)) (mx := fval x) h.num hg hr1 hrx (Int.mul_comm _ _) (by omega) b1 (by omega) b1 (by omega) (by omega)
  rw [hmul] at nq2
  rw [show fval g + fval (newtQ x g) = (((fval g).toNat + (fval (newtQ x g)).toNat : Nat) : Int) by omega] at ns
  refine ⟨rn, by omega, by omega, hs, nq2, ns, ?_, fun h2 => ?_⟩
  · have := (nq2 n fixE (by omega)).2.1
    exact this (Nat.mul_le_mul_left (n * oneV) g0)
  · have ha : Rep ((2 * (n * oneV) : Nat) : Int) := by
      have := rep_whole (2 * n) (by omega)
      rw [Nat.mul_assoc] at this
      exact this
    have hb : Rep (((fval g).toNat : Nat) : Int) := by
      rw [show (((fval g).toNat : Nat) : Int) = fval g by omega]; exact rep_num hg
    obtain ⟨p, k, hp, he⟩ := rep_sub ha hb h2 (by omega)
    rw [Int.natAbs_natCast] at he
    rw [he]
    refine (nq2 p k hp).1 ?_
    rw [← he]
    have := mul_sides g0 h2
    omega

theorem rep_roof (n e : Nat) (hn : n ≤ 16384) (he : e ≤ fixE + 28) (he2 : fixE ≤ e + 37) : Rep ((2 * (n * oneV) + 2 ^ (e + 1) : Nat) : Int) := by
  rcases Nat.lt_or_ge fixE (e + 1) with h | h
  · obtain ⟨j, hj⟩ : ∃ j, e + 1 = fixE + j := ⟨e + 1 - fixE, by omega⟩
    have hp : 2 ^ j ≤ 2 ^ 29 := Nat.pow_le_pow_right (by omega) (by omega)
    have e29 : (2 : Nat) ^ 29 = 536870912 := rfl
    refine ⟨2 * n + 2 ^ j, fixE, by omega, ?_⟩
    rw [Int.natAbs_natCast, hj, Nat.pow_add, Nat.add_mul, Nat.mul_comm (2 ^ fixE), Nat.mul_assoc]
    rfl
  · obtain ⟨j, hj⟩ : ∃ j, fixE = e + 1 + j := ⟨fixE - (e + 1), by omega⟩
    have hp : 2 ^ j ≤ 2 ^ 36 := Nat.pow_le_pow_right (by omega) (by omega)
    have e36 : (2 : Nat) ^ 36 = 68719476736 := rfl
    have hm : 2 * n * 2 ^ j ≤ 32768 * 2 ^ 36 := Nat.mul_le_mul (by omega) hp
    refine ⟨2 * n * 2 ^ j + 1, e + 1, by omega, ?_⟩
    rw [Int.natAbs_natCast, Nat.add_mul, Nat.one_mul]
    unfold oneV
    rw [hj, Nat.pow_add 2 (e + 1) j, Nat.mul_comm (2 ^ (e + 1)), Nat.mul_assoc, Nat.mul_assoc]

/-- The steps go down to the number, and never below it. -/
theorem sq_step {n x g : Nat} (h : Sq n x) (hg : isNum g) (e : Nat) (he : e ≤ fixE + 28) (he2 : fixE ≤ e + 37) (g0 : n * oneV ≤ (fval g).toNat) (g1 : (fval g).toNat ≤ n * oneV + 2 ^ (e + 1)) (gx : (fval g).toNat ≤ n * oneV * n) :
    isNum (newt x g) ∧ n * oneV ≤ (fval (newt x g)).toNat ∧ (fval (newt x g)).toNat ≤ n * oneV + 2 ^ e ∧ (fval (newt x g)).toNat ≤ n * oneV * n := by
  obtain ⟨rn, rx, r0, hs, _, ns, qhi, qlo⟩ := sq_base h hg g0 gx
  have hn2 := h.n2
  have lo := (ns ((2 * (n * oneV) : Nat) : Int) (by have := rep_whole (2 * n) (by omega); rw [Nat.mul_assoc] at this; exact this)).1
  have hi := (ns _ (rep_roof n e hn2 he he2)).2
  have e2 : 2 ^ (e + 1) = 2 * 2 ^ e := by rw [Nat.pow_succ, Nat.mul_comm]
  rw [e2] at hi g1
  clear he he2 ns
  generalize 2 ^ e = E at *
  generalize n * oneV = a at *
  have l1 : 2 * a ≤ (fval g).toNat + (fval (newtQ x g)).toNat := by
    rcases Nat.le_total (fval g).toNat (2 * a) with h | h
    · have := qlo h; omega
    · omega
  have lo' := lo (by omega)
  have hi' := hi (by omega)
  exact ⟨rn, by omega, by omega, rx⟩

/-- Near enough, the next step is the number. -/
theorem sq_last {n x g : Nat} (h : Sq n x) (hg : isNum g) (g0 : n * oneV ≤ (fval g).toNat) (g1 : (fval g).toNat ≤ n * oneV + 2 ^ (fixE - 29)) (gx : (fval g).toNat ≤ n * oneV * n) :
    isNum (newt x g) ∧ fval (newt x g) = ((n * oneV : Nat) : Int) := by
  obtain ⟨rn, rx, r0, hs, nq, ns, qhi, qlo⟩ := sq_base h hg g0 gx
  have hE := fixE_eq
  have hol := oneV_low
  have hlb := lowV_big
  have hn1 := h.n1
  have hn2 := h.n2
  have hnU : oneV ≤ n * oneV := Nat.le_mul_of_pos_left _ hn1
  have h29 : oneV = 536870912 * 2 ^ (fixE - 29) := by
    unfold oneV
    rw [show (536870912 : Nat) = 2 ^ 29 from rfl, ← Nat.pow_add, show 29 + (fixE - 29) = fixE by omega]
  have ha : Rep ((2 * (n * oneV) : Nat) : Int) := by
    have := rep_whole (2 * n) (by omega)
    rw [Nat.mul_assoc] at this
    exact this
  have hb : Rep (((fval g).toNat : Nat) : Int) := by
    rw [show (((fval g).toNat : Nat) : Int) = fval g by omega]; exact rep_num hg
  have hc := rep_sub ha hb (by omega) (by omega)
  obtain ⟨q, k, q0, q1, he⟩ := rep_norm hc (by omega)
  have hms := mul_sides g0 (show (fval g).toNat ≤ 2 * (n * oneV) by omega)
  have hq : (fval (newtQ x g)).toNat ≤ q * 2 ^ k := by
    refine (nq q k (by omega)).2.2 q0 q1 ?_
    have hkc : q * 2 ^ k < 9007199254740992 * 2 ^ k := Nat.mul_lt_mul_of_pos_right q1 (Nat.two_pow_pos _)
    rw [← he] at hkc
    have e1 : (2 * q + 1) * 2 ^ k * (fval g).toNat = 2 * ((2 * (n * oneV) - (fval g).toNat) * (fval g).toNat) + 2 ^ k * (fval g).toNat := by
      rw [he, Nat.add_mul, Nat.one_mul, Nat.add_mul, Nat.mul_assoc 2, Nat.mul_assoc 2]
    rw [e1, ← hms]
    -- the square of what is too much is less than half a last place
    obtain ⟨d, hd⟩ : ∃ d, d = (fval g).toNat - n * oneV := ⟨_, rfl⟩
    rw [← hd]
    have hd1 : 536870912 * d ≤ n * oneV := by omega
    have hk1 : n * oneV ≤ 18014398509481984 * 2 ^ k := by omega
    have m1 : (536870912 * d) * (536870912 * d) ≤ (n * oneV) * (n * oneV) := Nat.mul_le_mul hd1 hd1
    have m2 : (n * oneV) * (n * oneV) ≤ 18014398509481984 * (2 ^ k * (fval g).toNat) := Nat.le_trans (Nat.mul_le_mul hk1 g0) (Nat.le_of_eq (Nat.mul_assoc _ _ _))
    have m3 : (536870912 * d) * (536870912 * d) = 288230376151711744 * (d * d) := by
      rw [Nat.mul_assoc, Nat.mul_left_comm d 536870912 d, ← Nat.mul_assoc]
    rw [m3] at m1
    have hpos : 0 < 2 ^ k * (fval g).toNat := Nat.mul_pos (Nat.two_pow_pos _) (by omega)
    clear hms e1 nq ns hkc he m3
    generalize 2 ^ k * (fval g).toNat = z at *
    generalize d * d = y at *
    generalize (2 * (n * oneV) - (fval g).toNat) * (fval g).toNat = t at *
    generalize n * oneV * (n * oneV) = v at *
    omega
  have hq2 := qlo (by omega)
  rw [he] at hq2
  have hsum : (((fval g).toNat + (fval (newtQ x g)).toNat : Nat) : Int) = ((2 * (n * oneV) : Nat) : Int) * ((1 : Nat) : Int) := by omega
  rw [hsum] at ns
  have hfin := ns.exact ha
  refine ⟨rn, ?_⟩
  omega

theorem sq_iter {n x : Nat} (h : Sq n x) (j : Nat) (hj : j ≤ 57) : isNum (newtN x x j) ∧ n * oneV ≤ (fval (newtN x x j)).toNat ∧ (fval (newtN x x j)).toNat ≤ n * oneV + 2 ^ (fixE + 28 - j) ∧ (fval (newtN x x j)).toNat ≤ n * oneV * n := by
  have hE := fixE_eq
  induction j with
  | zero =>
    have hval := h.val
    have hn1 := h.n1
    have e : (fval (newtN x x 0)).toNat = n * oneV * n := by show (fval x).toNat = _; rw [hval, Int.toNat_natCast]
    refine ⟨h.num, ?_, ?_, by rw [e]; exact Nat.le_refl _⟩
    · rw [e]; exact Nat.le_mul_of_pos_right _ hn1
    · rw [e, Nat.sub_zero]
      have hn2 := h.n2
      have h1 : n * oneV * n ≤ 16384 * oneV * 16384 := Nat.mul_le_mul (Nat.mul_le_mul hn2 (Nat.le_refl _)) hn2
      have key : n * oneV * n ≤ n * oneV + oneV * 268435456 := by clear hE e hval; generalize oneV = u at *; omega
      have e28 : 2 ^ (fixE + 28) = oneV * 268435456 := by
        rw [Nat.pow_add, show (268435456 : Nat) = 2 ^ 28 from rfl]; unfold oneV; exact rfl
      exact Nat.le_trans key (Nat.le_of_eq (congrArg (fun z => n * oneV + z) e28.symm))
  | succ j ih =>
    obtain ⟨i1, i2, i3, i4⟩ := ih (by omega)
    have := sq_step h i1 (fixE + 28 - (j + 1)) (by omega) (by omega) i2 (by rw [show fixE + 28 - (j + 1) + 1 = fixE + 28 - j by omega]; exact i3) i4
    exact this

/-- The root of the square of a whole number. -/
theorem root_sq {n x : Nat} (h : Sq n x) : isNum (newtN x x 60) ∧ fval (newtN x x 60) = ((n * oneV : Nat) : Int) := by
  have hE := fixE_eq
  obtain ⟨i1, i2, i3, i4⟩ := sq_iter h 57 (by omega)
  rw [show fixE + 28 - 57 = fixE - 29 by omega] at i3
  have hnx : n * oneV ≤ n * oneV * n := Nat.le_mul_of_pos_right _ h.n1
  have keep : ∀ g, isNum g → fval g = ((n * oneV : Nat) : Int) → isNum (newt x g) ∧ fval (newt x g) = ((n * oneV : Nat) : Int) := fun g a b => by
    refine sq_last h a ?_ ?_ ?_
    · rw [b, Int.toNat_natCast]; exact Nat.le_refl _
    · rw [b, Int.toNat_natCast]; exact Nat.le_add_right _ _
    · rw [b, Int.toNat_natCast]; exact hnx
  obtain ⟨a1, a2⟩ := sq_last h i1 i2 i3 i4
  obtain ⟨b1, b2⟩ := keep _ a1 a2
  exact keep _ b1 b2
end Go.Proofs.Ytonoknbangnleaa
