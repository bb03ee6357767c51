/- Roots: how near sixty steps of Newton's come. Nothing here speaks of the program. -/
import Derived.Test.YtonoknbangnleaaRtM
namespace Go.Proofs.Ytonoknbangnleaa
open Go.RowKit Ieee

theorem rep_nat2 {q k : Nat} (hq : q ≤ 9007199254740992) : Rep ((q * 2 ^ k : Nat) : Int) := ⟨q, k, hq, Int.natAbs_natCast _⟩
theorem isqrt_ex (M : Nat) : ∃ a, a * a ≤ M ∧ M < (a + 1) * (a + 1) := by
  induction M with
  | zero => exact ⟨0, by omega, by omega⟩
  | succ M ih =>
    obtain ⟨a, h1, h2⟩ := ih
    rcases Nat.lt_or_ge (M + 1) ((a + 1) * (a + 1)) with h | h
    · exact ⟨a, by omega, h⟩
    · refine ⟨a + 1, by omega, ?_⟩
      have : (a + 1) * (a + 1) < (a + 1 + 1) * (a + 1 + 1) := Nat.mul_lt_mul_of_lt_of_lt (by omega) (by omega)
      omega
theorem pow_sq (e : Nat) : 2 ^ e * 2 ^ e = 2 ^ (2 * e) := by rw [← Nat.pow_add, Nat.two_mul]
/-- A root to 24 digits. -/
theorem root24 (N : Nat) (hN : 2 ^ 46 ≤ N) : ∃ a e, 8388608 ≤ a ∧ a < 16777216 ∧ (a * 2 ^ e) * (a * 2 ^ e) ≤ N ∧ N < ((a + 1) * 2 ^ e) * ((a + 1) * 2 ^ e) ∧ 2 * e + 46 ≤ N.log2 ∧ N.log2 ≤ 2 * e + 47 := by
  have h0 : N ≠ 0 := by have := Nat.two_pow_pos 46; omega
  have hl : 46 ≤ N.log2 := (Nat.le_log2 h0).2 hN
  have h1 : 2 ^ N.log2 ≤ N := Nat.log2_self_le h0
  have h2 : N < 2 ^ (N.log2 + 1) := Nat.lt_log2_self
  obtain ⟨e, he⟩ : ∃ e, e = (N.log2 - 46) / 2 := ⟨_, rfl⟩
  have e1 : 2 * e + 46 ≤ N.log2 := by omega
  have e2 : N.log2 ≤ 2 * e + 47 := by omega
  have hp : 0 < 2 ^ (2 * e) := Nat.two_pow_pos _
  have b1 : 70368744177664 * 2 ^ (2 * e) ≤ N := by
    refine Nat.le_trans ?_ h1
    rw [show (70368744177664 : Nat) = 2 ^ 46 from rfl, ← Nat.pow_add]
    exact Nat.pow_le_pow_right (by omega) (by omega)
  have b2 : N < 281474976710656 * 2 ^ (2 * e) := by
    refine Nat.lt_of_lt_of_le h2 ?_
    rw [show (281474976710656 : Nat) = 2 ^ 48 from rfl, ← Nat.pow_add]
    exact Nat.pow_le_pow_right (by omega) (by omega)
  obtain ⟨a, a1, a2⟩ := isqrt_ex (N / 2 ^ (2 * e))
  have m1 : 70368744177664 ≤ N / 2 ^ (2 * e) := (Nat.le_div_iff_mul_le hp).2 b1
  have m2 : N / 2 ^ (2 * e) < 281474976710656 := (Nat.div_lt_iff_lt_mul hp).2 b2
  have hlo : 8388608 ≤ a := by
    rcases Nat.lt_or_ge a 8388608 with h | h
    · have : (a + 1) * (a + 1) ≤ 8388608 * 8388608 := Nat.mul_le_mul h h
      omega
    · exact h
  have hhi : a < 16777216 := by
    rcases Nat.lt_or_ge a 16777216 with h | h
    · exact h
    · have : 16777216 * 16777216 ≤ a * a := Nat.mul_le_mul h h
      omega
  have sq : ∀ b : Nat, (b * 2 ^ e) * (b * 2 ^ e) = b * b * 2 ^ (2 * e) := fun b => by rw [Nat.mul_mul_mul_comm, pow_sq]
  have hdm := Nat.div_add_mod N (2 ^ (2 * e))
  have hml := Nat.mod_lt N hp
  refine ⟨a, e, hlo, hhi, ?_, ?_, e1, e2⟩
  · rw [sq]
    exact (Nat.le_div_iff_mul_le hp).1 a1
  · rw [sq]
    have := Nat.mul_le_mul_right (2 ^ (2 * e)) (show N / 2 ^ (2 * e) + 1 ≤ (a + 1) * (a + 1) from a2)
    rw [Nat.add_mul, Nat.one_mul, Nat.mul_comm] at this
    omega

/-- One step, between G and what halves towards R. -/
theorem acc_step {x g a e f : Nat} {mn mx : Int} (hx : isNum x) (hg : isNum g) (hmn : Rep mn) (hmx : Rep mx) (hprod : mn * mx = fval x * (oneV : Int)) (x0 : 0 < fval x) (x1 : fval x ≤ 144115188075855872 * (oneV : Int))
    (m0 : (lowV : Int) ≤ mn) (m1 : mx ≤ 144115188075855872 * (oneV : Int)) (g0 : mn ≤ fval g) (g1 : fval g ≤ mx)
    (ha0 : 8388608 ≤ a) (ha : a < 16777216) (s0 : (a * 2 ^ e) * (a * 2 ^ e) ≤ (fval x).toNat * oneV) (s1 : (fval x).toNat * oneV < ((a + 1) * 2 ^ e) * ((a + 1) * 2 ^ e))
    (lo : a * 2 ^ e ≤ (fval g).toNat) (hi : (fval g).toNat + (a + 3) * 2 ^ e ≤ 2 * ((a + 3) * 2 ^ e) + 2 ^ f) (f0 : f ≤ e + 52) (f1 : e ≤ f + 7) :
    a * 2 ^ e ≤ (fval (newt x g)).toNat ∧ 2 * (fval (newt x g)).toNat ≤ 2 * ((a + 3) * 2 ^ e) + 2 ^ f := by
  obtain ⟨_, _, _, rn, _, r0, _, _, nq, _, ns, hs, q0⟩ := newt_step hx hg hmn hmx hprod x0 x1 m0 m1 g0 g1
  have hlb := lowV_big
  have eg : (((fval g).toNat : Nat) : Int) = fval g := by omega
  have eq : (((fval (newtQ x g)).toNat : Nat) : Int) = fval (newtQ x g) := by omega
  -- the quotient is at most R
  have qhi : (fval (newtQ x g)).toNat ≤ (a + 3) * 2 ^ e := by
    refine (nq (a + 3) e (by omega)).2.1 ?_
    refine Nat.le_trans (Nat.le_of_lt s1) (Nat.le_trans ?_ (Nat.mul_le_mul_left ((a + 3) * 2 ^ e) lo))
    have e1 : ∀ b c : Nat, (b * 2 ^ e) * (c * 2 ^ e) = b * c * (2 ^ e * 2 ^ e) := fun b c => Nat.mul_mul_mul_comm _ _ _ _
    rw [e1, e1]
    refine Nat.mul_le_mul_right _ ?_
    have : a ≤ a * a := Nat.le_mul_of_pos_left _ (by omega)
    simp only [Nat.add_mul, Nat.mul_add]
    omega
  have ra : Rep ((2 * (a * 2 ^ e) : Nat) : Int) := by
    have := rep_nat2 (q := 2 * a) (k := e) (by omega)
    rw [Nat.mul_assoc] at this; exact this
  have rg : Rep (((fval g).toNat : Nat) : Int) := by rw [eg]; exact rep_num hg
  have qlo : (fval g).toNat ≤ 2 * (a * 2 ^ e) → 2 * (a * 2 ^ e) - (fval g).toNat ≤ (fval (newtQ x g)).toNat := fun h2 => by
    obtain ⟨p, k, hp, he⟩ := rep_sub ra rg h2 (by omega)
    rw [Int.natAbs_natCast] at he
    rw [he]
    refine (nq p k hp).1 ?_
    rw [← he]
    have := mul_sides lo h2
    omega
  have sum : fval g + fval (newtQ x g) = (((fval g).toNat + (fval (newtQ x g)).toNat : Nat) : Int) := by omega
  rw [sum] at ns
  have slo := (ns _ ra).1
  have rb : Rep ((2 * ((a + 3) * 2 ^ e) + 2 ^ f : Nat) : Int) := by
    rcases Nat.lt_or_ge f e with h | h
    · obtain ⟨j, rfl⟩ : ∃ j, e = f + j := ⟨e - f, by omega⟩
      have hj : 2 ^ j ≤ 2 ^ 7 := Nat.pow_le_pow_right (by omega) (by omega)
      have e7 : (2 : Nat) ^ 7 = 128 := rfl
      have hm : (2 * (a + 3)) * 2 ^ j ≤ 33554438 * 128 := Nat.mul_le_mul (by omega) (by omega)
      have := rep_nat2 (q := 2 * (a + 3) * 2 ^ j + 1) (k := f) (by omega)
      rw [Nat.add_mul, Nat.one_mul, Nat.mul_assoc, Nat.mul_assoc, Nat.mul_comm (2 ^ j), ← Nat.pow_add] at this
      exact this
    · obtain ⟨j, rfl⟩ : ∃ j, f = e + j := ⟨f - e, by omega⟩
      have hj : 2 ^ j ≤ 2 ^ 52 := Nat.pow_le_pow_right (by omega) (by omega)
      have e52 : (2 : Nat) ^ 52 = 4503599627370496 := rfl
      have := rep_nat2 (q := 2 * (a + 3) + 2 ^ j) (k := e) (by omega)
      rw [Nat.add_mul, Nat.mul_assoc, Nat.mul_comm (2 ^ j), ← Nat.pow_add] at this
      exact this
  have shi := (ns _ rb).2
  clear ns nq ra rg rb s0 s1 hprod
  generalize (a + 3) * 2 ^ e = R at *
  generalize a * 2 ^ e = G at *
  generalize 2 ^ f = E at *
  have l1 : 2 * G ≤ (fval g).toNat + (fval (newtQ x g)).toNat := by
    rcases Nat.le_total (fval g).toNat (2 * G) with h | h
    · have := qlo h; omega
    · omega
  have := slo (by omega)
  have := shi (by omega)
  omega

/-- Sixty steps: the square of the root is near. -/
theorem root_acc {x g : Nat} (hx : inR x) (hb : begins x g) : isNum (newtN x g 60) ∧ 0 ≤ fval (newtN x g 60) ∧
    4194303 * ((fval x).toNat * oneV) ≤ 4194304 * ((fval (newtN x g 60)).toNat * (fval (newtN x g 60)).toNat) ∧ 1000000 * ((fval (newtN x g 60)).toNat * (fval (newtN x g 60)).toNat) ≤ 1000001 * ((fval x).toNat * oneV) := by
  have hE := fixE_eq
  obtain ⟨b0, b1⟩ := inR_bd hx
  have hlb := lowV_big
  have hol := oneV_low
  obtain ⟨mn, mx, hmn, hmx, hprod, m0, m1, mo, hg, g0, g1⟩ := begin_bounds hx hb
  have hin := newtN_in hx hmn hmx hprod m0 m1 hg g0 g1
  have hN : 2 ^ 46 ≤ (fval x).toNat * oneV := by
    have h1 : (2 : Nat) ^ 46 = 70368744177664 := rfl
    have : lowV * 1 ≤ (fval x).toNat * oneV := Nat.mul_le_mul (by omega) (by omega)
    omega
  obtain ⟨a, e, ha0, ha, s0, s1, l0, l1⟩ := root24 _ hN
  have hN0 : (fval x).toNat * oneV ≠ 0 := by omega
  -- the first number, and how far it is
  have hm : ∃ m, (fval g).toNat ≤ 2 ^ m ∧ m ≤ e + 52 ∧ e + 24 ≤ m ∧ a * 2 ^ e ≤ (fval g).toNat := by
    have hG : a * 2 ^ e * (a * 2 ^ e) ≤ (fval g).toNat * (fval g).toNat → a * 2 ^ e ≤ (fval g).toNat := fun h => by
      rcases Nat.lt_or_ge (fval g).toNat (a * 2 ^ e) with h2 | h2
      · have := Nat.mul_lt_mul_of_lt_of_lt h2 h2; omega
      · exact h2
    rcases hb with ⟨hl, hg2⟩ | ⟨hl, hg2⟩
    · -- less than one
      have hv : (fval g).toNat = oneV := by rw [hg2, one_val, Int.toNat_natCast]
      rw [hv] at hG ⊢
      have hlt : (fval x).toNat * oneV < 2 ^ (2 * fixE) := by
        rw [← pow_sq]
        exact Nat.mul_lt_mul_of_pos_right (show (fval x).toNat < oneV by omega) (Nat.two_pow_pos _)
      have hge : 2 ^ (2 * fixE - 41) ≤ (fval x).toNat * oneV := by
        have h2 : lowV * oneV ≤ (fval x).toNat * oneV := Nat.mul_le_mul_right _ (by omega)
        refine Nat.le_trans ?_ h2
        unfold lowV oneV
        rw [← Nat.pow_add]
        exact Nat.pow_le_pow_right (by omega) (by omega)
      have k1 := (Nat.log2_lt hN0).2 hlt
      have k2 := (Nat.le_log2 hN0).2 hge
      refine ⟨fixE, Nat.le_refl _, by omega, by omega, hG (Nat.le_trans s0 ?_)⟩
      exact Nat.mul_le_mul_right _ (by omega)
    · rw [hg2] at hG ⊢
      obtain ⟨j, hj⟩ : ∃ j, j = (fval x).toNat.log2 := ⟨_, rfl⟩
      have hx0 : (fval x).toNat ≠ 0 := by omega
      have c1 : 2 ^ j ≤ (fval x).toNat := by rw [hj]; exact Nat.log2_self_le hx0
      have c2 : (fval x).toNat < 2 ^ (j + 1) := by rw [hj]; exact Nat.lt_log2_self
      have j0 : fixE ≤ j := by
        rw [hj]
        refine (Nat.le_log2 hx0).2 ?_
        show oneV ≤ _
        omega
      have j1 : j < fixE + 57 := by
        rw [hj]
        refine (Nat.log2_lt hx0).2 ?_
        have h3 := hx.2.2
        rw [maxq_val] at h3
        have h57 : 2 ^ (fixE + 57) = 144115188075855872 * oneV := by
          rw [Nat.pow_add, Nat.mul_comm]; rfl
        rw [h57]
        omega
      have hlog : ((fval x).toNat * oneV).log2 = j + fixE := by
        refine (Nat.log2_eq_iff hN0).2 ⟨?_, ?_⟩
        · rw [Nat.pow_add]; exact Nat.mul_le_mul_right _ c1
        · rw [show j + fixE + 1 = (j + 1) + fixE by omega, Nat.pow_add]; exact Nat.mul_lt_mul_of_pos_right c2 (Nat.two_pow_pos _)
      rw [hlog] at l0 l1
      refine ⟨j + 1, Nat.le_of_lt c2, by omega, by omega, hG (Nat.le_trans s0 ?_)⟩
      exact Nat.mul_le_mul_left _ (by omega)
  obtain ⟨m, q1, q2, q3, q4⟩ := hm
  -- all the steps
  have all : ∀ k, k ≤ 60 → a * 2 ^ e ≤ (fval (newtN x g k)).toNat ∧ (fval (newtN x g k)).toNat ≤ (a + 3) * 2 ^ e + 2 ^ (max (m - k) (e - 8)) := fun k => by
    induction k with
    | zero =>
      intro _
      refine ⟨q4, ?_⟩
      show (fval g).toNat ≤ _
      rw [show max (m - 0) (e - 8) = m by omega]
      omega
    | succ k ih =>
      intro hk
      obtain ⟨i1, i2⟩ := ih (by omega)
      obtain ⟨n1, n2, n3⟩ := hin k
      obtain ⟨f, hf⟩ : ∃ f, f = max (m - (k + 1)) (e - 8) + 1 := ⟨_, rfl⟩
      have hle : 2 ^ (max (m - k) (e - 8)) ≤ 2 ^ f := Nat.pow_le_pow_right (by omega) (by omega)
      have hst := acc_step (x := x) (g := newtN x g k) (a := a) (e := e) (f := f) hx.1 n1 hmn hmx hprod (by omega) b1 m0 m1 n2 n3 ha0 ha s0 s1 i1 (by omega) (by omega) (by omega)
      refine ⟨hst.1, ?_⟩
      have h2 := hst.2
      have ef : 2 ^ f = 2 * 2 ^ (max (m - (k + 1)) (e - 8)) := by rw [hf, Nat.pow_succ, Nat.mul_comm]
      rw [ef] at h2
      show (fval (newt x (newtN x g k))).toNat ≤ _
      omega
  obtain ⟨r0, r1⟩ := all 60 (by omega)
  rw [show max (m - 60) (e - 8) = e - 8 by omega] at r1
  obtain ⟨n1, n2, _⟩ := hin 60
  have hp8 : 2 ^ (e - 8) ≤ 2 ^ e := Nat.pow_le_pow_right (by omega) (by omega)
  have r2 : (fval (newtN x g 60)).toNat ≤ (a + 4) * 2 ^ e := by
    rw [Nat.add_mul] at r1 ⊢
    omega
  refine ⟨n1, by omega, ?_, ?_⟩
  · have t1 := Nat.mul_le_mul r0 r0
    have e1 : ∀ b : Nat, (b * 2 ^ e) * (b * 2 ^ e) = b * b * (2 ^ e * 2 ^ e) := fun b => Nat.mul_mul_mul_comm _ _ _ _
    rw [e1] at s1 t1
    have key : 4194303 * ((a + 1) * (a + 1)) ≤ 4194304 * (a * a) := by
      have : 8388608 * (a + 1) ≤ (a + 1) * (a + 1) := Nat.mul_le_mul_right _ (by omega)
      have h2 : (a + 1) * (a + 1) = a * a + 2 * a + 1 := by simp only [Nat.add_mul, Nat.mul_add]; omega
      generalize (a + 1) * (a + 1) = u at *
      generalize a * a = v at *
      omega
    have k2 := Nat.mul_le_mul_right (2 ^ e * 2 ^ e) key
    rw [Nat.mul_assoc 4194303, Nat.mul_assoc 4194304] at k2
    generalize (a + 1) * (a + 1) * (2 ^ e * 2 ^ e) = u at *
    generalize a * a * (2 ^ e * 2 ^ e) = v at *
    omega
  · have t1 := Nat.mul_le_mul r2 r2
    have e1 : ∀ b : Nat, (b * 2 ^ e) * (b * 2 ^ e) = b * b * (2 ^ e * 2 ^ e) := fun b => Nat.mul_mul_mul_comm _ _ _ _
    rw [e1] at s0 t1
    have key : 1000000 * ((a + 4) * (a + 4)) ≤ 1000001 * (a * a) := by
      have : 8388608 * a ≤ a * a := Nat.mul_le_mul_right _ ha0
      have h2 : (a + 4) * (a + 4) = a * a + 8 * a + 16 := by simp only [Nat.add_mul, Nat.mul_add]; omega
      generalize (a + 4) * (a + 4) = u at *
      generalize a * a = v at *
      omega
    have k2 := Nat.mul_le_mul_right (2 ^ e * 2 ^ e) key
    rw [Nat.mul_assoc 1000000, Nat.mul_assoc 1000001] at k2
    generalize (a + 4) * (a + 4) * (2 ^ e * 2 ^ e) = u at *
    generalize a * a * (2 ^ e * 2 ^ e) = v at *
    omega
end Go.Proofs.Ytonoknbangnleaa
