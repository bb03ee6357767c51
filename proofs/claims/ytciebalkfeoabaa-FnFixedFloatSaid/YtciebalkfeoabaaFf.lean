/- A whole number of thousandths, as a float, times a thousand, rounds to that number again. Nothing here speaks of the program. -/
import Derived.Test.YtciebalkfeoabaaFe
namespace Go.Proofs.Ytciebalkfeoabaa
open Go.RowKit Ieee

theorem fb64 : f64.fractionBits = 52 := by kernel_rfl
theorem cN_num : f64.read 4652007308841189376 = .number false 8796093022208000 (-43) := by kernel_rfl
theorem cN_log : Nat.log2 8796093022208000 = 52 := by kernel_rfl

/-- A quotient with its sticky digit is within one of twice the quotient. -/
theorem sticky_near (D N : Nat) (hN : 0 < N) : (2 * (D / N) + (D % N != 0).toNat) * N ≤ 2 * D + N ∧ 2 * D ≤ (2 * (D / N) + (D % N != 0).toNat) * N + N := by
  have h1 := Nat.div_add_mod D N
  have h2 := Nat.mod_lt D hN
  rw [Nat.mul_comm] at h1
  generalize D / N = q at *
  by_cases h : D % N = 0
  · rw [h, Nat.add_zero] at h1
    rw [h]
    simp only [bne_self_eq_false, Bool.toNat_false, Nat.add_zero, Nat.mul_assoc]
    omega
  · have hb : (D % N != 0) = true := by simpa using h
    rw [hb]
    generalize D % N = r at *
    simp only [Bool.toNat_true, Nat.add_mul, Nat.one_mul, Nat.mul_assoc]
    omega

theorem sign_of (s : Bool) (a : Nat) (n : Int) (k : Nat) (hk : 0 < k) (hn : n ≠ 0) (h : (if s then -(a : Int) else (a : Int)) = n * (k : Int)) : s = decide (n < 0) := by
  rcases Int.lt_or_gt_of_ne hn with hl | hl
  · have : n * (k : Int) < 0 := Int.mul_neg_of_neg_of_pos hl (by omega)
    cases s
    · simp only [Bool.false_eq_true, if_false] at h; omega
    · simp [hl]
  · have : 0 < n * (k : Int) := Int.mul_pos hl (by omega)
    cases s
    · have : ¬ n < 0 := by omega
      simp [this]
    · simp only [if_true] at h; omega

set_option maxHeartbeats 1000000 in
/-- The quotient of a whole number and a thousand: its float is near. -/
theorem thou_div (n : Int) (h0 : -1000000000 ≤ n) (h1 : n ≤ 1000000000) (hn : n ≠ 0) (W : Nat) (hW : W = 2 ^ (fixE - 40)) :
    ∃ r B : Nat, f64.div (floatOfInt .f64 n) 4652007308841189376 = some r ∧ isNum r ∧ fval r = (if decide (n < 0) then -(B : Int) else (B : Int)) ∧
      1000 * B ≤ n.natAbs * oneV + 96000 * W ∧ n.natAbs * oneV ≤ 1000 * B + 96000 * W := by
  have hfE := fixE_eq
  have hWp : 0 < W := by rw [hW]; exact Nat.two_pow_pos _
  have h1W : oneV = 1099511627776 * W := by
    have e := pow_exp 40 (fixE - 40) (by omega)
    rw [← hW] at e
    rw [← e]
  have hpos : 0 < oneV := Nat.two_pow_pos _
  obtain ⟨⟨s, m, i, ex, hi, hm⟩, hv⟩ := ofInt_val n (by omega) (by omega)
  have hv' : fval (floatOfInt .f64 n) = signed s m (i + 1074).toNat := by unfold fval; rw [ex]; rfl
  rw [hv'] at hv
  have ham : m * 2 ^ (i + 1074).toNat = n.natAbs * oneV := by
    rw [← (val_amount s m (i + 1074).toNat).1, hv, Int.natAbs_mul]; rfl
  rw [signed_eq] at hv
  have hs := sign_of s _ n oneV hpos hn hv
  have hM1 : oneV ≤ n.natAbs * oneV := Nat.le_mul_of_pos_left _ (by omega)
  have hM2 : n.natAbs * oneV ≤ 1000000000 * oneV := Nat.mul_le_mul_right _ (by omega)
  obtain ⟨M, eM⟩ : ∃ M, n.natAbs * oneV = M := ⟨_, rfl⟩
  rw [eM] at ham hM1 hM2 ⊢
  have hm0 : m ≠ 0 := fun e => by rw [e, Nat.zero_mul] at ham; omega
  obtain ⟨L, eL⟩ : ∃ L, m.log2 = L := ⟨_, rfl⟩
  have hlow : 2 ^ L ≤ m := by rw [← eL]; exact Nat.log2_self_le hm0
  have hhigh : m < 2 ^ (L + 1) := by rw [← eL]; exact Nat.lt_log2_self
  have hL52 : L ≤ 52 := by
    have := (Nat.log2_lt hm0).2 (show m < 2 ^ 53 from hm)
    omega
  have hLu : L + (i + 1074).toNat < fixE + 30 := by
    have a1 : 2 ^ L * 2 ^ (i + 1074).toNat ≤ m * 2 ^ (i + 1074).toNat := Nat.mul_le_mul_right _ hlow
    rw [← Nat.pow_add, ham] at a1
    have a2 : 1000000000 * oneV < 2 ^ (fixE + 30) := by
      rw [Nat.pow_add, Nat.mul_comm]
      exact Nat.mul_lt_mul_of_pos_left (show 1000000000 < 2 ^ 30 by decide) hpos
    exact (Nat.pow_lt_pow_iff_right (by omega : 1 < 2)).1 (Nat.lt_of_le_of_lt (Nat.le_trans a1 hM2) a2)
  have hLl : fixE < L + 1 + (i + 1074).toNat := by
    have a1 : m * 2 ^ (i + 1074).toNat < 2 ^ (L + 1) * 2 ^ (i + 1074).toNat := Nat.mul_lt_mul_of_pos_right hhigh (Nat.two_pow_pos _)
    rw [← Nat.pow_add, ham] at a1
    exact (Nat.pow_lt_pow_iff_right (by omega : 1 < 2)).1 (Nat.lt_of_le_of_lt hM1 a1)
  -- the quotient
  obtain ⟨Q, eQ⟩ : ∃ Q, 2 * ((m <<< (106 - L)) / 8796093022208000) + ((m <<< (106 - L)) % 8796093022208000 != 0).toNat = Q := ⟨_, rfl⟩
  obtain ⟨pl, ep⟩ : ∃ pl : Int, i - -43 - ((106 - L : Nat) : Int) - 1 = pl := ⟨_, rfl⟩
  have hdiv : f64.div (floatOfInt .f64 n) 4652007308841189376 = some (f64.write (.number s Q pl)) := by
    unfold Format.div
    rw [ex, cN_num, fb64]
    simp only [Datum.quotient]
    rw [if_neg (by omega), cN_log, eL]
    show some (f64.write (.number (s ^^ false) (2 * ((m <<< (106 - L)) / 8796093022208000) + ((m <<< (106 - L)) % 8796093022208000 != 0).toNat) (i - -43 - ((106 - L : Nat) : Int) - 1))) = _
    rw [eQ, ep, Bool.xor_false]
  obtain ⟨q1, q2⟩ := sticky_near (m <<< (106 - L)) 8796093022208000 (by omega)
  rw [eQ, Nat.shiftLeft_eq] at q1 q2
  have hP2 : 2 ^ (pl + 1074).toNat ≤ 32 * W := by
    have e1 : 32 * W = 2 ^ (fixE - 35) := by
      rw [hW, show (32 : Nat) = 2 ^ 5 from rfl, ← Nat.pow_add]; congr 1; omega
    rw [e1]; exact Nat.pow_le_pow_right (by omega) (by omega)
  have hDP : m * 2 ^ (106 - L) * (2 * 2 ^ (pl + 1074).toNat) = M * 8796093022208 := by
    rw [← ham, show (8796093022208 : Nat) = 2 ^ 43 from rfl, Nat.mul_assoc, Nat.mul_assoc]
    congr 1
    rw [← Nat.mul_assoc, Nat.mul_comm (2 ^ (106 - L)) 2, ← Nat.pow_succ', ← Nat.pow_add, ← Nat.pow_add]
    congr 1
    omega
  have hAQ : 1000 * (Q * 2 ^ (pl + 1074).toNat) ≤ M + 1000 * 2 ^ (pl + 1074).toNat ∧ M ≤ 1000 * (Q * 2 ^ (pl + 1074).toNat) + 1000 * 2 ^ (pl + 1074).toNat := by
    have s1 := Nat.mul_le_mul_right (2 ^ (pl + 1074).toNat) q1
    have s2 := Nat.mul_le_mul_right (2 ^ (pl + 1074).toNat) q2
    have e1 : 2 * (m * 2 ^ (106 - L)) * 2 ^ (pl + 1074).toNat = M * 8796093022208 := by rw [← hDP]; rw [Nat.mul_comm 2, Nat.mul_assoc]
    have e2 : Q * 8796093022208000 * 2 ^ (pl + 1074).toNat = 8796093022208000 * (Q * 2 ^ (pl + 1074).toNat) := by rw [Nat.mul_comm Q, Nat.mul_assoc]
    rw [Nat.add_mul, e1, e2] at s1
    rw [Nat.add_mul, e1, e2] at s2
    clear hDP e1 e2
    generalize Q * 2 ^ (pl + 1074).toNat = X at *
    generalize 2 ^ (pl + 1074).toNat = Y at *
    omega
  obtain ⟨wn, B, wv, wb1, wb2⟩ := write_near s Q pl (fixE + 20) (by omega) (by omega) (by omega) (by
    have e1 : 2 ^ (fixE + 20) = 1048576 * oneV := by rw [Nat.pow_add, Nat.mul_comm]; rfl
    rw [e1]
    clear hDP q1 q2
    generalize Q * 2 ^ (pl + 1074).toNat = X at *
    generalize 2 ^ (pl + 1074).toNat = Y at *
    omega) (64 * W) (by
    rw [hW, show (64 : Nat) = 2 ^ 6 from rfl, ← Nat.pow_add]; congr 1; omega)
  refine ⟨_, B, hdiv, wn, by rw [wv, ← hs], ?_, ?_⟩
  all_goals
    clear hDP q1 q2 wn wv hdiv
    generalize Q * 2 ^ (pl + 1074).toNat = X at *
    generalize 2 ^ (pl + 1074).toNat = Y at *
    omega

set_option maxHeartbeats 1000000 in
/-- A whole number of thousandths, as a float, times a thousand: in range, and it rounds to that number. -/
theorem thou_back (n : Int) (h0 : -1000000000 ≤ n) (h1 : n ≤ 1000000000) (r : Nat) (hr : f64.div (floatOfInt .f64 n) 4652007308841189376 = some r) :
    ∃ p, floatBits .mul .f64 r 4652007308841189376 = some p ∧ isNum p ∧ (fval p).natAbs < 2000000001 * halfV ∧ rndI (fval p) = n := by
  have hfE := fixE_eq
  have hh := halfV_pos
  have h2 := oneV_eq
  have hpos : 0 < oneV := Nat.two_pow_pos _
  by_cases hn : n = 0
  · subst hn
    have e : f64.div (floatOfInt .f64 0) 4652007308841189376 = some 0 := by kernel_rfl
    rw [e] at hr
    injection hr with hr
    subst hr
    have e0 : f64.read 0 = .number false 0 (-1074) := by kernel_rfl
    have v0 : fval 0 = 0 := by unfold fval; rw [e0]; exact fl_signed_zero _ _
    refine ⟨0, by kernel_rfl, isNum_of e0, by rw [v0]; simp; omega, ?_⟩
    rw [v0]
    unfold rndI rndN
    rw [if_neg (by omega), Int.natAbs_zero, Nat.zero_add, Nat.div_eq_of_lt (by omega)]; rfl
  · obtain ⟨W, hW⟩ : ∃ W, W = 2 ^ (fixE - 40) := ⟨_, rfl⟩
    have hWp : 0 < W := by rw [hW]; exact Nat.two_pow_pos _
    have h1W : oneV = 1099511627776 * W := by
      have e := pow_exp 40 (fixE - 40) (by omega)
      rw [← hW] at e
      rw [← e]
    obtain ⟨r', B, hr', rn, rv, b1, b2⟩ := thou_div n h0 h1 hn W hW
    rw [hr] at hr'
    injection hr' with hr'
    subst hr'
    have hM1 : oneV ≤ n.natAbs * oneV := Nat.le_mul_of_pos_left _ (by omega)
    have hM2 : n.natAbs * oneV ≤ 1000000000 * oneV := Nat.mul_le_mul_right _ (by omega)
    obtain ⟨M, eM⟩ : ∃ M, n.natAbs * oneV = M := ⟨_, rfl⟩
    rw [eM] at b1 b2 hM1 hM2
    obtain ⟨t, mr, ir, er, hir, hmr⟩ := rn
    have rv' : fval r = signed t mr (ir + 1074).toNat := by unfold fval; rw [er]; rfl
    have ramt : mr * 2 ^ (ir + 1074).toNat = B := by
      rw [← (val_amount t mr (ir + 1074).toNat).1, ← rv', rv]
      split
      · rw [Int.natAbs_neg]; rfl
      · rfl
    have hBp : 0 < B := by omega
    have ht : t = decide (n < 0) := by
      rw [rv', signed_eq, ramt] at rv
      cases t <;> cases hd : decide (n < 0) <;> rw [hd] at rv <;> simp at rv <;> first | rfl | omega
    have hirl : -63 < ir := by
      have a1 : mr * 2 ^ (ir + 1074).toNat < 2 ^ 53 * 2 ^ (ir + 1074).toNat := Nat.mul_lt_mul_of_pos_right hmr (Nat.two_pow_pos _)
      rw [← Nat.pow_add, ramt] at a1
      have a2 : 2 ^ (fixE - 10) ≤ B := by
        have e1 : 2 ^ (fixE - 10) = 1073741824 * W := by
          rw [hW, show (1073741824 : Nat) = 2 ^ 30 from rfl, ← Nat.pow_add]; congr 1; omega
        rw [e1]; omega
      have := (Nat.pow_lt_pow_iff_right (by omega : 1 < 2)).1 (Nat.lt_of_le_of_lt a2 a1)
      omega
    have hmul : floatBits .mul .f64 r 4652007308841189376 = some (f64.write (.number t (mr * 8796093022208000) (ir + -43))) := by
      show f64.mul r 4652007308841189376 = _
      unfold Format.mul
      rw [er, cN_num]
      show some (f64.write (.number (t ^^ false) (mr * 8796093022208000) (ir + -43))) = _
      rw [Bool.xor_false]
    have hA2 : mr * 8796093022208000 * 2 ^ (ir + -43 + 1074).toNat = 1000 * B := by
      rw [← ramt, show (8796093022208000 : Nat) = 1000 * 2 ^ 43 from rfl, show (ir + 1074).toNat = 43 + (ir + -43 + 1074).toNat by omega, Nat.pow_add]
      generalize 2 ^ (ir + -43 + 1074).toNat = Y
      generalize (2 : Nat) ^ 43 = Z
      rw [← Nat.mul_assoc mr 1000 Z, Nat.mul_comm mr 1000, Nat.mul_assoc, Nat.mul_assoc]
    obtain ⟨wn, C, wv, wb1, wb2⟩ := write_near t (mr * 8796093022208000) (ir + -43) (fixE + 30) (by omega) (by omega) (by omega) (by
      have e1 : 2 ^ (fixE + 30) = 1073741824 * oneV := by rw [Nat.pow_add, Nat.mul_comm]; rfl
      rw [e1, hA2]; omega) (65536 * W) (by
      rw [hW, show (65536 : Nat) = 2 ^ 16 from rfl, ← Nat.pow_add]; congr 1; omega)
    rw [hA2] at wb1 wb2
    have hq : rndN C = n.natAbs := by
      unfold rndN
      refine Nat.div_eq_of_lt_le ?_ ?_
      · rw [eM]; omega
      · rw [Nat.succ_mul, eM]; omega
    refine ⟨_, hmul, wn, ?_, ?_⟩
    · rw [wv]
      have : (if t = true then -(C : Int) else (C : Int)).natAbs = C := by split <;> omega
      rw [this]; omega
    · rw [wv, ht]
      have hC : 0 < C := by omega
      by_cases hl : n < 0
      · rw [if_pos (by simpa using hl)]
        unfold rndI
        rw [if_pos (by omega), Int.natAbs_neg, show (C : Int).natAbs = C from rfl, hq]
        omega
      · rw [if_neg (by simpa using hl)]
        unfold rndI
        rw [if_neg (by omega), show (C : Int).natAbs = C from rfl, hq]
        omega
end Go.Proofs.Ytciebalkfeoabaa
