/- Seconds for a way: the walks of SecondsFor (impl and spec) and of the law FnExactSecondsFor. -/
import Derived.Test.YtonoknbangnleaaGreatCl
namespace Go.Proofs.YtonoknbangnleaaGreat
open Go.RowKit Ieee
set_option linter.unusedVariables false
set_option linter.unusedSimpArgs false

/-- Metres that may be asked; a speed along that may be asked. -/
def okM (m : Nat) : Prop := isNum m ∧ 0 ≤ fval m ∧ fval m ≤ 100000000 * (oneV : Int)
def okAt (a : Nat) : Prop := isNum a ∧ 0 < fval a
theorem maxf_num : f64.read 9218868437227405311 = .number false 9007199254740991 971 := by kernel_rfl
theorem num_max {x : Nat} (hx : x < 18446744073709551616) (h : isNum x) : fval x ≤ fval 9218868437227405311 := by
  obtain ⟨S, P, hr, hS, hcase⟩ := num_form x hx (expo_of_num hx h)
  have hE := expo_of_num hx h
  have hP : P ≤ 2045 := by rcases hcase with ⟨h0, hP, _⟩ | ⟨hP, _⟩ <;> omega
  obtain ⟨E, hE9⟩ : ∃ E : Nat, E = 2045 := ⟨_, rfl⟩
  have e1 : fval 9218868437227405311 = ((9007199254740991 * 2 ^ E : Nat) : Int) := by
    unfold fval; rw [maxf_num]; show signed false 9007199254740991 (971 + 1074 : Int).toNat = _
    rw [show (971 + 1074 : Int).toNat = E by omega, signed_eq]; rfl
  have e2 : fval x ≤ ((S * 2 ^ P : Nat) : Int) := by
    unfold fval; rw [hr]; show signed (sneg x) S (-1074 + (P : Int) + 1074).toNat ≤ _
    rw [show (-1074 + (P : Int) + 1074).toNat = P by omega, signed_eq]
    cases sneg x
    · exact Int.le_refl _
    · simp only [if_true]; omega
  have e3 : S * 2 ^ P ≤ 9007199254740991 * 2 ^ E := Nat.mul_le_mul (by omega) (Nat.pow_le_pow_right (by omega) (by omega))
  rw [e1]
  generalize S * 2 ^ P = u at *
  generalize 9007199254740991 * 2 ^ E = v at *
  omega
theorem lt_flag (v c : Int) : ((some (compare v c) == some Ordering.lt) = true) ↔ v < c := by
  rcases Int.lt_trichotomy v c with h | h | h
  · rw [Int.compare_eq_lt.2 h]; simp [h]
  · rw [Int.compare_eq_eq.2 h]; simp; omega
  · rw [Int.compare_eq_gt.2 h]; simp; omega
theorem m_flag (k : Nat) (hk : k < 18446744073709551616) : ∃ t u : Bool, ((t && u) = true ↔ okM k) ∧
    (FloatKind.f64.format.order 0 k == some .lt || FloatKind.f64.format.order 0 k == some .eq) = t ∧
    (FloatKind.f64.format.order k 0 == some .gt || FloatKind.f64.format.order k 0 == some .eq) = t ∧
    (FloatKind.f64.format.order k 4726483295884279808 == some .lt || FloatKind.f64.format.order k 4726483295884279808 == some .eq) = u := by
  have h0 := isNum_of nought_num
  have h1 := isNum_of hund_num
  by_cases hE : expo k < 2047
  · have hn := num_of_expo hk hE
    have e1 : FloatKind.f64.format.order 0 k = some (compare 0 (fval k)) := by have := order_val h0 hn; rw [nought_val] at this; exact this
    have e2 : FloatKind.f64.format.order k 0 = some (compare (fval k) 0) := by have := order_val hn h0; rw [nought_val] at this; exact this
    have e3 : FloatKind.f64.format.order k 4726483295884279808 = some (compare (fval k) (100000000 * (oneV : Int))) := by have := order_val hn h1; rw [hund_val] at this; exact this
    rw [e1, e2, e3]
    refine ⟨_, _, ?_, rfl, ?_, rfl⟩
    · rw [Bool.and_eq_true, cmp_flag, cmp_flag]
      exact ⟨fun h => ⟨hn, h⟩, fun h => h.2⟩
    · generalize fval k = v
      rcases Int.lt_trichotomy v 0 with h | h | h
      · rw [Int.compare_eq_lt.2 h, Int.compare_eq_gt.2 h]; rfl
      · subst h; rfl
      · rw [Int.compare_eq_gt.2 h, Int.compare_eq_lt.2 h]; rfl
  · have hE2 : expo k = 2047 := by have := expo_le k; omega
    have hno : ¬ okM k := fun h => hE (expo_of_num hk h.1)
    rcases read_full hk hE2 with h | ⟨b, h⟩
    · have e2 : FloatKind.f64.format.order k 0 = some (if sneg k then .lt else .gt) := order_inf h h0
      have e3 : FloatKind.f64.format.order k 4726483295884279808 = some (if sneg k then .lt else .gt) := order_inf h h1
      have e1 : FloatKind.f64.format.order 0 k = some (if sneg k then .gt else .lt) := by
        have h' : FloatKind.f64.format.read k = .infinity (sneg k) := h
        unfold Format.order; rw [h', show FloatKind.f64.format.read 0 = _ from nought_num]; cases sneg k <;> rfl
      rw [e1, e2, e3]
      refine ⟨_, _, ?_, rfl, ?_, rfl⟩
      · cases sneg k <;> simp [hno]
      · cases sneg k <;> rfl
    · have e2 : ∀ z, FloatKind.f64.format.order k z = none := fun z => order_nan h z
      have e1 : FloatKind.f64.format.order 0 k = none := by
        have h' : FloatKind.f64.format.read k = .nan (sneg k) b := h
        unfold Format.order; rw [h', show FloatKind.f64.format.read 0 = _ from nought_num]; rfl
      rw [e1, e2, e2]
      exact ⟨false, false, by simp [hno], rfl, rfl, rfl⟩
/-- What both programs ask of a speed along; f tells whether it less itself is nought. -/
theorem a_flag (k : Nat) (hk : k < 18446744073709551616) : ∃ t u : Bool, ((t && u) = true ↔ okAt k) ∧
    (FloatKind.f64.format.order 0 k == some .lt) = t ∧ (FloatKind.f64.format.order k 0 == some .gt) = t ∧
    (FloatKind.f64.format.order k 9218868437227405311 == some .lt || FloatKind.f64.format.order k 9218868437227405311 == some .eq) = u ∧
    (t = true → (u = true ∧ ∃ z, floatBits .sub .f64 k k = some z ∧ FloatKind.f64.format.order z 0 = some .eq) ∨ (u = false ∧ floatBits .sub .f64 k k = none)) := by
  have h0 := isNum_of nought_num
  have h1 := isNum_of maxf_num
  by_cases hE : expo k < 2047
  · have hn := num_of_expo hk hE
    have e1 : FloatKind.f64.format.order 0 k = some (compare 0 (fval k)) := by have := order_val h0 hn; rw [nought_val] at this; exact this
    have e2 : FloatKind.f64.format.order k 0 = some (compare (fval k) 0) := by have := order_val hn h0; rw [nought_val] at this; exact this
    have e3 : FloatKind.f64.format.order k 9218868437227405311 = some (compare (fval k) (fval 9218868437227405311)) := order_val hn h1
    have hu : (some (compare (fval k) (fval 9218868437227405311)) == some Ordering.lt || some (compare (fval k) (fval 9218868437227405311)) == some .eq) = true := (cmp_flag _ _).2 (num_max hk hn)
    rw [e1, e2, e3, hu]
    refine ⟨_, true, ?_, rfl, ?_, rfl, fun _ => .inl ⟨rfl, ?_⟩⟩
    · rw [Bool.and_eq_true, lt_flag]
      exact ⟨fun h => ⟨hn, h.1⟩, fun h => ⟨h.2, rfl⟩⟩
    · generalize fval k = v
      rcases Int.lt_trichotomy v 0 with h | h | h
      · rw [Int.compare_eq_lt.2 h, Int.compare_eq_gt.2 h]; rfl
      · subst h; rfl
      · rw [Int.compare_eq_gt.2 h, Int.compare_eq_lt.2 h]; rfl
    · obtain ⟨z, z1, z2, z3, z4⟩ := sub_op hn hn (by rw [Int.sub_self]; exact Nat.two_pow_pos _)
      refine ⟨z, z1, ?_⟩
      have hz := z4.near (by omega)
      rw [Int.sub_self] at hz
      have hv : fval z = 0 := NearI.exact (g := 0) (by rw [Int.zero_mul]; exact hz) ⟨0, 0, by omega, by simp⟩
      have := order_val z2 h0
      rw [hv, nought_val] at this
      exact this
  · have hE2 : expo k = 2047 := by have := expo_le k; omega
    have hno : ¬ okAt k := fun h => hE (expo_of_num hk h.1)
    rcases read_full hk hE2 with h | ⟨b, h⟩
    · have e2 : FloatKind.f64.format.order k 0 = some (if sneg k then .lt else .gt) := order_inf h h0
      have e3 : FloatKind.f64.format.order k 9218868437227405311 = some (if sneg k then .lt else .gt) := order_inf h h1
      have e1 : FloatKind.f64.format.order 0 k = some (if sneg k then .gt else .lt) := by
        have h' : FloatKind.f64.format.read k = .infinity (sneg k) := h
        unfold Format.order; rw [h', show FloatKind.f64.format.read 0 = _ from nought_num]; cases sneg k <;> rfl
      have hs : floatBits .sub .f64 k k = none := by
        have h' : f64.read k = .infinity (sneg k) := h
        show f64.sub k k = none
        unfold Format.sub; rw [h']; cases sneg k <;> rfl
      rw [e1, e2, e3]
      cases hsn : sneg k
      · exact ⟨true, false, by simp [hno], rfl, rfl, rfl, fun _ => .inr ⟨rfl, hs⟩⟩
      · exact ⟨false, true, by simp [hno], rfl, rfl, rfl, fun h => by cases h⟩
    · have e2 : ∀ z, FloatKind.f64.format.order k z = none := fun z => order_nan h z
      have e1 : FloatKind.f64.format.order 0 k = none := by
        have h' : FloatKind.f64.format.read k = .nan (sneg k) b := h
        unfold Format.order; rw [h', show FloatKind.f64.format.read 0 = _ from nought_num]; rfl
      rw [e1, e2, e2]
      exact ⟨false, false, by simp [hno], rfl, rfl, rfl, fun h => by cases h⟩

theorem near_word (neg : Bool) (mag : Nat) (place : Int) : ∃ r, r ≤ 9218868437227405312 ∧ f64.nearest neg mag place = f64.word neg r ∧ (mag = 0 → r = 0) := by
  by_cases h0 : mag = 0
  · exact ⟨0, by omega, by unfold Format.nearest; rw [if_pos h0], fun _ => rfl⟩
  · unfold Format.nearest
    rw [if_neg h0]
    simp only [inf64]
    exact ⟨_, Nat.min_le_right _ _, rfl, fun h => absurd h h0⟩
theorem maxt_num : f64.read 4711630319722168320 = .number false 5368709120000000 (-29) := by kernel_rfl
theorem maxt_val : fval 4711630319722168320 = 10000000 * (oneV : Int) := by
  have hf := fixE_eq
  unfold fval; rw [maxt_num]; show signed false 5368709120000000 (-29 + 1074 : Int).toNat = _
  rw [show (-29 + 1074 : Int).toNat = fixE - 29 by omega, signed_eq]
  show ((5368709120000000 * 2 ^ (fixE - 29) : Nat) : Int) = 10000000 * ((oneV : Nat) : Int)
  have h : oneV = 536870912 * 2 ^ (fixE - 29) := by
    unfold oneV; rw [show (536870912 : Nat) = 2 ^ 29 from rfl, ← Nat.pow_add, show 29 + (fixE - 29) = fixE by omega]
  rw [h]
  generalize 2 ^ (fixE - 29) = y
  omega
/-- A quotient that may be told. -/
def okQt (q : Nat) : Prop := isNum q ∧ 0 ≤ fval q ∧ fval q ≤ 10000000 * (oneV : Int)
theorem word_false (r : Nat) : f64.word false r = r := rfl
theorem quo_anyt {m a : Nat} (hm : okM m) (ha : okAt a) : ∃ q, floatBits .quo .f64 m a = some q ∧ q < 18446744073709551616 ∧
    ((FloatKind.f64.format.order q 4711630319722168320 = some .gt ∧ ¬ okQt q) ∨ ((FloatKind.f64.format.order q 4711630319722168320 == some .gt) = false ∧ okQt q)) := by
  obtain ⟨hmn, hm0, _⟩ := hm
  obtain ⟨han, ha0⟩ := ha
  obtain ⟨s, mm, i, ex, hi, hmm⟩ := hmn
  obtain ⟨t, n, j, ey, hj, hnn⟩ := han
  have vx : fval m = signed s mm (i + 1074).toNat := by unfold fval; rw [ex]; rfl
  have vy : fval a = signed t n (j + 1074).toNat := by unfold fval; rw [ey]; rfl
  have hn0 : n ≠ 0 := fun h => by rw [vy, h, fl_signed_zero] at ha0; omega
  have ht : t = false := by
    cases t
    · rfl
    · exfalso; rw [vy, signed_eq] at ha0; simp only [if_true] at ha0; omega
  have hs : s = false ∨ mm = 0 := by
    cases s
    · exact .inl rfl
    · right
      rw [vx, signed_eq] at hm0; simp only [if_true] at hm0
      have h1 : mm * 2 ^ (i + 1074).toNat = 0 := by omega
      rcases Nat.mul_eq_zero.1 h1 with h | h
      · exact h
      · exact absurd h (Nat.pos_iff_ne_zero.1 (Nat.two_pow_pos _))
  obtain ⟨mag, pl, hq, hz⟩ : ∃ mag pl, f64.div m a = some (f64.nearest (s ^^ t) mag pl) ∧ (mm = 0 → mag = 0) := by
    unfold Format.div; rw [ex, ey]
    simp only [Datum.quotient, if_neg hn0, Option.map_some]
    refine ⟨_, _, rfl, fun h => ?_⟩
    rw [h]; simp
  have hql : f64.nearest (s ^^ t) mag pl < 18446744073709551616 := FloatKind.f64.format.div_lt hq
  refine ⟨_, hq, hql, ?_⟩
  obtain ⟨r, hr, hw, hrz⟩ := near_word (s ^^ t) mag pl
  rw [hw]
  have hmx := isNum_of maxt_num
  have num : ∀ y, isNum y → 0 ≤ fval y → ((FloatKind.f64.format.order y 4711630319722168320 = some .gt ∧ ¬ okQt y) ∨ ((FloatKind.f64.format.order y 4711630319722168320 == some .gt) = false ∧ okQt y)) := fun y h h0 => by
    have e : FloatKind.f64.format.order y 4711630319722168320 = some (compare (fval y) (10000000 * (oneV : Int))) := by have := order_val h hmx; rw [maxt_val] at this; exact this
    rw [e]
    rcases Int.lt_or_le (10000000 * (oneV : Int)) (fval y) with h1 | h1
    · exact .inl ⟨by rw [Int.compare_eq_gt.2 h1], fun h => by have := h.2.2; omega⟩
    · refine .inr ⟨?_, h, h0, h1⟩
      rcases Int.lt_or_eq_of_le h1 with h2 | h2
      · rw [Int.compare_eq_lt.2 h2]; rfl
      · rw [Int.compare_eq_eq.2 h2]; rfl
  have hst : (s ^^ t) = false ∨ r = 0 := by
    rw [ht]
    rcases hs with h | h
    · left; rw [h]; rfl
    · right; exact hrz (hz h)
  have hrd := fl_read_word f64 (s ^^ t) r (by rw [sgn64]; omega)
  rw [bin64, inf64, lp64] at hrd
  by_cases h1 : r < 4503599627370496
  · rw [if_pos h1] at hrd
    refine num _ (isNum_of hrd) ?_
    unfold fval; rw [hrd]
    show 0 ≤ signed (s ^^ t) r _
    rcases hst with h | h
    · rw [h, signed_eq]; simp only [Bool.false_eq_true, if_false]; omega
    · rw [h, fl_signed_zero]; omega
  · rw [if_neg h1] at hrd
    have hf : (s ^^ t) = false := by rcases hst with h | h; exact h; omega
    rw [hf] at hrd ⊢
    by_cases h2 : r < 9218868437227405312
    · rw [if_pos h2] at hrd
      refine num _ (isNum_of hrd) ?_
      unfold fval; rw [hrd]
      show 0 ≤ signed false _ _
      rw [signed_eq]; simp only [Bool.false_eq_true, if_false]; omega
    · rw [if_neg h2, if_pos (by omega)] at hrd
      refine .inl ⟨order_inf hrd hmx, fun h => ?_⟩
      obtain ⟨s', m', i', e', _⟩ := h.1
      rw [hrd] at e'; cases e'

/-- What SecondsFor tells. -/
def SecIs (m a : Nat) (n : Int) (t : Bool) : Prop :=
  (t = true ∧ okM m ∧ okAt a ∧ ∃ q, floatBits .quo .f64 m a = some q ∧ okQt q ∧ n = clI (fval q)) ∨
  (t = false ∧ n = 0 ∧ (okM m → okAt a → ∃ q, floatBits .quo .f64 m a = some q ∧ ¬ okQt q))
theorem SecIs.same {m a : Nat} {n n' : Int} {t t' : Bool} (h : SecIs m a n t) (h' : SecIs m a n' t') : n = n' ∧ t = t' := by
  rcases h with ⟨rfl, h1, h2, q, h3, h4, rfl⟩ | ⟨rfl, rfl, h3⟩ <;> rcases h' with ⟨rfl, h1', h2', q', h3', h4', rfl⟩ | ⟨rfl, rfl, h3'⟩
  · rw [h3] at h3'; cases h3'; exact ⟨rfl, rfl⟩
  · obtain ⟨q', e, hn⟩ := h3' h1 h2
    rw [h3] at e; cases e; exact absurd h4 hn
  · obtain ⟨q, e, hn⟩ := h3 h1' h2'
    rw [h3'] at e; cases e; exact absurd h4' hn
  · exact ⟨rfl, rfl⟩
theorem SecIs.bd {m a : Nat} {n : Int} {t : Bool} (h : SecIs m a n t) : 0 ≤ n ∧ n ≤ 10000000 := by
  rcases h with ⟨_, _, _, q, _, h4, rfl⟩ | ⟨_, rfl, _⟩
  · exact ⟨clI_nonneg h4.2.1, clI_le h4.2.2⟩
  · omega

/-- An ending that tells so. -/
def SecEnd (m a : Nat) (e : Ending) : Prop := ∃ n t, SecIs m a n t ∧ e = .returned (.tuple #[.int .i64 n, .bool t])

set_option maxRecDepth 100000 in
set_option maxHeartbeats 2000000 in
theorem i_sec (m a : Nat) (w : World) (hm : m < 18446744073709551616) (ha : a < 18446744073709551616) :
    Calls Tryz.prog 13 #[.float .f64 m, .float .f64 a] w fun e w' => SecEnd m a e ∧ w = w' := by
  obtain ⟨t1, t2, ht, f1, _, f2⟩ := m_flag m hm
  obtain ⟨u1, u2, hu, g1, _, g2, _⟩ := a_flag a ha
  by_cases hok : okM m ∧ okAt a
  · obtain ⟨h1, h2⟩ := hok
    have e1 := ht.2 h1
    have e2 := hu.2 h2
    rw [Bool.and_eq_true] at e1 e2
    obtain ⟨rfl, rfl⟩ := e1
    obtain ⟨rfl, rfl⟩ := e2
    obtain ⟨q, hq, hql, hcase⟩ := quo_anyt h1 h2
    have qq := fun w => run_float_arith (P := Tryz.prog) w .quo 42 .f64 _ _ _ hq
    have HQ := Lib.hid (And.intro h1 (And.intro h2 hq))
    clear ht hu hq h1 h2
    rcases hcase with ⟨o1, hno⟩ | ⟨o1, hyes⟩
    · go_enter Tryz.func13, Tryz.ntmps13
      go_wp2
      go_ret2
      exact ⟨⟨0, false, .inr ⟨rfl, rfl, fun _ _ => ⟨q, HQ.out.2.2, hno⟩⟩, rfl⟩, rfl⟩
    · have hb : fval q ≤ 1000000000 * (oneV : Int) := by have := hyes.2.2; have := oneV_posI; omega
      have cc := fun w => c_ceil q w hyes.1 hyes.2.1 hb
      have hn0 := clI_nonneg hyes.2.1
      have hn1 := clI_le hyes.2.2
      have HY := Lib.hid hyes
      clear hyes hb
      go_enter Tryz.func13, Tryz.ntmps13
      go_wp2_with fail
      refine (cc _).mono ?_
      rintro e w1 ⟨c, c1, c2, rfl, rfl⟩
      have hv := fun w => run_convert_float_int (P := Tryz.prog) w 42 3 .f64 .i64 c (clI (fval q)) (by rw [Tryz.underlying42]; rfl) Tryz.underlying3 (conv_val c1 _ (by rw [c2, Int.mul_tdiv_cancel _ (by have := oneV_posI; omega)]) (by omega) (by omega))
      clear c1 c2 cc
      go_wp2
      go_ret2
      exact ⟨⟨_, true, .inl ⟨rfl, HQ.out.1, HQ.out.2.1, q, HQ.out.2.2, HY.out, rfl⟩, rfl⟩, rfl⟩
  · have HN := Lib.hid (fun h1 h2 => hok ⟨h1, h2⟩ : okM m → okAt a → False)
    have hb : ((t1 && t2) && (u1 && u2)) = false := by
      cases h : ((t1 && t2) && (u1 && u2))
      · rfl
      · rw [Bool.and_eq_true] at h; exact absurd ⟨ht.1 h.1, hu.1 h.2⟩ hok
    clear ht hu hok
    cases t1 <;> cases t2 <;> cases u1 <;> cases u2
    all_goals first
      | (cases hb; done)
      | (clear hb
         go_enter Tryz.func13, Tryz.ntmps13
         go_wp2
         go_ret2
         exact ⟨⟨0, false, .inr ⟨rfl, rfl, fun h1 h2 => (HN.out h1 h2).elim⟩, rfl⟩, rfl⟩)
end Go.Proofs.YtonoknbangnleaaGreat
