/- Plain facts on float64 words: the rounded value as a formula; that twice a number rounds to twice as much. Nothing here speaks of the program. -/
import Derived.Test.YtonoknbangnleaaRtM
import Derived.Test.YtonoknbangnleaaFA
namespace Go.Proofs.Ytonoknbangnleaa
open Go.RowKit Ieee

theorem cut_eq (neg : Bool) (n d : Nat) : Toward.even.cut neg n d = n / 2 ^ d + (decide (2 ^ d < 2 * (n % 2 ^ d)) || 2 ^ d == 2 * (n % 2 ^ d) && n / 2 ^ d % 2 == 1).toNat := by
  unfold Toward.cut
  simp only [Nat.shiftLeft_eq, Nat.one_mul]
  rcases Nat.le_total d (n.log2 + 2) with h | h
  · rw [Nat.min_eq_left h]
  · rw [Nat.min_eq_right h]
    have h1 : n < 2 ^ (n.log2 + 1) := Nat.lt_log2_self
    have e1 : 2 ^ (n.log2 + 2) = 2 * 2 ^ (n.log2 + 1) := by rw [show n.log2 + 2 = (n.log2 + 1) + 1 by omega, Nat.pow_succ, Nat.mul_comm]
    have h3 : 2 ^ (n.log2 + 2) ≤ 2 ^ d := Nat.pow_le_pow_right (by omega) h
    rw [Nat.div_eq_of_lt (show n < 2 ^ (n.log2 + 2) by omega), Nat.mod_eq_of_lt (show n < 2 ^ (n.log2 + 2) by omega), Nat.div_eq_of_lt (show n < 2 ^ d by omega), Nat.mod_eq_of_lt (show n < 2 ^ d by omega)]
    generalize 2 ^ (n.log2 + 2) = g at *
    generalize 2 ^ d = g2 at *
    have a1 : (decide (g < 2 * n) || g == 2 * n && 0 % 2 == 1) = false := by simp; omega
    have a2 : (decide (g2 < 2 * n) || g2 == 2 * n && 0 % 2 == 1) = false := by simp; omega
    rw [a1, a2]
theorem cut_sign (neg : Bool) (n d : Nat) : Toward.even.cut neg n d = Toward.even.cut false n d := by rw [cut_eq, cut_eq]
theorem cut_scale (neg : Bool) (n d c : Nat) : Toward.even.cut neg (n * 2 ^ c) (d + c) = Toward.even.cut neg n d := by
  rw [cut_eq, cut_eq]
  have hp : 0 < 2 ^ c := Nat.two_pow_pos _
  have e1 : n * 2 ^ c / 2 ^ (d + c) = n / 2 ^ d := by rw [Nat.pow_add, Nat.mul_div_mul_right _ _ hp]
  have e2 : n * 2 ^ c % 2 ^ (d + c) = n % 2 ^ d * 2 ^ c := by rw [Nat.pow_add, Nat.mul_mod_mul_right]
  rw [e1, e2, Nat.pow_add, ← Nat.mul_assoc]
  generalize n % 2 ^ d = m
  generalize 2 ^ d = g
  have f1 : decide (g * 2 ^ c < 2 * m * 2 ^ c) = decide (g < 2 * m) := by
    rw [decide_eq_decide]; exact Nat.mul_lt_mul_right hp
  have f2 : (g * 2 ^ c == 2 * m * 2 ^ c) = (g == 2 * m) := by
    rw [Bool.eq_iff_iff]; simp only [beq_iff_eq]
    exact ⟨fun h => Nat.eq_of_mul_eq_mul_right hp h, fun h => by rw [h]⟩
  rw [f1, f2]

/-- The value to which A / 2^V is rounded. -/
def rE (A V : Nat) : Nat := Toward.even.cut false A (A.log2 - (V + 52) + V) * 2 ^ (A.log2 - (V + 52))

set_option maxHeartbeats 1000000 in
theorem round_val (neg : Bool) (mag : Nat) (place : Int) (V P : Nat) (hP : place + 1074 + (V : Int) = (P : Int)) (h0 : mag ≠ 0) (hb : mag * 2 ^ P < 2 ^ (1900 + V)) : (fval (f64.nearest neg mag place)).natAbs = rE (mag * 2 ^ P) V := by
  obtain ⟨last, hlast⟩ : ∃ last : Int, last = max (place + mag.log2 - 52) (-1074) := ⟨_, rfl⟩
  have e : f64.nearest neg mag place = f64.word neg (min ((last - -1074).toNat * 4503599627370496 + Toward.even.cut neg (mag <<< (place - last).toNat) (last - place).toNat) 9218868437227405312) := by
    unfold Format.nearest
    rw [if_neg h0]
    simp only [lp64, bin64, inf64]
    rw [hlast]; rfl
  have hlow : 2 ^ mag.log2 ≤ mag := Nat.log2_self_le h0
  have hhigh : mag < 2 ^ (mag.log2 + 1) := Nat.lt_log2_self
  have hlog : (mag * 2 ^ P).log2 = mag.log2 + P := by
    refine (Nat.log2_eq_iff (Nat.mul_ne_zero h0 (Nat.pos_iff_ne_zero.1 (Nat.two_pow_pos _)))).2 ⟨?_, ?_⟩
    · rw [Nat.pow_add]; exact Nat.mul_le_mul_right _ hlow
    · rw [show mag.log2 + P + 1 = (mag.log2 + 1) + P by omega, Nat.pow_add]; exact Nat.mul_lt_mul_of_pos_right hhigh (Nat.two_pow_pos _)
  have hlK : mag.log2 + P < 1900 + V := by
    have h1 : 2 ^ mag.log2 * 2 ^ P ≤ mag * 2 ^ P := Nat.mul_le_mul_right _ hlow
    rw [← Nat.pow_add] at h1
    exact (Nat.pow_lt_pow_iff_right (by omega : 1 < 2)).1 (Nat.lt_of_le_of_lt h1 hb)
  clear hb
  obtain ⟨L, hL⟩ : ∃ L, L = mag.log2 + P - (V + 52) := ⟨_, rfl⟩
  have hLl : (last + 1074).toNat = L := by omega
  obtain ⟨a, ha⟩ : ∃ a, a = (place - last).toNat := ⟨_, rfl⟩
  obtain ⟨b, hb'⟩ : ∃ b, b = (last - place).toNat := ⟨_, rfl⟩
  have hcut : Toward.even.cut neg (mag <<< (place - last).toNat) (last - place).toNat = Toward.even.cut false (mag * 2 ^ P) (L + V) := by
    rw [← ha, ← hb', Nat.shiftLeft_eq, cut_sign]
    have e1 : mag * 2 ^ P = mag * 2 ^ a * 2 ^ (P - a) := by rw [Nat.mul_assoc, ← Nat.pow_add, show a + (P - a) = P by omega]
    have e2 : L + V = b + (P - a) := by omega
    rw [e1, e2, cut_scale]
  rw [hcut] at e
  obtain ⟨kept, hkept⟩ : ∃ kept, kept = Toward.even.cut false (mag * 2 ^ P) (L + V) := ⟨_, rfl⟩
  rw [← hkept] at e
  have hsides := fun G => cut_sides false (mag * 2 ^ P) (L + V) G
  rw [← hkept] at hsides
  have hup : mag * 2 ^ P ≤ 9007199254740992 * 2 ^ (L + V) := by
    rw [show (9007199254740992 : Nat) = 2 ^ 53 from rfl]
    have h1 : mag * 2 ^ P < 2 ^ (mag.log2 + 1) * 2 ^ P := Nat.mul_lt_mul_of_pos_right hhigh (Nat.two_pow_pos _)
    refine Nat.le_of_lt (Nat.lt_of_lt_of_le h1 ?_)
    rw [← Nat.pow_add, ← Nat.pow_add]
    exact Nat.pow_le_pow_right (by omega) (by omega)
  have hdn : last ≠ -1074 → 4503599627370496 * 2 ^ (L + V) ≤ mag * 2 ^ P := fun hne => by
    rw [show (4503599627370496 : Nat) = 2 ^ 52 from rfl]
    refine Nat.le_trans ?_ (Nat.mul_le_mul_right _ hlow)
    rw [← Nat.pow_add, ← Nat.pow_add]
    exact Nat.pow_le_pow_right (by omega) (by omega)
  have hk1 := (hsides _).1 hup
  have hk0 := fun h => (hsides _).2.1 (hdn h)
  have hlu : last ≤ 900 := by clear hup hlow hhigh hk1 hk0 hdn hsides; omega
  have hll : -1074 ≤ last := by clear hup hlow hhigh hk1 hk0 hdn hsides; omega
  obtain ⟨p, l, r, hv⟩ := kept_word neg kept last hll hlu hk1 hk0
  have hfv : fval (f64.nearest neg mag place) = signed neg p (l + 1074).toNat := by
    rw [e]; unfold fval; rw [r]; rfl
  rw [hfv, (val_amount neg p _).1, hv, hLl]
  unfold rE
  rw [hlog, ← hL, hkept]

theorem log2_two {A : Nat} (h : A ≠ 0) : (2 * A).log2 = A.log2 + 1 := by
  refine (Nat.log2_eq_iff (by omega)).2 ⟨?_, ?_⟩
  · rw [Nat.pow_succ, Nat.mul_comm]; exact Nat.mul_le_mul_left 2 (Nat.log2_self_le h)
  · have : A < 2 ^ (A.log2 + 1) := Nat.lt_log2_self
    rw [Nat.pow_succ, Nat.mul_comm (2 ^ (A.log2 + 1))]; omega
theorem rE_double {A V : Nat} (h : 2 ^ (52 + V) ≤ A) : rE (2 * A) V = 2 * rE A V := by
  have h0 : A ≠ 0 := by have := Nat.two_pow_pos (52 + V); omega
  have hl : 52 + V ≤ A.log2 := (Nat.le_log2 h0).2 h
  unfold rE
  rw [log2_two h0]
  obtain ⟨L, hL⟩ : ∃ L, A.log2 = L + (V + 52) := ⟨A.log2 - (V + 52), by omega⟩
  rw [hL, show L + (V + 52) + 1 - (V + 52) = L + 1 by omega, show L + (V + 52) - (V + 52) = L by omega, show L + 1 + V = L + V + 1 by omega]
  have e := cut_scale false A (L + V) 1
  rw [Nat.pow_one, Nat.mul_comm A 2] at e
  rw [e, Nat.pow_succ, Nat.mul_comm (2 ^ L) 2, ← Nat.mul_assoc, Nat.mul_comm _ 2, Nat.mul_assoc]
theorem rE_small {A : Nat} (h : A < 2 ^ 53) : rE A 0 = A := by
  by_cases h0 : A = 0
  · subst h0; unfold rE; rw [cut_eq]; simp
  · have hl : A.log2 < 53 := (Nat.log2_lt h0).2 h
    unfold rE
    rw [show A.log2 - (0 + 52) = 0 by omega, Nat.pow_zero, Nat.mul_one]
    have := cut_exact false A 0
    rw [Nat.pow_zero, Nat.mul_one] at this
    exact this
/-- Sums: twice as much, always. -/
theorem rE_twice (A : Nat) : rE (2 * A) 0 = 2 * rE A 0 := by
  rcases Nat.lt_or_ge A (2 ^ 52) with h | h
  · have e : (2 : Nat) ^ 53 = 2 * 2 ^ 52 := rfl
    rw [rE_small (by omega), rE_small (by omega)]
  · exact rE_double (V := 0) h
/-- A great number and a trifle: the great one. -/
theorem rE_trifle {A q : Nat} (hq : Rep (q : Int)) (hb : 1298074214633706907132624082305024 ≤ q) (h1 : A ≤ q + 9007199254740992) (h2 : q ≤ A + 9007199254740992) : rE A 0 = q := by
  obtain ⟨q0, k, a, b, e⟩ := rep_norm hq (by omega)
  have hk : 58 ≤ k := by
    rcases Nat.lt_or_ge k 58 with h | h
    · exfalso
      have h3 : 2 ^ k ≤ 2 ^ 57 := Nat.pow_le_pow_right (by omega) (by omega)
      have h4 : q0 * 2 ^ k ≤ 9007199254740991 * 2 ^ 57 := Nat.mul_le_mul (by omega) h3
      rw [← e] at h4
      have e57 : (2 : Nat) ^ 57 = 144115188075855872 := rfl
      omega
    · exact h
  obtain ⟨j, hj⟩ : ∃ j, k = j + 1 := ⟨k - 1, by omega⟩
  have hz : 288230376151711744 ≤ 2 ^ k := by
    rw [show (288230376151711744 : Nat) = 2 ^ 58 from rfl]
    exact Nat.pow_le_pow_right (by omega) hk
  have hA0 : A ≠ 0 := by omega
  have h3 : 4503599627370496 * 2 ^ k ≤ q := by rw [e]; exact Nat.mul_le_mul_right _ a
  have h5 : q ≤ 9007199254740991 * 2 ^ k := by rw [e]; exact Nat.mul_le_mul_right _ (by omega)
  have h4 : 2 ^ (52 + j) * 2 = 4503599627370496 * 2 ^ k := by
    rw [← Nat.pow_succ, show (4503599627370496 : Nat) = 2 ^ 52 from rfl, ← Nat.pow_add, hj]
    exact congrArg (fun z => 2 ^ z) (by omega)
  have h6 : 2 ^ (52 + k + 1) = 9007199254740992 * 2 ^ k := by
    rw [show (9007199254740992 : Nat) = 2 ^ 53 from rfl, ← Nat.pow_add]
    exact congrArg (fun z => 2 ^ z) (by omega)
  -- the last place that is kept
  have hlo : 52 + j ≤ A.log2 := by
    refine (Nat.le_log2 hA0).2 ?_
    clear h6 hj e
    generalize 2 ^ (52 + j) = y at *
    generalize 2 ^ k = z at *
    omega
  have hhi : A.log2 ≤ 52 + k := by
    have : A.log2 < 52 + k + 1 := by
      refine (Nat.log2_lt hA0).2 ?_
      rw [h6]
      clear h4 h6 hj e hlo
      generalize 2 ^ k = z at *
      omega
    omega
  clear h4 h6
  unfold rE
  obtain ⟨L, hL⟩ : ∃ L, A.log2 - (0 + 52) = L := ⟨_, rfl⟩
  rw [hL, Nat.add_zero]
  obtain ⟨c1, c2, _, _⟩ := cut_near false A L
  generalize Toward.even.cut false A L = kept at *
  have hL57 : 57 ≤ L := by clear h3 h5 hz c1 c2 e; omega
  have hLk : L ≤ k := by clear h3 h5 hz c1 c2 e; omega
  obtain ⟨M, hM⟩ : ∃ M, q = M * 2 ^ L := ⟨q0 * 2 ^ (k - L), by rw [Nat.mul_assoc, ← Nat.pow_add, show k - L + L = k by clear h3 h5 hz c1 c2 e; omega]; exact e⟩
  have hg : 144115188075855872 ≤ 2 ^ L := by
    rw [show (144115188075855872 : Nat) = 2 ^ 57 from rfl]
    exact Nat.pow_le_pow_right (by omega) (by omega)
  rw [hM] at h1 h2
  rw [hM]
  clear hM e hlo hhi hq hb h3 h5 hz
  generalize 2 ^ L = g at *
  rcases Nat.lt_trichotomy kept M with h | h | h
  · exfalso
    have := Nat.mul_le_mul_right g (show kept + 1 ≤ M by omega)
    rw [Nat.add_mul, Nat.one_mul] at this
    generalize kept * g = x at *
    generalize M * g = y at *
    omega
  · rw [h]
  · exfalso
    have := Nat.mul_le_mul_right g (show M + 1 ≤ kept by omega)
    rw [Nat.add_mul, Nat.one_mul] at this
    generalize kept * g = x at *
    generalize M * g = y at *
    omega

/-- The amounts of a product and of a sum. -/
theorem mul_val {x y r : Nat} (hx : isNum x) (hy : isNum y) (hb : (fval x * fval y).natAbs < 2 ^ (fixB + fixE)) (hn : fval x * fval y ≠ 0) (h : f64.mul x y = some r) : (fval r).natAbs = rE (fval x * fval y).natAbs fixE := by
  have hE := fixE_eq
  obtain ⟨s, m, i, ex, hi, _⟩ := hx
  obtain ⟨t, n, j, ey, hj, _⟩ := hy
  have hr : f64.mul x y = some (f64.nearest (s ^^ t) (m * n) (i + j)) := by unfold Format.mul; rw [ex, ey]; rfl
  rw [h] at hr
  injection hr with hr
  obtain ⟨u, hu⟩ : ∃ u : Nat, u = (i + 1074).toNat := ⟨_, rfl⟩
  obtain ⟨v, hv'⟩ : ∃ v : Nat, v = (j + 1074).toNat := ⟨_, rfl⟩
  have hprod : fval x * fval y = if s ^^ t then -((m * n * 2 ^ (u + v) : Nat) : Int) else ((m * n * 2 ^ (u + v) : Nat) : Int) := by
    unfold fval; rw [ex, ey]
    show signed s m (i + 1074).toNat * signed t n (j + 1074).toNat = _
    rw [← hu, ← hv']; exact signed_mul s t m n u v
  have habs : (fval x * fval y).natAbs = m * n * 2 ^ (u + v) := by
    rw [hprod]; split
    · rw [Int.natAbs_neg]; rfl
    · rfl
  have h0 : m * n ≠ 0 := fun e => by
    rw [e, Nat.zero_mul] at habs
    exact hn (Int.natAbs_eq_zero.1 habs)
  rw [hr, habs]
  exact round_val (s ^^ t) (m * n) (i + j) fixE (u + v) (by omega) h0 (by rw [← habs, ← fixB_eq]; exact hb)
theorem add_val {x y r : Nat} (hx : isNum x) (hy : isNum y) (hb : (fval x + fval y).natAbs < 2 ^ fixB) (hn : fval x + fval y ≠ 0) (h : f64.add x y = some r) : (fval r).natAbs = rE (fval x + fval y).natAbs 0 := by
  obtain ⟨s, m, i, ex, hi, _⟩ := hx
  obtain ⟨t, n, j, ey, hj, _⟩ := hy
  obtain ⟨T, hT⟩ : ∃ T, T = signed s m (i - min i j).toNat + signed t n (j - min i j).toNat := ⟨_, rfl⟩
  obtain ⟨neg, hneg⟩ : ∃ neg : Bool, neg = (if T = 0 then s && t else decide (T < 0)) := ⟨_, rfl⟩
  have hr : f64.add x y = some (f64.nearest neg T.natAbs (min i j)) := by
    unfold Format.add; rw [ex, ey]
    show some (f64.write (.number (if signed s m (i - min i j).toNat + signed t n (j - min i j).toNat = 0 then s && t else decide (signed s m (i - min i j).toNat + signed t n (j - min i j).toNat < 0)) (signed s m (i - min i j).toNat + signed t n (j - min i j).toNat).natAbs (min i j))) = _
    rw [← hT, ← hneg]; rfl
  rw [h] at hr
  injection hr with hr
  obtain ⟨P, hP⟩ : ∃ P : Nat, P = (min i j + 1074).toNat := ⟨_, rfl⟩
  have hsum : fval x + fval y = T * ((2 ^ P : Nat) : Int) := by
    unfold fval; rw [ex, ey]
    show signed s m (i + 1074).toNat + signed t n (j + 1074).toNat = _
    rw [show (i + 1074).toNat = (i - min i j).toNat + P by omega, show (j + 1074).toNat = (j - min i j).toNat + P by omega, signed_shift, signed_shift, ← Int.add_mul, hT]
  have habs : (fval x + fval y).natAbs = T.natAbs * 2 ^ P := by rw [hsum, Int.natAbs_mul]; rfl
  have h0 : T.natAbs ≠ 0 := fun e => by
    rw [e, Nat.zero_mul] at habs
    exact hn (Int.natAbs_eq_zero.1 habs)
  rw [hr, habs]
  exact round_val neg T.natAbs (min i j) 0 P (by omega) h0 (by rw [← habs, Nat.add_zero, ← fixB_eq]; exact hb)
/-- What is rounded keeps its side. -/
theorem Rounds.side {v N : Int} {D : Nat} (h : Rounds v N D) : (0 ≤ N → 0 ≤ v ∨ N = 0) ∧ (N ≤ 0 → v ≤ 0 ∨ N = 0) := by
  obtain ⟨s, R, A, rfl, rfl, _⟩ := h
  cases s <;> simp <;> omega
end Go.Proofs.Ytonoknbangnleaa
