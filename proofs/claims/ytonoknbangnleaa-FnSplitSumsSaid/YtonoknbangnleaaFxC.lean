/- The operations, and the turns, as rational numbers. Nothing here speaks of the program. -/
import Derived.Test.YtonoknbangnleaaFxA
namespace Go.Proofs.Ytonoknbangnleaa
open Go.RowKit Ieee
set_option linter.unusedVariables false
set_option linter.unusedSimpArgs false

/-- A number that is no greater than so many ones. -/
def Bd (x B : Nat) : Prop := isNum x ∧ (fval x).natAbs ≤ B * oneV
theorem Bd.rat {x B : Nat} (h : Bd x B) : -((B : Int) : Rat) ≤ rv x ∧ rv x ≤ ((B : Int) : Rat) := by
  have hU := uR_pos
  have h1 : -((B : Int) * (oneV : Int)) ≤ fval x := by have := h.2; rw [← Int.natCast_mul]; omega
  have h2 : fval x ≤ (B : Int) * (oneV : Int) := by have := h.2; rw [← Int.natCast_mul]; omega
  have k1 : ((-((B : Int) * (oneV : Int)) : Int) : Rat) ≤ (fval x : Rat) := Rat.intCast_le_intCast.2 h1
  have k2 : (fval x : Rat) ≤ (((B : Int) * (oneV : Int) : Int) : Rat) := Rat.intCast_le_intCast.2 h2
  simp only [Rat.intCast_mul, Rat.intCast_neg] at k1 k2
  rw [rv_mul] at k1 k2
  have e : ((oneV : Int) : Rat) = uR := rfl
  rw [e] at k1 k2
  generalize rv x = r at *
  generalize ((B : Int) : Rat) = b at *
  generalize uR = U at *
  constructor
  · rcases Rat.le_total (a := -b) (b := r) with g | g
    · exact g
    · rcases Rat.le_iff_lt_or_eq.1 g with g2 | g2
      · have := Rat.mul_pos (a := -b - r) (b := U) (by grind) hU
        grind
      · grind
  · rcases Rat.le_total (a := r) (b := b) with g | g
    · exact g
    · rcases Rat.le_iff_lt_or_eq.1 g with g2 | g2
      · have := Rat.mul_pos (a := r - b) (b := U) (by grind) hU
        grind
      · grind
/-- A number, within a whole number. -/
theorem Bd.of_rat {x B : Nat} (hn : isNum x) (h1 : -((B : Int) : Rat) ≤ rv x) (h2 : rv x ≤ ((B : Int) : Rat)) : Bd x B := by
  have hU := uR_pos
  have k1 := Rat.mul_nonneg (a := rv x + ((B : Int) : Rat)) (b := uR) (by grind) (by grind)
  have k2 := Rat.mul_nonneg (a := ((B : Int) : Rat) - rv x) (b := uR) (by grind) (by grind)
  have e : ((oneV : Int) : Rat) = uR := rfl
  have m1 : ((-((B : Int) * (oneV : Int)) : Int) : Rat) ≤ (fval x : Rat) := by
    simp only [Rat.intCast_mul, Rat.intCast_neg]
    rw [rv_mul, e]; grind
  have m2 : (fval x : Rat) ≤ (((B : Int) * (oneV : Int) : Int) : Rat) := by
    simp only [Rat.intCast_mul]
    rw [rv_mul, e]; grind
  have n1 := Rat.intCast_le_intCast.1 m1
  have n2 := Rat.intCast_le_intCast.1 m2
  rw [← Int.natCast_mul] at n1 n2
  exact ⟨hn, by omega⟩
theorem okP.bd {x : Nat} (h : okP x) : Bd x 100000000 := h
theorem rv_le {x y : Nat} (h : fval x ≤ fval y) : rv x ≤ rv y := by
  have hU := uR_pos
  have k : (fval x : Rat) ≤ (fval y : Rat) := Rat.intCast_le_intCast.2 h
  rw [rv_mul, rv_mul] at k
  rcases Rat.le_total (a := rv x) (b := rv y) with g | g
  · exact g
  · rcases Rat.le_iff_lt_or_eq.1 g with g2 | g2
    · have := Rat.mul_pos (a := rv x - rv y) (b := uR) (by grind) hU
      grind
    · grind
theorem fval_le {x y : Nat} (h : rv x ≤ rv y) : fval x ≤ fval y := by
  have hU := uR_pos
  refine Rat.intCast_le_intCast.1 ?_
  rw [rv_mul, rv_mul]
  have := Rat.mul_nonneg (a := rv y - rv x) (b := uR) (by grind) (by grind)
  grind
theorem fval_lt {x y : Nat} (h : rv x < rv y) : fval x < fval y := by
  rcases Int.lt_or_le (fval x) (fval y) with g | g
  · exact g
  · have := rv_le g
    grind

/-- What an operation gives: a number, but for what rounding does. -/
def Apx (r : Rat) (M : Rat) : Prop := ∀ B : Rat, -B ≤ M → M ≤ B → r - M ≤ B * e52 + eta ∧ M - r ≤ B * e52 + eta
theorem mul_r {x y A C G : Nat} (hx : Bd x A) (hy : Bd y C) (hG : A * C = G) (hG2 : G ≤ 9007199254740992) :
    floatBits .mul .f64 x y = some (ml x y) ∧ Bd (ml x y) G ∧ ml x y < 18446744073709551616 ∧ Apx (rv (ml x y)) (rv x * rv y) := by
  have hb := oneV_bound
  have hpos : 0 < oneV := Nat.two_pow_pos _
  have hab : (fval x * fval y).natAbs ≤ G * oneV * oneV := by
    rw [Int.natAbs_mul]
    have := Nat.mul_le_mul hx.2 hy.2
    rw [show A * oneV * (C * oneV) = A * C * oneV * oneV by grind, hG] at this
    exact this
  obtain ⟨p, h1, h2, h3, h4⟩ := mul_op hx.1 hy.1 (by
    rw [Nat.pow_add]
    refine Nat.lt_of_le_of_lt hab (Nat.mul_lt_mul_of_pos_right ?_ hpos)
    have := Nat.mul_le_mul_right oneV hG2
    omega)
  have hn := h4.near hpos
  have hr := rep_units G hG2
  have r1 := (hn _ hr).2
  have r2 := (hn _ (rep_neg hr)).1
  rw [← Int.natCast_mul] at r1
  rw [Int.neg_mul, ← Int.natCast_mul] at r2
  have b1 := r1 (by omega)
  have b2 := r2 (by omega)
  have e : ml x y = p := by unfold ml; rw [h1]; rfl
  rw [e]
  refine ⟨h1, ⟨h2, by omega⟩, h3, fun B g1 g2 => ?_⟩
  exact near_rat hn hpos (M := rv x * rv y) (by
    rw [Rat.intCast_mul, rv_mul x, rv_mul y]
    have e : ((oneV : Int) : Rat) = uR := rfl
    rw [e]; grind) g1 g2
theorem sum_r {x r B : Nat} {N : Int} (hn : NearI (fval r) N 1) (hB : B ≤ 9007199254740992) (hN : N.natAbs ≤ B * oneV) : (fval r).natAbs ≤ B * oneV := by
  have hr := rep_units B hB
  have a := (hn _ hr).2 (by omega)
  have b := (hn _ (rep_neg hr)).1 (by omega)
  omega
theorem add_r {x y A C G : Nat} (hx : Bd x A) (hy : Bd y C) (hG : A + C = G) (hG2 : G ≤ 9007199254740992) :
    floatBits .add .f64 x y = some (ad x y) ∧ Bd (ad x y) G ∧ ad x y < 18446744073709551616 ∧ Apx (rv (ad x y)) (rv x + rv y) := by
  have hb := oneV_bound
  have h1 := hx.2
  have h2 := hy.2
  have e1 : A * oneV + C * oneV = G * oneV := by rw [← Nat.add_mul, hG]
  have e2 := Nat.mul_le_mul_right oneV hG2
  obtain ⟨r, r1, r2, r3, r4⟩ := add_op hx.1 hy.1 (by omega)
  have hn := r4.near (by omega)
  have e : ad x y = r := by unfold ad; rw [r1]; rfl
  rw [e]
  refine ⟨r1, ⟨r2, sum_r (x := x) hn hG2 (by omega)⟩, r3, fun B g1 g2 => ?_⟩
  exact near_rat hn (by omega) (M := rv x + rv y) (by rw [Rat.intCast_add, rv_mul x, rv_mul y]; have : (((1 : Nat) : Int) : Rat) = 1 := rfl; rw [this]; grind) g1 g2
theorem sub_r {x y A C G : Nat} (hx : Bd x A) (hy : Bd y C) (hG : A + C = G) (hG2 : G ≤ 9007199254740992) :
    floatBits .sub .f64 x y = some (sb x y) ∧ Bd (sb x y) G ∧ sb x y < 18446744073709551616 ∧ Apx (rv (sb x y)) (rv x - rv y) := by
  have hb := oneV_bound
  have h1 := hx.2
  have h2 := hy.2
  have e1 : A * oneV + C * oneV = G * oneV := by rw [← Nat.add_mul, hG]
  have e2 := Nat.mul_le_mul_right oneV hG2
  obtain ⟨r, r1, r2, r3, r4⟩ := sub_op hx.1 hy.1 (by omega)
  have hn := r4.near (by omega)
  have e : sb x y = r := by unfold sb; rw [r1]; rfl
  rw [e]
  refine ⟨r1, ⟨r2, sum_r (x := x) hn hG2 (by omega)⟩, r3, fun B g1 g2 => ?_⟩
  exact near_rat hn (by omega) (M := rv x - rv y) (by rw [Rat.intCast_sub, rv_mul x, rv_mul y]; have : (((1 : Nat) : Int) : Rat) = 1 := rfl; rw [this]; grind) g1 g2
/-- A quotient by what is no less than a quarter. -/
theorem div_r {x y A G : Nat} (hx : Bd x A) (hy : isNum y) (hy4 : oneV ≤ 4 * (fval y).natAbs) (hG : 4 * A = G) (hG2 : G ≤ 9007199254740992) :
    floatBits .quo .f64 x y = some (dvW x y) ∧ Bd (dvW x y) G ∧ dvW x y < 18446744073709551616 ∧ ∀ M : Rat, M * rv y = rv x → Apx (rv (dvW x y)) M := by
  have hO : 0 < oneV := Nat.two_pow_pos _
  have e2 := Nat.mul_le_mul_right oneV hG2
  have hE := fixE_eq
  obtain ⟨r, r1, r2, r3, s, t, R, f1, f2, f3, hn⟩ := div_op hx.1 hy (by
      refine Nat.lt_of_le_of_lt hx.2 ?_
      rw [Nat.pow_add, Nat.mul_comm (2 ^ fixE)]
      show A * oneV < 2 ^ 200 * oneV
      refine Nat.mul_lt_mul_of_pos_right (Nat.lt_of_lt_of_le (by omega : A < 2 ^ 60) (Nat.pow_le_pow_right (by omega) (by omega))) hO) (by
      have h1 : 4 * 2 ^ (fixE - 200) ≤ oneV := by
        unfold oneV
        rw [show (4 : Nat) = 2 ^ 2 from rfl, ← Nat.pow_add]
        exact Nat.pow_le_pow_right (by omega) (by omega)
      omega)
  have e : dvW x y = r := by unfold dvW; rw [r1]; rfl
  rw [e]
  have hyp : 0 < (fval y).natAbs := by omega
  have hRG : R ≤ G * 2 ^ fixE := (hn G fixE hG2).2.1 (by
    show (fval x).natAbs * oneV ≤ G * oneV * (fval y).natAbs
    have k1 := Nat.mul_le_mul_right oneV hx.2
    have k2 := Nat.mul_le_mul_left (A * oneV) hy4
    rw [← hG, show 4 * A * oneV * (fval y).natAbs = A * oneV * (4 * (fval y).natAbs) by grind]
    omega)
  have hra : (fval r).natAbs = R := by rw [f1]; split <;> omega
  refine ⟨r1, ⟨r2, by rw [hra]; exact hRG⟩, r3, fun M hM B g1 g2 => ?_⟩
  have hni := near_int_pos hn hyp
  have key : ∃ N : Int, NearI (fval r) N (fval y).natAbs ∧ (N : Rat) = M * (((fval y).natAbs : Int) : Rat) * uR := by
    have ex : (fval x : Rat) = M * (fval y : Rat) := by rw [rv_mul, rv_mul, ← hM]; grind
    have eo : ((oneV : Int) : Rat) = uR := rfl
    have absx : (((fval x).natAbs : Int) : Rat) = (if s then -(fval x : Rat) else (fval x : Rat)) := by
      cases s
      · simp only [Bool.false_eq_true, if_false] at f2 ⊢; rw [← f2]
      · simp only [if_true] at f2 ⊢; rw [← Rat.intCast_neg]; congr 1; omega
    have absy : (((fval y).natAbs : Int) : Rat) = (if t then -(fval y : Rat) else (fval y : Rat)) := by
      cases t
      · simp only [Bool.false_eq_true, if_false] at f3 ⊢; rw [← f3]
      · simp only [if_true] at f3 ⊢; rw [← Rat.intCast_neg]; congr 1; omega
    cases hst : (s ^^ t)
    · rw [hst] at f1
      simp only [Bool.false_eq_true, if_false] at f1
      refine ⟨(((fval x).natAbs * oneV : Nat) : Int), by rw [f1]; exact hni, ?_⟩
      rw [Int.natCast_mul, Rat.intCast_mul, eo, absx, absy, ex]
      clear f1 f2 f3 hni hn absx absy ex
      cases s <;> cases t <;> first | exact absurd hst (by decide) | (simp only [Bool.false_eq_true, if_false, if_true]; done) | (simp only [Bool.false_eq_true, if_false, if_true]; grind)
    · rw [hst] at f1
      simp only [if_true] at f1
      refine ⟨-(((fval x).natAbs * oneV : Nat) : Int), by rw [f1]; exact near_int_neg hni, ?_⟩
      rw [Rat.intCast_neg, Int.natCast_mul, Rat.intCast_mul, eo, absx, absy, ex]
      clear f1 f2 f3 hni hn absx absy ex
      cases s <;> cases t <;> first | exact absurd hst (by decide) | (simp only [Bool.false_eq_true, if_false, if_true]; done) | (simp only [Bool.false_eq_true, if_false, if_true]; grind)
  obtain ⟨N, hN1, hN2⟩ := key
  exact near_rat hN1 hyp hN2 g1 g2

/-! ### Turns -/
theorem turn_x {k : Nat} {X Y : Int} (h : TurnIs k X Y) : rv (trn k).1 = (X : Rat) / 1329227995784915872903807060280344576 ∧ rv (trn k).2 = (Y : Rat) / 1329227995784915872903807060280344576 := by
  have hU := uR_pos
  have hg : uR = 1329227995784915872903807060280344576 * ((grainV : Int) : Rat) := by
    have e : ((oneV : Int) : Rat) = uR := rfl
    rw [← e, oneV_grain, Int.natCast_mul, Rat.intCast_mul]; rfl
  have k1 := rv_mul (trn k).1
  have k2 := rv_mul (trn k).2
  rw [h.v1, Rat.intCast_mul] at k1
  rw [h.v2, Rat.intCast_mul] at k2
  rw [hg] at k1 k2 hU
  generalize ((grainV : Int) : Rat) = g at *
  have hg0 : g ≠ 0 := by intro e; subst e; grind
  constructor <;> grind
/-- The parts of a turn. -/
structure TnR (k : Nat) (a b : Rat) : Prop where
  e1 : rv (trn k).1 = a
  e2 : rv (trn k).2 = b
  lo : 1 - 1 / 1000000000000 ≤ a * a + b * b
  hi : a * a + b * b ≤ 1 + 1 / 1000000000000
  a0 : -(1001 / 1000) ≤ a
  a1 : a ≤ 1001 / 1000
  b0 : -(1001 / 1000) ≤ b
  b1 : b ≤ 1001 / 1000
theorem sq_le {a c : Rat} (hc : 0 < c) (h : a * a ≤ c * c) : -c ≤ a ∧ a ≤ c := by
  constructor
  · rcases Rat.le_total (a := -c) (b := a) with g | g
    · exact g
    · rcases Rat.le_iff_lt_or_eq.1 g with g2 | g2
      · have := Rat.mul_pos (a := -c - a) (b := c - a) (by grind) (by grind)
        grind
      · grind
  · rcases Rat.le_total (a := a) (b := c) with g | g
    · exact g
    · rcases Rat.le_iff_lt_or_eq.1 g with g2 | g2
      · have := Rat.mul_pos (a := a - c) (b := a + c) (by grind) (by grind)
        grind
      · grind
theorem sq_nn (a : Rat) : 0 ≤ a * a := by
  rcases Rat.le_total (a := 0) (b := a) with g | g
  · exact Rat.mul_nonneg g g
  · have := Rat.mul_nonneg (a := -a) (b := -a) (by grind) (by grind)
    grind
theorem turn_rat {k : Nat} {X Y : Int} (h : TurnIs k X Y) : TnR k ((X : Rat) / 1329227995784915872903807060280344576) ((Y : Rat) / 1329227995784915872903807060280344576) := by
  obtain ⟨e1, e2⟩ := turn_x h
  have lo := h.lo
  have hi := h.hi
  have l' : ((1766847064778384329583297500742918515827483896875618958121606201292619776 - 1606938044258990275541962092341162602522202993782792835301376 : Int) : Rat) ≤ ((X * X + Y * Y : Int) : Rat) := Rat.intCast_le_intCast.2 lo
  have h' : ((X * X + Y * Y : Int) : Rat) ≤ ((1766847064778384329583297500742918515827483896875618958121606201292619776 + 1606938044258990275541962092341162602522202993782792835301376 : Int) : Rat) := Rat.intCast_le_intCast.2 hi
  simp only [Rat.intCast_mul, Rat.intCast_sub, Rat.intCast_add] at l' h'
  have c1 : ((1766847064778384329583297500742918515827483896875618958121606201292619776 : Int) : Rat) = 1766847064778384329583297500742918515827483896875618958121606201292619776 := rfl
  have c2 : ((1606938044258990275541962092341162602522202993782792835301376 : Int) : Rat) = 1606938044258990275541962092341162602522202993782792835301376 := rfl
  rw [c1, c2] at l' h'
  generalize (X : Rat) = x at *
  generalize (Y : Rat) = y at *
  obtain ⟨a, ha⟩ : ∃ a, a = x / 1329227995784915872903807060280344576 := ⟨_, rfl⟩
  obtain ⟨b, hb⟩ : ∃ b, b = y / 1329227995784915872903807060280344576 := ⟨_, rfl⟩
  have hx : x = a * 1329227995784915872903807060280344576 := by grind
  have hy : y = b * 1329227995784915872903807060280344576 := by grind
  rw [← ha, ← hb]
  rw [← ha] at e1
  rw [← hb] at e2
  rw [hx, hy] at l' h'
  have lo2 : 1 - 1 / 1000000000000 ≤ a * a + b * b := by grind
  have hi2 : a * a + b * b ≤ 1 + 1 / 1000000000000 := by grind
  have na := sq_nn a
  have nb := sq_nn b
  obtain ⟨a0, a1⟩ := sq_le (a := a) (c := 1001 / 1000) (by grind) (by grind)
  obtain ⟨b0, b1⟩ := sq_le (a := b) (c := 1001 / 1000) (by grind) (by grind)
  exact ⟨e1, e2, lo2, hi2, a0, a1, b0, b1⟩
/-- Two different turns. -/
theorem apart_rat {k j : Nat} (hk : k < 360) (hj : j < 360) (hne : k ≠ j) {a b c d : Rat} (h1 : TnR k a b) (h2 : TnR j c d) : a * c + b * d ≤ 1 - 1 / 33000 := by
  obtain ⟨X, Y, X', Y', ht, ht', hap⟩ := turn_apart hk hj hne
  obtain ⟨e1, e2⟩ := turn_x ht
  obtain ⟨e3, e4⟩ := turn_x ht'
  rw [h1.e1] at e1
  rw [h1.e2] at e2
  rw [h2.e1] at e3
  rw [h2.e2] at e4
  have h' : ((2 * (X * X' + Y * Y') : Int) : Rat) ≤ ((3533586289799024939871582617519355412436067144868638224222639136996065280 : Int) : Rat) := Rat.intCast_le_intCast.2 hap
  simp only [Rat.intCast_mul, Rat.intCast_add] at h'
  have c1 : ((3533586289799024939871582617519355412436067144868638224222639136996065280 : Int) : Rat) = 3533586289799024939871582617519355412436067144868638224222639136996065280 := rfl
  have c2 : ((2 : Int) : Rat) = 2 := rfl
  rw [c1, c2] at h'
  generalize (X : Rat) = x at *
  generalize (Y : Rat) = y at *
  generalize (X' : Rat) = x' at *
  generalize (Y' : Rat) = y' at *
  have hx : x = a * 1329227995784915872903807060280344576 := by grind
  have hy : y = b * 1329227995784915872903807060280344576 := by grind
  have hx' : x' = c * 1329227995784915872903807060280344576 := by grind
  have hy' : y' = d * 1329227995784915872903807060280344576 := by grind
  rw [hx, hy, hx', hy'] at h'
  grind
end Go.Proofs.Ytonoknbangnleaa
