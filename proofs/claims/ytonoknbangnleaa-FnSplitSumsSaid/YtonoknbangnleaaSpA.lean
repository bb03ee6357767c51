/- Turns that lie 5 to 175 degrees apart cross: a table, on whole numbers; a quotient by a twelfth at least. Nothing here speaks of the program. -/
import Derived.Test.YtonoknbangnleaaFxE
namespace Go.Proofs.Ytonoknbangnleaa
open Go.RowKit Ieee
set_option linter.unusedVariables false
set_option linter.unusedSimpArgs false

/-- Whether two that lie so many degrees apart are looked at. -/
noncomputable def inDS (d : Nat) : Bool := Bool.rec (motive := fun _ => Bool) false (Bool.rec (motive := fun _ => Bool) (Bool.rec (motive := fun _ => Bool) false (Nat.ble d 355) (Nat.ble 185 d)) true (Nat.ble d 175)) (Nat.ble 5 d)
noncomputable def crossFromS (a : Nat × Nat) (l : List (Nat × Nat)) : Nat → Bool := List.rec (motive := fun _ => Nat → Bool) (fun _ => true) (fun b _ ih d => Bool.rec (motive := fun _ => Bool) (ih (Nat.succ d)) (Bool.rec (motive := fun _ => Bool) false (ih (Nat.succ d)) (Nat.ble 369367187 (crC a b))) (inDS d)) l
noncomputable def crossAllS (l : List (Nat × Nat)) : Bool := List.rec (motive := fun _ => Bool) true (fun a bs ih => Bool.rec (motive := fun _ => Bool) false ih (crossFromS a bs 1)) l
theorem crossAll_tabS : crossAllS tabC = true := by kernel_rfl

theorem crossFrom_atS (a : Nat × Nat) : ∀ (l : List (Nat × Nat)) (d : Nat), crossFromS a l d = true → ∀ (i : Nat) (b : Nat × Nat), l[i]? = some b → inDS (d + i) = true → 369367187 ≤ crC a b
  | [], d, _, i, b, h, _ => by simp at h
  | b0 :: bs, d, hf, i, b, h, hd => by
    have e : crossFromS a (b0 :: bs) d = Bool.rec (motive := fun _ => Bool) (crossFromS a bs (Nat.succ d)) (Bool.rec (motive := fun _ => Bool) false (crossFromS a bs (Nat.succ d)) (Nat.ble 369367187 (crC a b0))) (inDS d) := rfl
    rw [e] at hf
    have hboth : crossFromS a bs (Nat.succ d) = true ∧ (inDS d = true → 369367187 ≤ crC a b0) := by
      cases h1 : inDS d with
      | false => rw [h1] at hf; exact ⟨hf, fun h => by cases h⟩
      | true =>
        rw [h1] at hf
        cases h2 : Nat.ble 369367187 (crC a b0) with
        | false => rw [h2] at hf; cases hf
        | true => rw [h2] at hf; exact ⟨hf, fun _ => Nat.le_of_ble_eq_true h2⟩
    cases i with
    | zero =>
      have : b0 = b := by simpa using h
      subst this
      exact hboth.2 hd
    | succ i => exact crossFrom_atS a bs (Nat.succ d) hboth.1 i b (by simpa using h) (by rw [show Nat.succ d + i = d + (i + 1) by omega]; exact hd)
theorem crossAll_atS : ∀ (l : List (Nat × Nat)), crossAllS l = true → ∀ (i j : Nat) (a b : Nat × Nat), i < j → l[i]? = some a → l[j]? = some b → inDS (j - i) = true → 369367187 ≤ crC a b
  | [], _, i, j, a, b, _, h, _, _ => by simp at h
  | a0 :: l, hf, i, j, a, b, hij, ha, hb, hd => by
    have e : crossAllS (a0 :: l) = Bool.rec (motive := fun _ => Bool) false (crossAllS l) (crossFromS a0 l 1) := rfl
    rw [e] at hf
    cases h1 : crossFromS a0 l 1 with
    | false => rw [h1] at hf; cases hf
    | true =>
      rw [h1] at hf
      obtain ⟨j', rfl⟩ : ∃ j', j = j' + 1 := ⟨j - 1, by omega⟩
      have hb' : l[j']? = some b := by simpa using hb
      cases i with
      | zero =>
        have : a0 = a := by simpa using ha
        subst this
        exact crossFrom_atS _ l 1 h1 j' b hb' (by rw [show 1 + j' = j' + 1 - 0 by omega]; exact hd)
      | succ i => exact crossAll_atS l hf i j' a b (by omega) (by simpa using ha) hb' (by rw [show j' - i = j' + 1 - (i + 1) by omega]; exact hd)
theorem inD_ofS {d : Nat} (h : (5 ≤ d ∧ d ≤ 175) ∨ (185 ≤ d ∧ d ≤ 355)) : inDS d = true := by
  unfold inDS
  rcases h with ⟨h1, h2⟩ | ⟨h1, h2⟩
  · rw [Nat.ble_eq_true_of_le h1, Nat.ble_eq_true_of_le h2]
  · rw [Nat.ble_eq_true_of_le (show 5 ≤ d by omega), Nat.ble_eq_true_of_le h1, Nat.ble_eq_true_of_le h2]
    cases Nat.ble d 175 <;> rfl
theorem cross_ltS {j k : Nat} (hjk : j < k) (hk : k < 360) (hd : inDS (k - j) = true) {a b c d : Rat} (h1 : TnR j a b) (h2 : TnR k c d) : 85 / 1000 ≤ a * d - b * c ∨ a * d - b * c ≤ -(85 / 1000) := by
  obtain ⟨u, X, Y, hu, ht, u1, u2, u3, u4⟩ := turn_cutC j (by omega)
  obtain ⟨v, X', Y', hv, ht', v1, v2, v3, v4⟩ := turn_cutC k hk
  have hc := crossAll_atS tabC crossAll_tabS j k u v hjk hu hv hd
  obtain ⟨e1, e2⟩ := turn_x ht
  obtain ⟨e3, e4⟩ := turn_x ht'
  obtain ⟨p1, p2⟩ := cut_part u1 u2
  obtain ⟨p3, p4⟩ := cut_part u3 u4
  obtain ⟨q1, q2⟩ := cut_part v1 v2
  obtain ⟨q3, q4⟩ := cut_part v3 v4
  rw [← e1, h1.e1] at p1 p2
  rw [← e2, h1.e2] at p3 p4
  rw [← e3, h2.e1] at q1 q2
  rw [← e4, h2.e2] at q3 q4
  obtain ⟨x1, x2⟩ := u
  obtain ⟨y1, y2⟩ := v
  have hK : 369367187 ≤ (((x1 : Int) - 262144) * ((y2 : Int) - 262144) - ((x2 : Int) - 262144) * ((y1 : Int) - 262144)) ∨ (((x1 : Int) - 262144) * ((y2 : Int) - 262144) - ((x2 : Int) - 262144) * ((y1 : Int) - 262144)) ≤ -369367187 := by
    unfold crC at hc
    have hc' : 369367187 ≤ (x1 * y2 + 262144 * (x2 + y1) - (x2 * y1 + 262144 * (x1 + y2))) + (x2 * y1 + 262144 * (x1 + y2) - (x1 * y2 + 262144 * (x2 + y1))) := hc
    have m1 : ((x1 : Int) - 262144) * ((y2 : Int) - 262144) = ((x1 * y2 : Nat) : Int) - 262144 * x1 - 262144 * y2 + 68719476736 := by rw [Int.natCast_mul]; grind
    have m2 : ((x2 : Int) - 262144) * ((y1 : Int) - 262144) = ((x2 * y1 : Nat) : Int) - 262144 * x2 - 262144 * y1 + 68719476736 := by rw [Int.natCast_mul]; grind
    rw [m1, m2]
    generalize x1 * y2 = s at *
    generalize x2 * y1 = t at *
    omega
  have hK' : (369367187 : Rat) ≤ ((((x1 : Int) - 262144 : Int) : Rat) * (((y2 : Int) - 262144 : Int) : Rat) - (((x2 : Int) - 262144 : Int) : Rat) * (((y1 : Int) - 262144 : Int) : Rat)) ∨
      ((((x1 : Int) - 262144 : Int) : Rat) * (((y2 : Int) - 262144 : Int) : Rat) - (((x2 : Int) - 262144 : Int) : Rat) * (((y1 : Int) - 262144 : Int) : Rat)) ≤ -(369367187 : Rat) := by
    rcases hK with h | h
    · left
      have := Rat.intCast_le_intCast.2 h
      rw [Rat.intCast_sub, Rat.intCast_mul, Rat.intCast_mul] at this
      exact this
    · right
      have := Rat.intCast_le_intCast.2 h
      rw [Rat.intCast_sub, Rat.intCast_mul, Rat.intCast_mul] at this
      exact this
  clear hK hc u1 u2 u3 u4 v1 v2 v3 v4 e1 e2 e3 e4 ht ht' hu hv
  have ba := h1.a0; have ba' := h1.a1; have bb := h1.b0; have bb' := h1.b1
  have bc := h2.a0; have bc' := h2.a1; have bd := h2.b0; have bd' := h2.b1
  clear h1 h2
  dsimp only at *
  generalize (((x1 : Int) - 262144 : Int) : Rat) = A at *
  generalize (((x2 : Int) - 262144 : Int) : Rat) = B at *
  generalize (((y1 : Int) - 262144 : Int) : Rat) = C at *
  generalize (((y2 : Int) - 262144 : Int) : Rat) = D at *
  obtain ⟨fa, hfa⟩ : ∃ fa, fa = a - A / 65536 := ⟨_, rfl⟩
  obtain ⟨fb, hfb⟩ : ∃ fb, fb = b - B / 65536 := ⟨_, rfl⟩
  obtain ⟨fc, hfc⟩ : ∃ fc, fc = c - C / 65536 := ⟨_, rfl⟩
  obtain ⟨fd, hfd⟩ : ∃ fd, fd = d - D / 65536 := ⟨_, rfl⟩
  have hA : A = (a - fa) * 65536 := by grind
  have hB : B = (b - fb) * 65536 := by grind
  have hC : C = (c - fc) * 65536 := by grind
  have hD : D = (d - fd) * 65536 := by grind
  have za : -(1 / 65536) ≤ fa ∧ fa ≤ 1 / 65536 := by grind
  have zb : -(1 / 65536) ≤ fb ∧ fb ≤ 1 / 65536 := by grind
  have zc : -(1 / 65536) ≤ fc ∧ fc ≤ 1 / 65536 := by grind
  have zd : -(1 / 65536) ≤ fd ∧ fd ≤ 1 / 65536 := by grind
  have g1 := mul_bd ba ba' zd.1 zd.2
  have g2 := mul_bd bd bd' za.1 za.2
  have g3 := mul_bd za.1 za.2 zd.1 zd.2
  have g4 := mul_bd bb bb' zc.1 zc.2
  have g5 := mul_bd bc bc' zb.1 zb.2
  have g6 := mul_bd zb.1 zb.2 zc.1 zc.2
  rw [hA, hB, hC, hD] at hK'
  clear p1 p2 p3 p4 q1 q2 q3 q4 hfa hfb hfc hfd hA hB hC hD
  have key : (a - fa) * 65536 * ((d - fd) * 65536) - (b - fb) * 65536 * ((c - fc) * 65536) = 4294967296 * (a * d - b * c - a * fd - d * fa + fa * fd + b * fc + c * fb - fb * fc) := by grind
  rw [key] at hK'
  rcases hK' with h | h
  · left; grind
  · right; grind
theorem cross_anyS {j k : Nat} (hj : j < 360) (hk : k < 360) (hd : (j < k ∧ inDS (k - j) = true) ∨ (k < j ∧ inDS (j - k) = true)) {a b c d : Rat} (h1 : TnR j a b) (h2 : TnR k c d) : 85 / 1000 ≤ a * d - b * c ∨ a * d - b * c ≤ -(85 / 1000) := by
  rcases hd with ⟨h, g⟩ | ⟨h, g⟩
  · exact cross_ltS h hk g h1 h2
  · rcases cross_ltS h hj g h2 h1 with e | e
    · right; grind
    · left; grind
/-- A quotient by what is no less than a twelfth. -/
theorem div_rS {x y A G : Nat} (hx : Bd x A) (hy : isNum y) (hy4 : oneV ≤ 12 * (fval y).natAbs) (hG : 12 * A = G) (hG2 : G ≤ 9007199254740992) :
    floatBits .quo .f64 x y = some (dvW x y) ∧ Bd (dvW x y) G ∧ dvW x y < 18446744073709551616 ∧ ∀ M : Rat, M * rv y = rv x → Apx (rv (dvW x y)) M := by
  have hO : 0 < oneV := Nat.two_pow_pos _
  have e2 := Nat.mul_le_mul_right oneV hG2
  have hE := fixE_eq
  obtain ⟨r, r1, r2, r3, s, t, R, f1, f2, f3, hn⟩ := div_op hx.1 hy (by
      refine Nat.lt_of_le_of_lt hx.2 ?_
      rw [Nat.pow_add, Nat.mul_comm (2 ^ fixE)]
      show A * oneV < 2 ^ 200 * oneV
      refine Nat.mul_lt_mul_of_pos_right (Nat.lt_of_lt_of_le (by omega : A < 2 ^ 60) (Nat.pow_le_pow_right (by omega) (by omega))) hO) (by
      have h1 : 16 * 2 ^ (fixE - 200) ≤ oneV := by
        unfold oneV
        rw [show (16 : Nat) = 2 ^ 4 from rfl, ← Nat.pow_add]
        exact Nat.pow_le_pow_right (by omega) (by omega)
      omega)
  have e : dvW x y = r := by unfold dvW; rw [r1]; rfl
  rw [e]
  have hyp : 0 < (fval y).natAbs := by omega
  have hRG : R ≤ G * 2 ^ fixE := (hn G fixE hG2).2.1 (by
    show (fval x).natAbs * oneV ≤ G * oneV * (fval y).natAbs
    have k1 := Nat.mul_le_mul_right oneV hx.2
    have k2 := Nat.mul_le_mul_left (A * oneV) hy4
    rw [← hG, show 12 * A * oneV * (fval y).natAbs = A * oneV * (12 * (fval y).natAbs) by grind]
    omega)
  have hra : (fval r).natAbs = R := by rw [f1]; split <;> omega
  refine ⟨r1, ⟨r2, by rw [hra]; exact hRG⟩, r3, fun M hM B g1 g2 => ?_⟩
  have hni := near_int_pos hn hyp
  have key : ∃ N : Int, NearI (fval r) N (fval y).natAbs ∧ (N : Rat) = M * (((fval y).natAbs : Int) : Rat) * uR := by
    have ex : (fval x : Rat) = M * (fval y : Rat) := by rw [rv_mul, rv_mul, ← hM]; grind
    have eo : ((oneV : Int) : Rat) = uR := rfl
    have absx : (((fval x).natAbs : Int) : Rat) = (if s then -(fval x : Rat) else (fval x : Rat)) := by
      cases s
      · simp only [Bool.false_eq_true, if_false] at f2 ⊢; rw [← f2]
      · simp only [if_true] at f2 ⊢; rw [← Rat.intCast_neg]; congr 1; omega
    have absy : (((fval y).natAbs : Int) : Rat) = (if t then -(fval y : Rat) else (fval y : Rat)) := by
      cases t
      · simp only [Bool.false_eq_true, if_false] at f3 ⊢; rw [← f3]
      · simp only [if_true] at f3 ⊢; rw [← Rat.intCast_neg]; congr 1; omega
    cases hst : (s ^^ t)
    · rw [hst] at f1
      simp only [Bool.false_eq_true, if_false] at f1
      refine ⟨(((fval x).natAbs * oneV : Nat) : Int), by rw [f1]; exact hni, ?_⟩
      rw [Int.natCast_mul, Rat.intCast_mul, eo, absx, absy, ex]
      clear f1 f2 f3 hni hn absx absy ex
      cases s <;> cases t <;> first | exact absurd hst (by decide) | (simp only [Bool.false_eq_true, if_false, if_true]; done) | (simp only [Bool.false_eq_true, if_false, if_true]; grind)
    · rw [hst] at f1
      simp only [if_true] at f1
      refine ⟨-(((fval x).natAbs * oneV : Nat) : Int), by rw [f1]; exact near_int_neg hni, ?_⟩
      rw [Rat.intCast_neg, Int.natCast_mul, Rat.intCast_mul, eo, absx, absy, ex]
      clear f1 f2 f3 hni hn absx absy ex
      cases s <;> cases t <;> first | exact absurd hst (by decide) | (simp only [Bool.false_eq_true, if_false, if_true]; done) | (simp only [Bool.false_eq_true, if_false, if_true]; grind)
  obtain ⟨N, hN1, hN2⟩ := key
  exact near_rat hN1 hyp hN2 g1 g2

end Go.Proofs.Ytonoknbangnleaa
