/- Plain facts on float64 words: sums, differences, products and quotients of numbers, rounded. Nothing here speaks of the program. -/
import Derived.Test.YtbjaedmifacgaaaFg
namespace Go.Proofs.Ytbjaedmifacgaaa
open Go.RowKit Ieee

theorem exB : ∃ B : Nat, B = 1900 := ⟨_, rfl⟩
/-- The bound of what is reckoned with: 2 to the 1900, the exponent kept from being reckoned out. -/
noncomputable def fixB : Nat := exB.choose
theorem fixB_eq : fixB = 1900 := exB.choose_spec

/-- The numbers of 53 digits, in parts of 2 to the -1074. -/
def Rep (v : Int) : Prop := ∃ q k : Nat, q ≤ 9007199254740992 ∧ v.natAbs = q * 2 ^ k
/-- v is what N / D is rounded to, for signed ones. -/
def NearI (v N : Int) (D : Nat) : Prop := ∀ g : Int, Rep g → (g * (D : Int) ≤ N → g ≤ v) ∧ (N ≤ g * (D : Int) → v ≤ g)
/-- A rounded quotient with its sign. -/
def Rounds (v N : Int) (D : Nat) : Prop := ∃ (s : Bool) (R A : Nat), v = (if s then -(R : Int) else (R : Int)) ∧ N = (if s then -(A : Int) else (A : Int)) ∧ Near R A D

theorem rep_neg {v : Int} (h : Rep v) : Rep (-v) := by
  obtain ⟨q, k, h1, h2⟩ := h; exact ⟨q, k, h1, by rw [Int.natAbs_neg]; exact h2⟩
theorem rep_num {x : Nat} (h : isNum x) : Rep (fval x) := by
  obtain ⟨s, m, i, e, _, hm⟩ := h
  refine ⟨m, (i + 1074).toNat, Nat.le_of_lt hm, ?_⟩
  unfold fval; rw [e]; exact (val_amount s m _).1
theorem near_int_pos {R A D : Nat} (h : Near R A D) (hD : 0 < D) : NearI (R : Int) (A : Int) D := by
  intro g hg
  obtain ⟨q, k, hq, hv⟩ := hg
  obtain ⟨n1, n2, _⟩ := h q k hq
  have hDi : (0 : Int) < (D : Int) := by omega
  rw [← hv] at n1 n2
  rcases Int.lt_or_le g 0 with h0 | h0
  · refine ⟨fun _ => by omega, fun h => ?_⟩
    have := Int.mul_neg_of_neg_of_pos h0 hDi
    omega
  · obtain ⟨a, rfl⟩ : ∃ a : Nat, g = (a : Int) := ⟨g.toNat, by omega⟩
    rw [Int.natAbs_natCast] at n1 n2
    refine ⟨fun h => ?_, fun h => ?_⟩
    · have := n1 (by exact_mod_cast h); omega
    · have := n2 (by exact_mod_cast h); omega
theorem near_int_neg {v N : Int} {D : Nat} (h : NearI v N D) : NearI (-v) (-N) D := by
  intro g hg
  obtain ⟨h1, h2⟩ := h (-g) (rep_neg hg)
  rw [Int.neg_mul] at h1 h2
  exact ⟨fun h => by have := h2 (by omega); omega, fun h => by have := h1 (by omega); omega⟩
theorem Rounds.near {v N : Int} {D : Nat} (h : Rounds v N D) (hD : 0 < D) : NearI v N D := by
  obtain ⟨s, R, A, rfl, rfl, hn⟩ := h
  have := near_int_pos hn hD
  cases s
  · exact this
  · exact near_int_neg this
/-- One that is a number of 53 digits itself is kept. -/
theorem NearI.exact {v g : Int} {D : Nat} (h : NearI v (g * (D : Int)) D) (hg : Rep g) : v = g := by
  obtain ⟨h1, h2⟩ := h g hg
  exact Int.le_antisymm (h2 (Int.le_refl _)) (h1 (Int.le_refl _))

theorem signed_abs (s : Bool) (m u : Nat) : signed s m u = if s then -(((signed s m u).natAbs : Nat) : Int) else (((signed s m u).natAbs : Nat) : Int) := by
  rw [(val_amount s m u).1, signed_eq]

/-- A sum of numbers. -/
theorem add_op {x y : Nat} (hx : isNum x) (hy : isNum y) (hb : (fval x + fval y).natAbs < 2 ^ fixB) :
    ∃ r, f64.add x y = some r ∧ isNum r ∧ r < 18446744073709551616 ∧ Rounds (fval r) (fval x + fval y) 1 := by
  obtain ⟨s, m, i, ex, hi, _⟩ := hx
  obtain ⟨t, n, j, ey, hj, _⟩ := hy
  obtain ⟨T, hT⟩ : ∃ T, T = signed s m (i - min i j).toNat + signed t n (j - min i j).toNat := ⟨_, rfl⟩
  obtain ⟨neg, hneg⟩ : ∃ neg : Bool, neg = (if T = 0 then s && t else decide (T < 0)) := ⟨_, rfl⟩
  have hr : f64.add x y = some (f64.nearest neg T.natAbs (min i j)) := by
    unfold Format.add; rw [ex, ey]
    show some (f64.write (.number (if signed s m (i - min i j).toNat + signed t n (j - min i j).toNat = 0 then s && t else decide (signed s m (i - min i j).toNat + signed t n (j - min i j).toNat < 0)) (signed s m (i - min i j).toNat + signed t n (j - min i j).toNat).natAbs (min i j))) = _
    rw [← hT, ← hneg]; rfl
  obtain ⟨P, hP⟩ : ∃ P : Nat, P = (min i j + 1074).toNat := ⟨_, rfl⟩
  have hsum : fval x + fval y = T * ((2 ^ P : Nat) : Int) := by
    unfold fval; rw [ex, ey]
    show signed s m (i + 1074).toNat + signed t n (j + 1074).toNat = _
    rw [show (i + 1074).toNat = (i - min i j).toNat + P by omega, show (j + 1074).toNat = (j - min i j).toNat + P by omega, signed_shift, signed_shift, ← Int.add_mul, hT]
  have habs : (fval x + fval y).natAbs = T.natAbs * 2 ^ P := by rw [hsum, Int.natAbs_mul]; rfl
  obtain ⟨hn, R, hv, hnear⟩ := near_core neg T.natAbs (min i j) 0 P (by omega) (by rw [← habs, Nat.add_zero, ← fixB_eq]; exact hb)
  refine ⟨_, hr, hn, FloatKind.f64.format.add_lt hr, ?_⟩
  rw [← habs, Nat.pow_zero] at hnear
  by_cases h0 : T = 0
  · have hz : (fval x + fval y) = 0 := by rw [hsum, h0, Int.zero_mul]
    rw [hz] at hnear ⊢
    have hR : R ≤ 0 := by have := (hnear 0 0 (by omega)).2.1 (by simp); simpa using this
    exact ⟨neg, R, 0, hv, by cases neg <;> simp, hnear⟩
  · rw [if_neg h0] at hneg
    refine ⟨neg, R, (fval x + fval y).natAbs, hv, ?_, hnear⟩
    have hp : (0 : Int) < ((2 ^ P : Nat) : Int) := by have := Nat.two_pow_pos P; omega
    rw [hneg, hsum]
    by_cases h1 : T < 0
    · have := Int.mul_neg_of_neg_of_pos h1 hp
      simp only [h1, decide_true, if_true]
      clear hb hsum habs hnear
      generalize T * ((2 ^ P : Nat) : Int) = z at *
      omega
    · have := Int.mul_nonneg (show (0 : Int) ≤ T by omega) (Int.le_of_lt hp)
      simp only [h1, decide_false]
      clear hb hsum habs hnear
      generalize T * ((2 ^ P : Nat) : Int) = z at *
      simp only [Bool.false_eq_true, if_false]
      omega

/-- The word of the opposite number reads as the opposite datum: a difference is a sum. -/
theorem sub_op {x y : Nat} (hx : isNum x) (hy : isNum y) (hb : (fval x - fval y).natAbs < 2 ^ fixB) :
    ∃ r, f64.sub x y = some r ∧ isNum r ∧ r < 18446744073709551616 ∧ Rounds (fval r) (fval x - fval y) 1 := by
  obtain ⟨s, m, i, ex, hi, _⟩ := hx
  obtain ⟨t, n, j, ey, hj, _⟩ := hy
  obtain ⟨T, hT⟩ : ∃ T, T = signed s m (i - min i j).toNat + signed (!t) n (j - min i j).toNat := ⟨_, rfl⟩
  obtain ⟨neg, hneg⟩ : ∃ neg : Bool, neg = (if T = 0 then s && !t else decide (T < 0)) := ⟨_, rfl⟩
  have hr : f64.sub x y = some (f64.nearest neg T.natAbs (min i j)) := by
    unfold Format.sub; rw [ex, ey]
    show some (f64.write (.number (if signed s m (i - min i j).toNat + signed (!t) n (j - min i j).toNat = 0 then s && !t else decide (signed s m (i - min i j).toNat + signed (!t) n (j - min i j).toNat < 0)) (signed s m (i - min i j).toNat + signed (!t) n (j - min i j).toNat).natAbs (min i j))) = _
    rw [← hT, ← hneg]; rfl
  obtain ⟨P, hP⟩ : ∃ P : Nat, P = (min i j + 1074).toNat := ⟨_, rfl⟩
  have hsum : fval x - fval y = T * ((2 ^ P : Nat) : Int) := by
    unfold fval; rw [ex, ey]
    show signed s m (i + 1074).toNat - signed t n (j + 1074).toNat = _
    rw [Int.sub_eq_add_neg, ← signed_not t, show (i + 1074).toNat = (i - min i j).toNat + P by omega, show (j + 1074).toNat = (j - min i j).toNat + P by omega, signed_shift, signed_shift, ← Int.add_mul, hT]
  have habs : (fval x - fval y).natAbs = T.natAbs * 2 ^ P := by rw [hsum, Int.natAbs_mul]; rfl
  obtain ⟨hn, R, hv, hnear⟩ := near_core neg T.natAbs (min i j) 0 P (by omega) (by rw [← habs, Nat.add_zero, ← fixB_eq]; exact hb)
  refine ⟨_, hr, hn, FloatKind.f64.format.sub_lt hr, ?_⟩
  rw [← habs, Nat.pow_zero] at hnear
  by_cases h0 : T = 0
  · have hz : (fval x - fval y) = 0 := by rw [hsum, h0, Int.zero_mul]
    rw [hz] at hnear ⊢
    exact ⟨neg, R, 0, hv, by cases neg <;> simp, hnear⟩
  · rw [if_neg h0] at hneg
    refine ⟨neg, R, (fval x - fval y).natAbs, hv, ?_, hnear⟩
    have hp : (0 : Int) < ((2 ^ P : Nat) : Int) := by have := Nat.two_pow_pos P; omega
    rw [hneg, hsum]
    by_cases h1 : T < 0
    · have := Int.mul_neg_of_neg_of_pos h1 hp
      simp only [h1, decide_true, if_true]
      clear hb hsum habs hnear
      generalize T * ((2 ^ P : Nat) : Int) = z at *
      omega
    · have := Int.mul_nonneg (show (0 : Int) ≤ T by omega) (Int.le_of_lt hp)
      simp only [h1, decide_false]
      clear hb hsum habs hnear
      generalize T * ((2 ^ P : Nat) : Int) = z at *
      simp only [Bool.false_eq_true, if_false]
      omega

theorem signed_mul (s t : Bool) (m n u v : Nat) : signed s m u * signed t n v = if s ^^ t then -((m * n * 2 ^ (u + v) : Nat) : Int) else ((m * n * 2 ^ (u + v) : Nat) : Int) := by
  rw [signed_eq, signed_eq, Nat.pow_add, show m * n * (2 ^ u * 2 ^ v) = (m * 2 ^ u) * (n * 2 ^ v) by rw [Nat.mul_assoc, Nat.mul_assoc, Nat.mul_left_comm n]]
  generalize m * 2 ^ u = a
  generalize n * 2 ^ v = b
  cases s <;> cases t <;> simp [Int.neg_mul, Int.mul_neg]

/-- A product of numbers. -/
theorem mul_op {x y : Nat} (hx : isNum x) (hy : isNum y) (hb : (fval x * fval y).natAbs < 2 ^ (fixB + fixE)) :
    ∃ r, f64.mul x y = some r ∧ isNum r ∧ r < 18446744073709551616 ∧ Rounds (fval r) (fval x * fval y) oneV := by
  have hE := fixE_eq
  obtain ⟨s, m, i, ex, hi, _⟩ := hx
  obtain ⟨t, n, j, ey, hj, _⟩ := hy
  have hr : f64.mul x y = some (f64.nearest (s ^^ t) (m * n) (i + j)) := by
    unfold Format.mul; rw [ex, ey]; rfl
  obtain ⟨u, hu⟩ : ∃ u : Nat, u = (i + 1074).toNat := ⟨_, rfl⟩
  obtain ⟨v, hv'⟩ : ∃ v : Nat, v = (j + 1074).toNat := ⟨_, rfl⟩
  have hprod : fval x * fval y = if s ^^ t then -((m * n * 2 ^ (u + v) : Nat) : Int) else ((m * n * 2 ^ (u + v) : Nat) : Int) := by
    unfold fval; rw [ex, ey]
    show signed s m (i + 1074).toNat * signed t n (j + 1074).toNat = _
    rw [← hu, ← hv']; exact signed_mul s t m n u v
  have habs : (fval x * fval y).natAbs = m * n * 2 ^ (u + v) := by
    rw [hprod]; split
    · rw [Int.natAbs_neg]; rfl
    · rfl
  obtain ⟨hn, R, hv, hnear⟩ := near_core (s ^^ t) (m * n) (i + j) fixE (u + v) (by omega) (by rw [← habs, ← fixB_eq]; exact hb)
  exact ⟨_, hr, hn, FloatKind.f64.format.mul_lt hr, s ^^ t, R, _, hv, hprod, hnear⟩
end Go.Proofs.Ytbjaedmifacgaaa
