/- A way, split along two turns: words and numbers. Nothing here speaks of the program. -/
import Derived.Test.YtonoknbangnleaaSpA
import Derived.Test.YtonoknbangnleaaFxH
namespace Go.Proofs.Ytonoknbangnleaa
open Go.RowKit Ieee
set_option linter.unusedVariables false
set_option linter.unusedSimpArgs false

theorem cr_of {p u q v r et D : Rat} (hD : D = 1 / 4503599627370496) (et2 : et ≤ 1 / 1000000000000000000000000000000)
    (g1 : -(100000000 * (1001 / 1000)) ≤ p ∧ p ≤ 100000000 * (1001 / 1000)) (g2 : -(100000000 * (1001 / 1000)) ≤ q ∧ q ≤ 100000000 * (1001 / 1000))
    (p1 : u - p ≤ 100500000 * D + et ∧ p - u ≤ 100500000 * D + et) (p2 : v - q ≤ 100500000 * D + et ∧ q - v ≤ 100500000 * D + et)
    (p3 : r - (u - v) ≤ 201500000 * D + et ∧ (u - v) - r ≤ 201500000 * D + et) :
    r - (p - q) ≤ 1 / 10000000 ∧ (p - q) - r ≤ 1 / 10000000 ∧ -202000000 ≤ r ∧ r ≤ 202000000 := by
  subst hD
  refine ⟨?_, ?_, ?_, ?_⟩ <;> grind
theorem uv_of {p u q v et D : Rat} (hD : D = 1 / 4503599627370496) (et2 : et ≤ 1 / 1000000000000000000000000000000)
    (g1 : -(100000000 * (1001 / 1000)) ≤ p ∧ p ≤ 100000000 * (1001 / 1000)) (g2 : -(100000000 * (1001 / 1000)) ≤ q ∧ q ≤ 100000000 * (1001 / 1000))
    (p1 : u - p ≤ 100500000 * D + et ∧ p - u ≤ 100500000 * D + et) (p2 : v - q ≤ 100500000 * D + et ∧ q - v ≤ 100500000 * D + et) : -201500000 ≤ u - v ∧ u - v ≤ 201500000 := by
  subst hD
  constructor <;> grind
theorem mid_of {p : Rat} (g1 : -(100000000 * (1001 / 1000)) ≤ p ∧ p ≤ 100000000 * (1001 / 1000)) : -100500000 ≤ p ∧ p ≤ 100500000 := by constructor <;> grind

/-- The cross of a position and a turn. -/
theorem crs_mid {d : Nat × Nat} {k : Nat} {a b : Rat} (h1 : Bd d.1 100000000) (h2 : Bd d.2 100000000) (hk : k < 360) (ht : TnR k a b) :
    floatBits .mul .f64 d.1 (trn k).2 = some (ml d.1 (trn k).2) ∧ floatBits .mul .f64 d.2 (trn k).1 = some (ml d.2 (trn k).1) ∧ floatBits .sub .f64 (ml d.1 (trn k).2) (ml d.2 (trn k).1) = some (crsW d (trn k)) ∧ Bd (crsW d (trn k)) 400000000 ∧
    rv (crsW d (trn k)) - (rv d.1 * b - rv d.2 * a) ≤ 1 / 10000000 ∧ (rv d.1 * b - rv d.2 * a) - rv (crsW d (trn k)) ≤ 1 / 10000000 ∧ -202000000 ≤ rv (crsW d (trn k)) ∧ rv (crsW d (trn k)) ≤ 202000000 := by
  obtain ⟨t1, t2⟩ := bd_turn hk
  obtain ⟨m1, m2, m3, m4⟩ := mul_r h1 t2 (G := 200000000) (by omega) (by omega)
  obtain ⟨n1, n2, n3, n4⟩ := mul_r h2 t1 (G := 200000000) (by omega) (by omega)
  obtain ⟨s1, s2, s3, s4⟩ := sub_r m2 n2 (G := 400000000) (by omega) (by omega)
  obtain ⟨e1, e2⟩ := eta_bd
  have y1 := h1.rat
  have y2 := h2.rat
  have c2 : (((100000000 : Nat) : Int) : Rat) = 100000000 := rfl
  rw [c2] at y1 y2
  rw [ht.e2] at m4
  rw [ht.e1] at n4
  have g1 := mul_bd y1.1 y1.2 ht.b0 ht.b1
  have g2 := mul_bd y2.1 y2.2 ht.a0 ht.a1
  have p1 := m4 100500000 (mid_of g1).1 (mid_of g1).2
  have p2 := n4 100500000 (mid_of g2).1 (mid_of g2).2
  rw [e52_lt] at p1 p2
  have u1 := uv_of rfl e2 g1 g2 p1 p2
  have p3 := s4 201500000 u1.1 u1.2
  rw [e52_lt] at p3
  exact ⟨m1, n1, s1, s2, cr_of rfl e2 g1 g2 p1 p2 p3⟩
/-- The cross of a turn and a position. -/
theorem crs_rev {d : Nat × Nat} {k : Nat} {a b : Rat} (h1 : Bd d.1 100000000) (h2 : Bd d.2 100000000) (hk : k < 360) (ht : TnR k a b) :
    floatBits .mul .f64 (trn k).1 d.2 = some (ml (trn k).1 d.2) ∧ floatBits .mul .f64 (trn k).2 d.1 = some (ml (trn k).2 d.1) ∧ floatBits .sub .f64 (ml (trn k).1 d.2) (ml (trn k).2 d.1) = some (crsW (trn k) d) ∧ Bd (crsW (trn k) d) 400000000 ∧
    rv (crsW (trn k) d) - (a * rv d.2 - b * rv d.1) ≤ 1 / 10000000 ∧ (a * rv d.2 - b * rv d.1) - rv (crsW (trn k) d) ≤ 1 / 10000000 ∧ -202000000 ≤ rv (crsW (trn k) d) ∧ rv (crsW (trn k) d) ≤ 202000000 := by
  obtain ⟨t1, t2⟩ := bd_turn hk
  obtain ⟨m1, m2, m3, m4⟩ := mul_r t1 h2 (G := 200000000) (by omega) (by omega)
  obtain ⟨n1, n2, n3, n4⟩ := mul_r t2 h1 (G := 200000000) (by omega) (by omega)
  obtain ⟨s1, s2, s3, s4⟩ := sub_r m2 n2 (G := 400000000) (by omega) (by omega)
  obtain ⟨e1, e2⟩ := eta_bd
  have y1 := h1.rat
  have y2 := h2.rat
  have c2 : (((100000000 : Nat) : Int) : Rat) = 100000000 := rfl
  rw [c2] at y1 y2
  rw [ht.e1] at m4
  rw [ht.e2] at n4
  have g1 := mul_bd y2.1 y2.2 ht.a0 ht.a1
  have g2 := mul_bd y1.1 y1.2 ht.b0 ht.b1
  rw [Rat.mul_comm (rv d.2) a] at g1
  rw [Rat.mul_comm (rv d.1) b] at g2
  have p1 := m4 100500000 (mid_of g1).1 (mid_of g1).2
  have p2 := n4 100500000 (mid_of g2).1 (mid_of g2).2
  rw [e52_lt] at p1 p2
  have u1 := uv_of rfl e2 g1 g2 p1 p2
  have p3 := s4 201500000 u1.1 u1.2
  rw [e52_lt] at p3
  exact ⟨m1, n1, s1, s2, cr_of rfl e2 g1 g2 p1 p2 p3⟩
theorem twelfth {x : Nat} (h : 84 / 1000 ≤ rv x ∨ rv x ≤ -(84 / 1000)) : oneV ≤ 12 * (fval x).natAbs := by
  have hU := uR_pos
  have eo : ((oneV : Int) : Rat) = uR := rfl
  rcases h with h | h
  · have k := Rat.mul_nonneg (a := 12 * rv x - 1) (b := uR) (by grind) (by grind)
    have q : (((oneV : Int)) : Rat) ≤ ((12 * fval x : Int) : Rat) := by
      rw [Rat.intCast_mul, rv_mul, eo]
      have c4 : ((12 : Int) : Rat) = 12 := rfl
      rw [c4]; grind
    have := Rat.intCast_le_intCast.1 q
    omega
  · have k := Rat.mul_nonneg (a := -(12 * rv x) - 1) (b := uR) (by grind) (by grind)
    have q : (((oneV : Int)) : Rat) ≤ ((-(12 * fval x) : Int) : Rat) := by
      rw [Rat.intCast_neg, Rat.intCast_mul, rv_mul, eo]
      have c4 : ((12 : Int) : Rat) = 12 := rfl
      rw [c4]; grind
    have := Rat.intCast_le_intCast.1 q
    omega
theorem quo_bdS {M e x : Rat} (h : M * e = x) (he : 84 / 1000 ≤ e ∨ e ≤ -(84 / 1000)) (h1 : -202000000 ≤ x) (h2 : x ≤ 202000000) : -2405000000 ≤ M ∧ M ≤ 2405000000 := by
  rcases he with he | he
  · constructor
    · rcases Rat.le_total (a := -2405000000) (b := M) with g | g
      · exact g
      · have := Rat.mul_nonneg (a := -2405000000 - M) (b := e - 84 / 1000) (by grind) (by grind)
        grind
    · rcases Rat.le_total (a := M) (b := 2405000000) with g | g
      · exact g
      · have := Rat.mul_nonneg (a := M - 2405000000) (b := e - 84 / 1000) (by grind) (by grind)
        grind
  · constructor
    · rcases Rat.le_total (a := -2405000000) (b := M) with g | g
      · exact g
      · have := Rat.mul_nonneg (a := -2405000000 - M) (b := -e - 84 / 1000) (by grind) (by grind)
        grind
    · rcases Rat.le_total (a := M) (b := 2405000000) with g | g
      · exact g
      · have := Rat.mul_nonneg (a := M - 2405000000) (b := -e - 84 / 1000) (by grind) (by grind)
        grind

/-- A part of a way: m times the turns' cross is the cross that was divided, but for a trifle. -/
theorem part_of {m M e E c X et D : Rat} (hD : D = 1 / 4503599627370496) (et2 : et ≤ 1 / 1000000000000000000000000000000) (h : M * e = c)
    (q : m - M ≤ 2405000000 * D + et ∧ M - m ≤ 2405000000 * D + et) (hM : -2405000000 ≤ M ∧ M ≤ 2405000000)
    (e1 : e - E ≤ 1 / 1000000000000000 ∧ E - e ≤ 1 / 1000000000000000) (e2 : -(203 / 100) ≤ e ∧ e ≤ 203 / 100)
    (x : c - X ≤ 1 / 10000000 ∧ X - c ≤ 1 / 10000000) :
    (-2406000000 ≤ m ∧ m ≤ 2406000000) ∧ m * E - X ≤ 37 / 10000000 ∧ X - m * E ≤ 37 / 10000000 := by
  subst hD
  have z1 : -(54 / 100000000) ≤ m - M ∧ m - M ≤ 54 / 100000000 := by constructor <;> grind
  have hm : -2406000000 ≤ m ∧ m ≤ 2406000000 := by constructor <;> grind
  have z2 := mul_bd z1.1 z1.2 e2.1 e2.2
  have z3 : -(1 / 1000000000000000) ≤ E - e ∧ E - e ≤ 1 / 1000000000000000 := by constructor <;> grind
  have z4 := mul_bd hm.1 hm.2 z3.1 z3.2
  have id1 : m * E - c = (m - M) * e + m * (E - e) := by grind
  refine ⟨hm, ?_, ?_⟩ <;> grind
/-- Both parts, along one axis. -/
theorem axis_of {E e1 e2 a b w s : Rat} (hE : 85 / 1000 ≤ E ∨ E ≤ -(85 / 1000)) (h1 : -(37 / 10000000) ≤ e1) (h2 : e1 ≤ 37 / 10000000) (h3 : -(37 / 10000000) ≤ e2) (h4 : e2 ≤ 37 / 10000000)
    (a0 : -(1001 / 1000) ≤ a) (a1 : a ≤ 1001 / 1000) (b0 : -(1001 / 1000) ≤ b) (b1 : b ≤ 1001 / 1000)
    (h : s * E = w * E + e1 * a + e2 * b) : -(88 / 1000000) ≤ s - w ∧ s - w ≤ 88 / 1000000 := by
  have g1 := mul_bd h1 h2 a0 a1
  have g2 := mul_bd h3 h4 b0 b1
  have k : (s - w) * E = e1 * a + e2 * b := by grind
  generalize e1 * a = x at *
  generalize e2 * b = y at *
  generalize s - w = t at *
  clear h
  rcases hE with hE | hE
  · constructor
    · rcases Rat.le_total (a := -(88 / 1000000)) (b := t) with g | g
      · exact g
      · have := Rat.mul_nonneg (a := -(88 / 1000000) - t) (b := E - 85 / 1000) (by grind) (by grind)
        grind
    · rcases Rat.le_total (a := t) (b := 88 / 1000000) with g | g
      · exact g
      · have := Rat.mul_nonneg (a := t - 88 / 1000000) (b := E - 85 / 1000) (by grind) (by grind)
        grind
  · constructor
    · rcases Rat.le_total (a := -(88 / 1000000)) (b := t) with g | g
      · exact g
      · have := Rat.mul_nonneg (a := -(88 / 1000000) - t) (b := -E - 85 / 1000) (by grind) (by grind)
        grind
    · rcases Rat.le_total (a := t) (b := 88 / 1000000) with g | g
      · exact g
      · have := Rat.mul_nonneg (a := t - 88 / 1000000) (b := -E - 85 / 1000) (by grind) (by grind)
        grind
end Go.Proofs.Ytonoknbangnleaa
