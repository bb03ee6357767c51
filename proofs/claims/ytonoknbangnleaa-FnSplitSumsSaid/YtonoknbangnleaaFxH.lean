/- The words of a fix. Nothing here speaks of the program. -/
import Derived.Test.YtonoknbangnleaaFxG
namespace Go.Proofs.Ytonoknbangnleaa
open Go.RowKit Ieee
set_option linter.unusedVariables false
set_option linter.unusedSimpArgs false

/-- The cross of a difference of positions and a turn. -/
theorem crs_big {d : Nat × Nat} {k : Nat} {a b : Rat} (h1 : Bd d.1 200000000) (h2 : Bd d.2 200000000) (hk : k < 360) (ht : TnR k a b) :
    floatBits .mul .f64 d.1 (trn k).2 = some (ml d.1 (trn k).2) ∧ floatBits .mul .f64 d.2 (trn k).1 = some (ml d.2 (trn k).1) ∧ floatBits .sub .f64 (ml d.1 (trn k).2) (ml d.2 (trn k).1) = some (crsW d (trn k)) ∧ Bd (crsW d (trn k)) 800000000 ∧
    rv (crsW d (trn k)) - (rv d.1 * b - rv d.2 * a) ≤ 1 / 5000000 ∧ (rv d.1 * b - rv d.2 * a) - rv (crsW d (trn k)) ≤ 1 / 5000000 ∧ -404000000 ≤ rv (crsW d (trn k)) ∧ rv (crsW d (trn k)) ≤ 404000000 := by
  obtain ⟨t1, t2⟩ := bd_turn hk
  obtain ⟨m1, m2, m3, m4⟩ := mul_r h1 t2 (G := 400000000) (by omega) (by omega)
  obtain ⟨n1, n2, n3, n4⟩ := mul_r h2 t1 (G := 400000000) (by omega) (by omega)
  obtain ⟨s1, s2, s3, s4⟩ := sub_r m2 n2 (G := 800000000) (by omega) (by omega)
  obtain ⟨e1, e2⟩ := eta_bd
  have y1 := h1.rat
  have y2 := h2.rat
  have c2 : (((200000000 : Nat) : Int) : Rat) = 200000000 := rfl
  rw [c2] at y1 y2
  rw [ht.e2] at m4
  rw [ht.e1] at n4
  have g1 := mul_bd y1.1 y1.2 ht.b0 ht.b1
  have g2 := mul_bd y2.1 y2.2 ht.a0 ht.a1
  have p1 := m4 201000000 (by grind) (by grind)
  have p2 := n4 201000000 (by grind) (by grind)
  rw [e52_lt] at p1 p2
  have p3 := s4 403000000 (by grind) (by grind)
  rw [e52_lt] at p3
  have ed : rv (crsW d (trn k)) = rv (sb (ml d.1 (trn k).2) (ml d.2 (trn k).1)) := rfl
  refine ⟨m1, n1, s1, s2, ?_⟩
  rw [ed]
  clear m4 n4 s4 ed
  generalize rv (sb (ml d.1 (trn k).2) (ml d.2 (trn k).1)) = r at *
  generalize rv (ml d.1 (trn k).2) = u at *
  generalize rv (ml d.2 (trn k).1) = v at *
  generalize rv d.1 * b = p at *
  generalize rv d.2 * a = q at *
  generalize eta = et at *
  refine ⟨?_, ?_, ?_, ?_⟩ <;> grind
/-- The cross of two turns. -/
theorem crs_turn {j k : Nat} {a b c d : Rat} (hj : j < 360) (hk : k < 360) (h1 : TnR j a b) (h2 : TnR k c d) :
    floatBits .mul .f64 (trn j).1 (trn k).2 = some (ml (trn j).1 (trn k).2) ∧ floatBits .mul .f64 (trn j).2 (trn k).1 = some (ml (trn j).2 (trn k).1) ∧ floatBits .sub .f64 (ml (trn j).1 (trn k).2) (ml (trn j).2 (trn k).1) = some (crsW (trn j) (trn k)) ∧ isNum (crsW (trn j) (trn k)) ∧
    rv (crsW (trn j) (trn k)) - (a * d - b * c) ≤ 1 / 1000000000000000 ∧ (a * d - b * c) - rv (crsW (trn j) (trn k)) ≤ 1 / 1000000000000000 ∧ -(203 / 100) ≤ rv (crsW (trn j) (trn k)) ∧ rv (crsW (trn j) (trn k)) ≤ 203 / 100 := by
  obtain ⟨t1, t2⟩ := bd_turn hj
  obtain ⟨u1, u2⟩ := bd_turn hk
  obtain ⟨m1, m2, m3, m4⟩ := mul_r t1 u2 (G := 4) (by omega) (by omega)
  obtain ⟨n1, n2, n3, n4⟩ := mul_r t2 u1 (G := 4) (by omega) (by omega)
  obtain ⟨s1, s2, s3, s4⟩ := sub_r m2 n2 (G := 8) (by omega) (by omega)
  obtain ⟨e1, e2⟩ := eta_bd
  rw [h1.e1, h2.e2] at m4
  rw [h1.e2, h2.e1] at n4
  have g1 := mul_bd h1.a0 h1.a1 h2.b0 h2.b1
  have g2 := mul_bd h1.b0 h1.b1 h2.a0 h2.a1
  have p1 := m4 (101 / 100) (by grind) (by grind)
  have p2 := n4 (101 / 100) (by grind) (by grind)
  rw [e52_lt] at p1 p2
  have p3 := s4 (203 / 100) (by grind) (by grind)
  rw [e52_lt] at p3
  have ed : rv (crsW (trn j) (trn k)) = rv (sb (ml (trn j).1 (trn k).2) (ml (trn j).2 (trn k).1)) := rfl
  refine ⟨m1, n1, s1, s2.1, ?_⟩
  rw [ed]
  clear m4 n4 s4 ed
  generalize rv (sb (ml (trn j).1 (trn k).2) (ml (trn j).2 (trn k).1)) = r at *
  generalize rv (ml (trn j).1 (trn k).2) = u at *
  generalize rv (ml (trn j).2 (trn k).1) = v at *
  generalize a * d = p at *
  generalize b * c = q at *
  generalize eta = et at *
  refine ⟨?_, ?_, ?_, ?_⟩ <;> grind
theorem quarter {x : Nat} (h : 1 / 4 ≤ rv x ∨ rv x ≤ -(1 / 4)) : oneV ≤ 4 * (fval x).natAbs := by
  have hU := uR_pos
  have eo : ((oneV : Int) : Rat) = uR := rfl
  rcases h with h | h
  · have k := Rat.mul_nonneg (a := 4 * rv x - 1) (b := uR) (by grind) (by grind)
    have q : (((oneV : Int)) : Rat) ≤ ((4 * fval x : Int) : Rat) := by
      rw [Rat.intCast_mul, rv_mul, eo]
      have c4 : ((4 : Int) : Rat) = 4 := rfl
      rw [c4]; grind
    have := Rat.intCast_le_intCast.1 q
    omega
  · have k := Rat.mul_nonneg (a := -(4 * rv x) - 1) (b := uR) (by grind) (by grind)
    have q : (((oneV : Int)) : Rat) ≤ ((-(4 * fval x) : Int) : Rat) := by
      rw [Rat.intCast_neg, Rat.intCast_mul, rv_mul, eo]
      have c4 : ((4 : Int) : Rat) = 4 := rfl
      rw [c4]; grind
    have := Rat.intCast_le_intCast.1 q
    omega
/-- A quotient, in numbers. -/
theorem quo_bd {M e x : Rat} (h : M * e = x) (he : 28 / 100 ≤ e ∨ e ≤ -(28 / 100)) (h1 : -404000000 ≤ x) (h2 : x ≤ 404000000) : -1500000000 ≤ M ∧ M ≤ 1500000000 := by
  rcases he with he | he
  · constructor
    · rcases Rat.le_total (a := -1500000000) (b := M) with g | g
      · exact g
      · have := Rat.mul_nonneg (a := -1500000000 - M) (b := e) (by grind) (by grind)
        grind
    · rcases Rat.le_total (a := M) (b := 1500000000) with g | g
      · exact g
      · have := Rat.mul_nonneg (a := M - 1500000000) (b := e) (by grind) (by grind)
        grind
  · constructor
    · rcases Rat.le_total (a := -1500000000) (b := M) with g | g
      · exact g
      · have := Rat.mul_nonneg (a := -1500000000 - M) (b := -e) (by grind) (by grind)
        grind
    · rcases Rat.le_total (a := M) (b := 1500000000) with g | g
      · exact g
      · have := Rat.mul_nonneg (a := M - 1500000000) (b := -e) (by grind) (by grind)
        grind

theorem kk_of {x : Rat} (h : -(1500000001 * (1001 / 1000)) ≤ x ∧ x ≤ 1500000001 * (1001 / 1000)) : -1600000000 ≤ x ∧ x ≤ 1600000000 := by
  constructor <;> grind
theorem qq_of {x A mu et D : Rat} (hD : D = 1 / 4503599627370496) (k : -1600000000 ≤ x ∧ x ≤ 1600000000) (G1 : mu - x ≤ 1600000000 * D + et) (G2 : x - mu ≤ 1600000000 * D + et) (a : -100000000 ≤ A ∧ A ≤ 100000000) (et2 : et ≤ 1 / 1000000000000000000000000000000) : -1800000000 ≤ A - mu ∧ A - mu ≤ 1800000000 := by
  subst hD
  constructor <;> grind
theorem rr_of {x A mu P et D : Rat} (hD : D = 1 / 4503599627370496) (G1 : mu - x ≤ 1600000000 * D + et) (G2 : x - mu ≤ 1600000000 * D + et) (Q1 : P - (A - mu) ≤ 1800000000 * D + et) (Q2 : (A - mu) - P ≤ 1800000000 * D + et) (et2 : et ≤ 1 / 1000000000000000000000000000000) : (A - P) - x ≤ 1 / 1250000 ∧ x - (A - P) ≤ 1 / 1250000 := by
  subst hD
  constructor <;> grind
theorem dd_of {x d et D : Rat} (hD : D = 1 / 4503599627370496) (G1 : d - x ≤ 200000000 * D + et) (G2 : x - d ≤ 200000000 * D + et) (et2 : et ≤ 1 / 1000000000000000000000000000000) : d - x ≤ 1 / 20000000 ∧ x - d ≤ 1 / 20000000 := by
  subst hD
  constructor <;> grind

noncomputable def fxE (j k : Nat) : Nat := crsW (trn j) (trn k)
noncomputable def fxM (a b : Nat × Nat) (j k : Nat) : Nat := dvW (crsW (subW a b) (trn k)) (fxE j k)
noncomputable def fxN (a b : Nat × Nat) (j k : Nat) : Nat := dvW (crsW (subW a b) (trn j)) (fxE j k)
noncomputable def fxP (a b : Nat × Nat) (j k : Nat) : Nat × Nat := (sb a.1 (ml (fxM a b j k) (trn j).1), sb a.2 (ml (fxM a b j k) (trn j).2))
/-- All that a walk asks of a fix, and what it is in numbers. -/
structure FixOk (a b : Nat × Nat) (j k : Nat) : Prop where
  d1 : floatBits .sub .f64 a.1 b.1 = some (subW a b).1
  d2 : floatBits .sub .f64 a.2 b.2 = some (subW a b).2
  e1 : floatBits .mul .f64 (trn j).1 (trn k).2 = some (ml (trn j).1 (trn k).2)
  e2 : floatBits .mul .f64 (trn j).2 (trn k).1 = some (ml (trn j).2 (trn k).1)
  e3 : floatBits .sub .f64 (ml (trn j).1 (trn k).2) (ml (trn j).2 (trn k).1) = some (fxE j k)
  c1 : floatBits .mul .f64 (subW a b).1 (trn k).2 = some (ml (subW a b).1 (trn k).2)
  c2 : floatBits .mul .f64 (subW a b).2 (trn k).1 = some (ml (subW a b).2 (trn k).1)
  c3 : floatBits .sub .f64 (ml (subW a b).1 (trn k).2) (ml (subW a b).2 (trn k).1) = some (crsW (subW a b) (trn k))
  c4 : floatBits .mul .f64 (subW a b).1 (trn j).2 = some (ml (subW a b).1 (trn j).2)
  c5 : floatBits .mul .f64 (subW a b).2 (trn j).1 = some (ml (subW a b).2 (trn j).1)
  c6 : floatBits .sub .f64 (ml (subW a b).1 (trn j).2) (ml (subW a b).2 (trn j).1) = some (crsW (subW a b) (trn j))
  m1 : floatBits .quo .f64 (crsW (subW a b) (trn k)) (fxE j k) = some (fxM a b j k)
  n1 : floatBits .quo .f64 (crsW (subW a b) (trn j)) (fxE j k) = some (fxN a b j k)
  g1 : floatBits .mul .f64 (fxM a b j k) (trn j).1 = some (ml (fxM a b j k) (trn j).1)
  g2 : floatBits .mul .f64 (fxM a b j k) (trn j).2 = some (ml (fxM a b j k) (trn j).2)
  p1 : floatBits .sub .f64 a.1 (ml (fxM a b j k) (trn j).1) = some (fxP a b j k).1
  p2 : floatBits .sub .f64 a.2 (ml (fxM a b j k) (trn j).2) = some (fxP a b j k).2
  pl : W64 (fxP a b j k)
  mn : isNum (fxM a b j k)
  nn : isNum (fxN a b j k)
theorem fix_ok {a b : Nat × Nat} {j k : Nat} {u1 u2 w1 w2 : Rat} (ha : okP a.1 ∧ okP a.2) (hb : okP b.1 ∧ okP b.2) (hj : j < 360) (hk : k < 360) (hd : (j < k ∧ inD (k - j) = true) ∨ (k < j ∧ inD (j - k) = true)) (hu : TnR j u1 u2) (hw : TnR k w1 w2) :
    FixOk a b j k ∧ FixR (rv a.1) (rv a.2) (rv b.1) (rv b.2) u1 u2 w1 w2 (rv (subW a b).1) (rv (subW a b).2) (rv (fxM a b j k)) (rv (fxP a b j k).1) (rv (fxP a b j k).2) (0 ≤ rv (fxN a b j k)) := by
  obtain ⟨et1, et2⟩ := eta_bd
  have hE := cross_any hj hk hd hu hw
  obtain ⟨e1, e2, e3, e4, e5, e6, e7, e8⟩ := crs_turn hj hk hu hw
  obtain ⟨d1, d2, d3, d4⟩ := sub_r ha.1.bd hb.1.bd (G := 200000000) (by omega) (by omega)
  obtain ⟨f1, f2, f3, f4⟩ := sub_r ha.2.bd hb.2.bd (G := 200000000) (by omega) (by omega)
  obtain ⟨c1, c2, c3, c4, c5, c6, c7, c8⟩ := crs_big (d := subW a b) d2 f2 hk hw
  obtain ⟨b1, b2, b3, b4, b5, b6, b7, b8⟩ := crs_big (d := subW a b) d2 f2 hj hu
  have hquart : 28 / 100 ≤ rv (fxE j k) ∨ rv (fxE j k) ≤ -(28 / 100) := by
    have ee : rv (fxE j k) = rv (crsW (trn j) (trn k)) := rfl
    rw [ee]
    rcases hE with h | h
    · left; grind
    · right; grind
  have hq4 := quarter (x := fxE j k) (by rcases hquart with h | h; left; grind; right; grind)
  obtain ⟨m1, m2, m3, m4⟩ := div_r c4 (y := fxE j k) e4 hq4 (G := 3200000000) (by omega) (by omega)
  obtain ⟨n1, n2, n3, n4⟩ := div_r b4 (y := fxE j k) e4 hq4 (G := 3200000000) (by omega) (by omega)
  obtain ⟨t1, t2⟩ := bd_turn hj
  obtain ⟨g1, g2, g3, g4⟩ := mul_r m2 t1 (G := 6400000000) (by omega) (by omega)
  obtain ⟨h1, h2, h3, h4⟩ := mul_r m2 t2 (G := 6400000000) (by omega) (by omega)
  obtain ⟨p1, p2, p3, p4⟩ := sub_r ha.1.bd g2 (G := 6500000000) (by omega) (by omega)
  obtain ⟨q1, q2, q3, q4⟩ := sub_r ha.2.bd h2 (G := 6500000000) (by omega) (by omega)
  refine ⟨⟨d1, f1, e1, e2, e3, c1, c2, c3, b1, b2, b3, m1, n1, g1, h1, p1, q1, ⟨p3, q3⟩, m2.1, n2.1⟩, ?_⟩
  have A1 := ha.1.bd.rat
  have A2 := ha.2.bd.rat
  have B1 := hb.1.bd.rat
  have B2 := hb.2.bd.rat
  have c8' : (((100000000 : Nat) : Int) : Rat) = 100000000 := rfl
  rw [c8'] at A1 A2 B1 B2
  have D1 := d4 200000000 (by grind) (by grind)
  have D2 := f4 200000000 (by grind) (by grind)
  rw [hu.e1] at g4
  rw [hu.e2] at h4
  have hne : rv (fxE j k) ≠ 0 := by intro e; rw [e] at hquart; rcases hquart with h | h <;> grind
  obtain ⟨M0, hM0⟩ : ∃ M0, M0 * rv (fxE j k) = rv (crsW (subW a b) (trn k)) := ⟨rv (crsW (subW a b) (trn k)) / rv (fxE j k), by grind⟩
  obtain ⟨N0, hN0⟩ : ∃ N0, N0 * rv (fxE j k) = rv (crsW (subW a b) (trn j)) := ⟨rv (crsW (subW a b) (trn j)) / rv (fxE j k), by grind⟩
  obtain ⟨MB1, MB2⟩ := quo_bd hM0 hquart c7 c8
  obtain ⟨NB1, NB2⟩ := quo_bd hN0 hquart b7 b8
  have M4 := m4 M0 hM0 1500000000 MB1 MB2
  have N4 := n4 N0 hN0 1500000000 NB1 NB2
  have eM : rv (dvW (crsW (subW a b) (trn k)) (fxE j k)) = rv (fxM a b j k) := rfl
  have eN : rv (dvW (crsW (subW a b) (trn j)) (fxE j k)) = rv (fxN a b j k) := rfl
  have eD1 : rv (sb a.1 b.1) = rv (subW a b).1 := rfl
  have eD2 : rv (sb a.2 b.2) = rv (subW a b).2 := rfl
  have eG1 : rv (ml (dvW (crsW (subW a b) (trn k)) (fxE j k)) (trn j).1) = rv (ml (fxM a b j k) (trn j).1) := rfl
  have eG2 : rv (ml (dvW (crsW (subW a b) (trn k)) (fxE j k)) (trn j).2) = rv (ml (fxM a b j k) (trn j).2) := rfl
  have eP1 : rv (sb a.1 (ml (dvW (crsW (subW a b) (trn k)) (fxE j k)) (trn j).1)) = rv (fxP a b j k).1 := rfl
  have eP2 : rv (sb a.2 (ml (dvW (crsW (subW a b) (trn k)) (fxE j k)) (trn j).2)) = rv (fxP a b j k).2 := rfl
  have eE : rv (crsW (trn j) (trn k)) = rv (fxE j k) := rfl
  rw [eM] at M4
  rw [eN] at N4
  rw [eD1] at D1
  rw [eD2] at D2
  rw [eG1, eM] at g4
  rw [eG2, eM] at h4
  rw [eG1, eP1] at p4
  rw [eG2, eP2] at q4
  rw [eE] at e5 e6 e7 e8
  rw [e52_lt] at D1 D2 M4 N4
  have ua := hu.a0; have ua' := hu.a1; have ub := hu.b0; have ub' := hu.b1
  have wa := hw.a0; have wa' := hw.a1; have wb := hw.b0; have wb' := hw.b1
  clear m4 n4 d4 f4 eM eN eD1 eD2 eG1 eG2 eP1 eP2 eE d1 d2 d3 f1 f2 f3 c1 c2 c3 c4 b1 b2 b3 b4 m1 m2 m3 n1 n2 n3 t1 t2 g1 g2 g3 h1 h2 h3 p1 p2 p3 q1 q2 q3 hq4 ha hb hd hj hk hu hw e1 e2 e3 e4 c8'
  generalize rv (crsW (subW a b) (trn k)) = cdw at *
  generalize rv (crsW (subW a b) (trn j)) = cdu at *
  generalize rv (ml (fxM a b j k) (trn j).1) = mu1 at *
  generalize rv (ml (fxM a b j k) (trn j).2) = mu2 at *
  generalize rv (fxE j k) = e at *
  generalize rv (fxM a b j k) = m at *
  generalize rv (fxN a b j k) = n at *
  generalize rv (fxP a b j k).1 = P1 at *
  generalize rv (fxP a b j k).2 = P2 at *
  generalize rv (subW a b).1 = D1' at *
  generalize rv (subW a b).2 = D2' at *
  generalize rv a.1 = A1' at *
  generalize rv a.2 = A2' at *
  generalize rv b.1 = B1' at *
  generalize rv b.2 = B2' at *
  have mb : -1500000001 ≤ m ∧ m ≤ 1500000001 := by grind
  have k1 := mul_bd mb.1 mb.2 ua ua'
  have k2 := mul_bd mb.1 mb.2 ub ub'
  have kk1 := kk_of k1
  have kk2 := kk_of k2
  have G1 := g4 1600000000 kk1.1 kk1.2
  have G2 := h4 1600000000 kk2.1 kk2.2
  rw [e52_lt] at G1 G2
  have qq1 := qq_of rfl kk1 G1.1 G1.2 A1 et2
  have qq2 := qq_of rfl kk2 G2.1 G2.2 A2 et2
  have Q1 := p4 1800000000 qq1.1 qq1.2
  have Q2 := q4 1800000000 qq2.1 qq2.2
  rw [e52_lt] at Q1 Q2
  have r1 := rr_of rfl G1.1 G1.2 Q1.1 Q1.2 et2
  have r2 := rr_of rfl G2.1 G2.2 Q2.1 Q2.2 et2
  have s1 := dd_of rfl D1.1 D1.2 et2
  have s2 := dd_of rfl D2.1 D2.2 et2
  clear G1 G2 qq1 qq2 Q1 Q2 kk1 kk2 k1 k2 A1 A2 B1 B2
  clear g4 h4 p4 q4
  -- the quotient, less what it should be
  have z1 : -(7 / 20000000) ≤ m - M0 ∧ m - M0 ≤ 7 / 20000000 := by grind
  have z2 := mul_bd z1.1 z1.2 e7 e8
  obtain ⟨E, hEE⟩ : ∃ E, E = u1 * w2 - u2 * w1 := ⟨_, rfl⟩
  rw [← hEE] at e5 e6 hE
  have z3 : -(1 / 1000000000000000) ≤ E - e ∧ E - e ≤ 1 / 1000000000000000 := by grind
  have z4 := mul_bd mb.1 mb.2 z3.1 z3.2
  have id1 : m * E - cdw = (m - M0) * e + m * (E - e) := by grind
  refine ⟨s1.1, s1.2, s2.1, s2.2, r1.1, r1.2, r2.1, r2.2, ?_, ?_, fun h0 hp => ?_, fun h0 hp => ?_⟩
  · rw [← hEE]; grind
  · rw [← hEE]; grind
  · rw [← hEE] at hp
    have y1 : 0 ≤ N0 + 7 / 20000000 := by grind
    have y2 := Rat.mul_nonneg (a := N0 + 7 / 20000000) (b := e) y1 (by grind)
    grind
  · rw [← hEE] at hp
    have y1 : 0 ≤ N0 + 7 / 20000000 := by grind
    have y2 := Rat.mul_nonneg (a := N0 + 7 / 20000000) (b := -e) y1 (by grind)
    grind
end Go.Proofs.Ytonoknbangnleaa
