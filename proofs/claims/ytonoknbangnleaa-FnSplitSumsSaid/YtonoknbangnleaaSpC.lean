/- A way, split along two turns: all that a walk asks, and what the parts lead to. Nothing here speaks of the program. -/
import Derived.Test.YtonoknbangnleaaSpB
namespace Go.Proofs.Ytonoknbangnleaa
open Go.RowKit Ieee
set_option linter.unusedVariables false
set_option linter.unusedSimpArgs false

noncomputable def spM (z : Nat × Nat) (j k : Nat) : Nat := dvW (crsW z (trn k)) (fxE j k)
noncomputable def spN (z : Nat × Nat) (j k : Nat) : Nat := dvW (crsW (trn j) z) (fxE j k)
/-- What is left of the way behind its parts. -/
noncomputable def spX (z : Nat × Nat) (j k : Nat) : Nat := sb (sb z.1 (ml (spM z j k) (trn j).1)) (ml (spN z j k) (trn k).1)
noncomputable def spY (z : Nat × Nat) (j k : Nat) : Nat := sb (sb z.2 (ml (spM z j k) (trn j).2)) (ml (spN z j k) (trn k).2)
structure SplitOk (z : Nat × Nat) (j k : Nat) : Prop where
  e1 : floatBits .mul .f64 (trn j).1 (trn k).2 = some (ml (trn j).1 (trn k).2)
  e2 : floatBits .mul .f64 (trn j).2 (trn k).1 = some (ml (trn j).2 (trn k).1)
  e3 : floatBits .sub .f64 (ml (trn j).1 (trn k).2) (ml (trn j).2 (trn k).1) = some (fxE j k)
  c1 : floatBits .mul .f64 z.1 (trn k).2 = some (ml z.1 (trn k).2)
  c2 : floatBits .mul .f64 z.2 (trn k).1 = some (ml z.2 (trn k).1)
  c3 : floatBits .sub .f64 (ml z.1 (trn k).2) (ml z.2 (trn k).1) = some (crsW z (trn k))
  c4 : floatBits .mul .f64 (trn j).1 z.2 = some (ml (trn j).1 z.2)
  c5 : floatBits .mul .f64 (trn j).2 z.1 = some (ml (trn j).2 z.1)
  c6 : floatBits .sub .f64 (ml (trn j).1 z.2) (ml (trn j).2 z.1) = some (crsW (trn j) z)
  m1 : floatBits .quo .f64 (crsW z (trn k)) (fxE j k) = some (spM z j k)
  n1 : floatBits .quo .f64 (crsW (trn j) z) (fxE j k) = some (spN z j k)
  x1 : floatBits .mul .f64 (spM z j k) (trn j).1 = some (ml (spM z j k) (trn j).1)
  x2 : floatBits .mul .f64 (spN z j k) (trn k).1 = some (ml (spN z j k) (trn k).1)
  x3 : floatBits .sub .f64 z.1 (ml (spM z j k) (trn j).1) = some (sb z.1 (ml (spM z j k) (trn j).1))
  x4 : floatBits .sub .f64 (sb z.1 (ml (spM z j k) (trn j).1)) (ml (spN z j k) (trn k).1) = some (spX z j k)
  y1 : floatBits .mul .f64 (spM z j k) (trn j).2 = some (ml (spM z j k) (trn j).2)
  y2 : floatBits .mul .f64 (spN z j k) (trn k).2 = some (ml (spN z j k) (trn k).2)
  y3 : floatBits .sub .f64 z.2 (ml (spM z j k) (trn j).2) = some (sb z.2 (ml (spM z j k) (trn j).2))
  y4 : floatBits .sub .f64 (sb z.2 (ml (spM z j k) (trn j).2)) (ml (spN z j k) (trn k).2) = some (spY z j k)
  ml1 : isNum (spM z j k) ∧ spM z j k < 18446744073709551616
  nl1 : isNum (spN z j k) ∧ spN z j k < 18446744073709551616
  mb : -2406000000 ≤ rv (spM z j k) ∧ rv (spM z j k) ≤ 2406000000
  nb : -2406000000 ≤ rv (spN z j k) ∧ rv (spN z j k) ≤ 2406000000
  xl : isNum (spX z j k) ∧ spX z j k < 18446744073709551616
  yl : isNum (spY z j k) ∧ spY z j k < 18446744073709551616
  xb : -(95 / 1000000) ≤ rv (spX z j k) ∧ rv (spX z j k) ≤ 95 / 1000000
  yb : -(95 / 1000000) ≤ rv (spY z j k) ∧ rv (spY z j k) ≤ 95 / 1000000

theorem kS_of {x : Rat} (h : -(2406000000 * (1001 / 1000)) ≤ x ∧ x ≤ 2406000000 * (1001 / 1000)) : -2410000000 ≤ x ∧ x ≤ 2410000000 := by
  constructor <;> grind
theorem sS_of {z p P et D : Rat} (hD : D = 1 / 4503599627370496) (et2 : et ≤ 1 / 1000000000000000000000000000000) (k : -2410000000 ≤ p ∧ p ≤ 2410000000) (z1 : -100000000 ≤ z ∧ z ≤ 100000000)
    (h : P - p ≤ 2410000000 * D + et ∧ p - P ≤ 2410000000 * D + et) : -2511000000 ≤ z - P ∧ z - P ≤ 2511000000 := by
  subst hD
  constructor <;> grind
theorem tS_of {z p P q Q S et D : Rat} (hD : D = 1 / 4503599627370496) (et2 : et ≤ 1 / 1000000000000000000000000000000) (k : -2410000000 ≤ p ∧ p ≤ 2410000000) (k2 : -2410000000 ≤ q ∧ q ≤ 2410000000) (z1 : -100000000 ≤ z ∧ z ≤ 100000000)
    (h : P - p ≤ 2410000000 * D + et ∧ p - P ≤ 2410000000 * D + et) (h2 : Q - q ≤ 2410000000 * D + et ∧ q - Q ≤ 2410000000 * D + et)
    (h3 : S - (z - P) ≤ 2511000000 * D + et ∧ (z - P) - S ≤ 2511000000 * D + et) : -5000000000 ≤ S - Q ∧ S - Q ≤ 5000000000 := by
  subst hD
  constructor <;> grind
theorem xS_of {z p P q Q S x et D : Rat} (hD : D = 1 / 4503599627370496) (et2 : et ≤ 1 / 1000000000000000000000000000000)
    (h : P - p ≤ 2410000000 * D + et ∧ p - P ≤ 2410000000 * D + et) (h2 : Q - q ≤ 2410000000 * D + et ∧ q - Q ≤ 2410000000 * D + et)
    (h3 : S - (z - P) ≤ 2511000000 * D + et ∧ (z - P) - S ≤ 2511000000 * D + et)
    (h4 : x - (S - Q) ≤ 5000000000 * D + et ∧ (S - Q) - x ≤ 5000000000 * D + et)
    (ha : -(88 / 1000000) ≤ p + q - z ∧ p + q - z ≤ 88 / 1000000) : -(95 / 1000000) ≤ x ∧ x ≤ 95 / 1000000 := by
  subst hD
  constructor <;> grind
/-- What is left along one axis: words. -/
theorem rest_ok {m n z a b G : Nat} {u w : Rat} (hm : Bd m 4800000000) (hn : Bd n 4800000000) (hz : Bd z 100000000) (ha : Bd a 2) (hb : Bd b 2) (ea : rv a = u) (eb : rv b = w)
    (u0 : -(1001 / 1000) ≤ u) (u1 : u ≤ 1001 / 1000) (w0 : -(1001 / 1000) ≤ w) (w1 : w ≤ 1001 / 1000)
    (mb : -2406000000 ≤ rv m ∧ rv m ≤ 2406000000) (nb : -2406000000 ≤ rv n ∧ rv n ≤ 2406000000)
    (hs : -(88 / 1000000) ≤ rv m * u + rv n * w - rv z ∧ rv m * u + rv n * w - rv z ≤ 88 / 1000000) :
    floatBits .mul .f64 m a = some (ml m a) ∧ floatBits .mul .f64 n b = some (ml n b) ∧ floatBits .sub .f64 z (ml m a) = some (sb z (ml m a)) ∧ floatBits .sub .f64 (sb z (ml m a)) (ml n b) = some (sb (sb z (ml m a)) (ml n b)) ∧
    (isNum (sb (sb z (ml m a)) (ml n b)) ∧ sb (sb z (ml m a)) (ml n b) < 18446744073709551616) ∧ -(95 / 1000000) ≤ rv (sb (sb z (ml m a)) (ml n b)) ∧ rv (sb (sb z (ml m a)) (ml n b)) ≤ 95 / 1000000 := by
  obtain ⟨et1, et2⟩ := eta_bd
  obtain ⟨p1, p2, p3, p4⟩ := mul_r hm ha (G := 9600000000) (by omega) (by omega)
  obtain ⟨q1, q2, q3, q4⟩ := mul_r hn hb (G := 9600000000) (by omega) (by omega)
  obtain ⟨s1, s2, s3, s4⟩ := sub_r hz p2 (G := 9700000000) (by omega) (by omega)
  obtain ⟨t1, t2, t3, t4⟩ := sub_r s2 q2 (G := 19300000000) (by omega) (by omega)
  have z1 := hz.rat
  have c8' : (((100000000 : Nat) : Int) : Rat) = 100000000 := rfl
  rw [c8'] at z1
  rw [ea] at p4
  rw [eb] at q4
  have k1 := kS_of (mul_bd mb.1 mb.2 u0 u1)
  have k2 := kS_of (mul_bd nb.1 nb.2 w0 w1)
  have P := p4 2410000000 k1.1 k1.2
  have Q := q4 2410000000 k2.1 k2.2
  rw [e52_lt] at P Q
  have r1 := sS_of rfl et2 k1 z1 P
  have S := s4 2511000000 r1.1 r1.2
  rw [e52_lt] at S
  have r2 := tS_of rfl et2 k1 k2 z1 P Q S
  have T := t4 5000000000 r2.1 r2.2
  rw [e52_lt] at T
  exact ⟨p1, q1, s1, t1, ⟨t2.1, t3⟩, xS_of rfl et2 P Q S T hs⟩
theorem split_ok {z : Nat × Nat} {j k : Nat} {u1 u2 w1 w2 : Rat} (hz : okP z.1 ∧ okP z.2) (hj : j < 360) (hk : k < 360) (hd : (j < k ∧ inDS (k - j) = true) ∨ (k < j ∧ inDS (j - k) = true)) (hu : TnR j u1 u2) (hw : TnR k w1 w2) : SplitOk z j k := by
  obtain ⟨et1, et2⟩ := eta_bd
  have hE := cross_anyS hj hk hd hu hw
  obtain ⟨e1, e2, e3, e4, e5, e6, e7, e8⟩ := crs_turn hj hk hu hw
  obtain ⟨c1, c2, c3, c4, c5, c6, c7, c8⟩ := crs_mid hz.1.bd hz.2.bd hk hw
  obtain ⟨b1, b2, b3, b4, b5, b6, b7, b8⟩ := crs_rev hz.1.bd hz.2.bd hj hu
  have hq : 84 / 1000 ≤ rv (fxE j k) ∨ rv (fxE j k) ≤ -(84 / 1000) := by
    have ee : rv (fxE j k) = rv (crsW (trn j) (trn k)) := rfl
    rw [ee]
    rcases hE with h | h
    · left; grind
    · right; grind
  have hq12 := twelfth hq
  obtain ⟨m1, m2, m3, m4⟩ := div_rS c4 (y := fxE j k) e4 hq12 (G := 4800000000) (by omega) (by omega)
  obtain ⟨n1, n2, n3, n4⟩ := div_rS b4 (y := fxE j k) e4 hq12 (G := 4800000000) (by omega) (by omega)
  have hne : rv (fxE j k) ≠ 0 := by intro e; rw [e] at hq; rcases hq with h | h <;> grind
  obtain ⟨M0, hM0⟩ : ∃ M0, M0 * rv (fxE j k) = rv (crsW z (trn k)) := ⟨rv (crsW z (trn k)) / rv (fxE j k), by grind⟩
  obtain ⟨N0, hN0⟩ : ∃ N0, N0 * rv (fxE j k) = rv (crsW (trn j) z) := ⟨rv (crsW (trn j) z) / rv (fxE j k), by grind⟩
  have MB := quo_bdS hM0 hq c7 c8
  have NB := quo_bdS hN0 hq b7 b8
  have M4 := m4 M0 hM0 2405000000 MB.1 MB.2
  have N4 := n4 N0 hN0 2405000000 NB.1 NB.2
  rw [e52_lt] at M4 N4
  obtain ⟨mb, f1, f2⟩ := part_of rfl et2 hM0 M4 MB ⟨e5, e6⟩ ⟨e7, e8⟩ ⟨c5, c6⟩
  obtain ⟨nb, g1, g2⟩ := part_of rfl et2 hN0 N4 NB ⟨e5, e6⟩ ⟨e7, e8⟩ ⟨b5, b6⟩
  obtain ⟨t1, t2⟩ := bd_turn hj
  obtain ⟨v1, v2⟩ := bd_turn hk
  have eM : rv (dvW (crsW z (trn k)) (fxE j k)) = rv (spM z j k) := rfl
  have eN : rv (dvW (crsW (trn j) z) (fxE j k)) = rv (spN z j k) := rfl
  rw [eM] at mb f1 f2
  rw [eN] at nb g1 g2
  have ax1 : -(88 / 1000000) ≤ rv (spM z j k) * u1 + rv (spN z j k) * w1 - rv z.1 ∧ rv (spM z j k) * u1 + rv (spN z j k) * w1 - rv z.1 ≤ 88 / 1000000 :=
    axis_of hE (e1 := rv (spM z j k) * (u1 * w2 - u2 * w1) - (rv z.1 * w2 - rv z.2 * w1)) (e2 := rv (spN z j k) * (u1 * w2 - u2 * w1) - (u1 * rv z.2 - u2 * rv z.1)) (by grind) f1 (by grind) g1 hu.a0 hu.a1 hw.a0 hw.a1 (by grind)
  have ax2 : -(88 / 1000000) ≤ rv (spM z j k) * u2 + rv (spN z j k) * w2 - rv z.2 ∧ rv (spM z j k) * u2 + rv (spN z j k) * w2 - rv z.2 ≤ 88 / 1000000 :=
    axis_of hE (e1 := rv (spM z j k) * (u1 * w2 - u2 * w1) - (rv z.1 * w2 - rv z.2 * w1)) (e2 := rv (spN z j k) * (u1 * w2 - u2 * w1) - (u1 * rv z.2 - u2 * rv z.1)) (by grind) f1 (by grind) g1 hu.b0 hu.b1 hw.b0 hw.b1 (by grind)
  obtain ⟨x1, x2, x3, x4, x5, x6⟩ := rest_ok (G := 0) m2 n2 hz.1.bd t1 v1 hu.e1 hw.e1 hu.a0 hu.a1 hw.a0 hw.a1 mb nb ax1
  obtain ⟨y1, y2, y3, y4, y5, y6⟩ := rest_ok (G := 0) m2 n2 hz.2.bd t2 v2 hu.e2 hw.e2 hu.b0 hu.b1 hw.b0 hw.b1 mb nb ax2
  exact ⟨e1, e2, e3, c1, c2, c3, b1, b2, b3, m1, n1, x1, x2, x3, x4, y1, y2, y3, y4, ⟨m2.1, m3⟩, ⟨n2.1, n3⟩, mb, nb, x5, y5, x6, y6⟩
end Go.Proofs.Ytonoknbangnleaa
