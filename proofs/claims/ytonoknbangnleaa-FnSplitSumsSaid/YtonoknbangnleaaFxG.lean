/- A fix, in numbers: what both marks bear. Nothing here speaks of the program. -/
import Derived.Test.YtonoknbangnleaaFxE
import Derived.Test.YtonoknbangnleaaGvA
namespace Go.Proofs.Ytonoknbangnleaa
open Go.RowKit Ieee
set_option linter.unusedVariables false
set_option linter.unusedSimpArgs false

theorem rv_one : rv 4607182418800017408 = 1 := by
  have hU := uR_pos
  unfold rv
  rw [one_val]
  have e : ((oneV : Int) : Rat) = uR := rfl
  rw [e]; grind
/-- A length of one at least: the vector is valid, and no trifle. -/
theorem len_one {y : Nat × Nat} (h : 1 ≤ rv (lenW y)) : okP y.1 ∧ okP y.2 ∧ 98 / 100 ≤ rv y.1 * rv y.1 + rv y.2 * rv y.2 := by
  have hz : rv 0 = 0 := by unfold rv; rw [nought_val]; grind
  rcases lenW_is y with ⟨_, e⟩ | ⟨h1, h2, ⟨_, e⟩ | ⟨hin, g, hg, e⟩⟩
  · rw [e, hz] at h; grind
  · rw [e, hz] at h; grind
  · refine ⟨h1, h2, ?_⟩
    rw [e] at h
    obtain ⟨n1, n2, _, n4⟩ := root_acc hin hg
    rcases Rat.le_total (a := 98 / 100) (b := rv y.1 * rv y.1 + rv y.2 * rv y.2) with k | k
    · exact k
    · exfalso
      have s1 := sq_nn (rv y.1)
      have s2 := sq_nn (rv y.2)
      obtain ⟨a0, a1⟩ := sq_le (a := rv y.1) (c := 1) (by grind) (by grind)
      obtain ⟨b0, b1⟩ := sq_le (a := rv y.2) (c := 1) (by grind) (by grind)
      have c1 : (((1 : Nat) : Int) : Rat) = 1 := rfl
      have B1 : Bd y.1 1 := Bd.of_rat h1.1 (by rw [c1]; exact a0) (by rw [c1]; exact a1)
      have B2 : Bd y.2 1 := Bd.of_rat h2.1 (by rw [c1]; exact b0) (by rw [c1]; exact b1)
      obtain ⟨_, m2, _, m4⟩ := mul_r B1 B1 (G := 1) (by omega) (by omega)
      obtain ⟨_, k2, _, k4⟩ := mul_r B2 B2 (G := 1) (by omega) (by omega)
      obtain ⟨_, t2, _, t4⟩ := add_r m2 k2 (G := 2) (by omega) (by omega)
      obtain ⟨e1, e2⟩ := eta_bd
      have p1 := m4 1 (by grind) (by grind)
      have p2 := k4 1 (by grind) (by grind)
      have r1 := m2.rat
      have r2 := k2.rat
      rw [c1] at r1 r2
      have p3 := t4 2 (by grind) (by grind)
      have ed : rv (dotW y y) = rv (ad (ml y.1 y.1) (ml y.2 y.2)) := rfl
      -- the root's square
      have hxn : 0 ≤ fval (dotW y y) := by
        obtain ⟨b0, _⟩ := inR_bd hin
        omega
      have n4' : ((1000000 * ((fval (newtN (dotW y y) g 60)).toNat * (fval (newtN (dotW y y) g 60)).toNat) : Nat) : Int) ≤ ((1000001 * ((fval (dotW y y)).toNat * oneV) : Nat) : Int) := by omega
      have q : (((1000000 * (fval (newtN (dotW y y) g 60) * fval (newtN (dotW y y) g 60)) : Int)) : Rat) ≤ (((1000001 * (fval (dotW y y) * (oneV : Int)) : Int)) : Rat) := by
        refine Rat.intCast_le_intCast.2 ?_
        have t1 : ((fval (newtN (dotW y y) g 60)).toNat : Int) = fval (newtN (dotW y y) g 60) := by omega
        have t2 : ((fval (dotW y y)).toNat : Int) = fval (dotW y y) := by omega
        simp only [Int.natCast_mul] at n4'
        rw [t1, t2] at n4'
        exact n4'
      simp only [Rat.intCast_mul] at q
      rw [rv_mul, rv_mul (dotW y y)] at q
      have c6 : ((1000000 : Int) : Rat) = 1000000 := rfl
      have c7 : ((1000001 : Int) : Rat) = 1000001 := rfl
      have eo : ((oneV : Int) : Rat) = uR := rfl
      rw [c6, c7, eo, ed] at q
      rw [e52_lt] at p1 p2 p3
      clear n4 n4' m4 k4 t4 ed hxn
      have hU := uR_pos
      generalize rv (newtN (dotW y y) g 60) = r at *
      generalize rv (ad (ml y.1 y.1) (ml y.2 y.2)) = x at *
      generalize rv (ml y.1 y.1) = u at *
      generalize rv (ml y.2 y.2) = v at *
      generalize rv y.1 * rv y.1 = s at *
      generalize rv y.2 * rv y.2 = t at *
      generalize eta = et at *
      generalize uR = U at *
      have hx : x ≤ 99 / 100 := by grind
      have hUU := Rat.mul_pos hU hU
      have hr := Rat.mul_nonneg (a := r * r - 1) (b := U * U) (by
        have := Rat.mul_nonneg (a := r - 1) (b := r + 1) (by grind) (by grind)
        grind) (by grind)
      have hx2 := Rat.mul_nonneg (a := 99 / 100 - x) (b := U * U) (by grind) (by grind)
      grind

/-- What a fix is, in numbers: d the marks' difference, m how far the fix lies from the first one. -/
structure FixR (a1 a2 b1 b2 u1 u2 w1 w2 d1 d2 m p1 p2 : Rat) (n0 : Prop) : Prop where
  d1a : d1 - (a1 - b1) ≤ 1 / 20000000
  d1b : (a1 - b1) - d1 ≤ 1 / 20000000
  d2a : d2 - (a2 - b2) ≤ 1 / 20000000
  d2b : (a2 - b2) - d2 ≤ 1 / 20000000
  q1a : (a1 - p1) - m * u1 ≤ 1 / 1250000
  q1b : m * u1 - (a1 - p1) ≤ 1 / 1250000
  q2a : (a2 - p2) - m * u2 ≤ 1 / 1250000
  q2b : m * u2 - (a2 - p2) ≤ 1 / 1250000
  cwa : m * (u1 * w2 - u2 * w1) - (d1 * w2 - d2 * w1) ≤ 3 / 1000000
  cwb : (d1 * w2 - d2 * w1) - m * (u1 * w2 - u2 * w1) ≤ 3 / 1000000
  cup : n0 → 29 / 100 ≤ u1 * w2 - u2 * w1 → -(1 / 1000000) ≤ d1 * u2 - d2 * u1
  cun : n0 → u1 * w2 - u2 * w1 ≤ -(29 / 100) → d1 * u2 - d2 * u1 ≤ 1 / 1000000

/-- s is no less than 9 tenths, if it is not less than a trifle below nought, and no trifle itself. -/
theorem s_big {s c q n : Rat} (hq : 98 / 100 ≤ q) (hn : 1 - 1 / 1000000000000 ≤ n) (e : s * s + c * c = q * n) (c1 : -(1 / 100000) ≤ c) (c2 : c ≤ 1 / 100000) (hs : -(1 / 1000) ≤ s) : 9 / 10 ≤ s := by
  have h1 := mul_bd c1 c2 c1 c2
  have h2 := Rat.mul_nonneg (a := q - 98 / 100) (b := n) (by grind) (by grind)
  rcases Rat.le_total (a := 9 / 10) (b := s) with g | g
  · exact g
  · have h3 := mul_bd (a := s) (b := s) (A := 9 / 10) (B := 9 / 10) (by grind) g (by grind) g
    grind
/-- The first mark. -/
theorem fix_a {a1 a2 b1 b2 u1 u2 w1 w2 d1 d2 m p1 p2 : Rat} {n0 : Prop} (F : FixR a1 a2 b1 b2 u1 u2 w1 w2 d1 d2 m p1 p2 n0) {j : Nat} (hu : TnR j u1 u2) (hm : 0 ≤ m) {v1 v2 : Rat}
    (x1 : v1 - (a1 - p1) ≤ 1 / 20000000) (x2 : (a1 - p1) - v1 ≤ 1 / 20000000) (x3 : v2 - (a2 - p2) ≤ 1 / 20000000) (x4 : (a2 - p2) - v2 ≤ 1 / 20000000) (hl : 98 / 100 ≤ v1 * v1 + v2 * v2) :
    9 / 10 ≤ v1 * u1 + v2 * u2 ∧ -(1 / 100000) ≤ v1 * u2 - v2 * u1 ∧ v1 * u2 - v2 * u1 ≤ 1 / 100000 := by
  have f1 := F.q1a; have f2 := F.q1b; have f3 := F.q2a; have f4 := F.q2b
  clear F
  obtain ⟨z1, hz1⟩ : ∃ z, z = v1 - m * u1 := ⟨_, rfl⟩
  obtain ⟨z2, hz2⟩ : ∃ z, z = v2 - m * u2 := ⟨_, rfl⟩
  have b1 : -(1 / 1000000) ≤ z1 ∧ z1 ≤ 1 / 1000000 := by grind
  have b2 : -(1 / 1000000) ≤ z2 ∧ z2 ≤ 1 / 1000000 := by grind
  have g1 := mul_bd b1.1 b1.2 hu.b0 hu.b1
  have g2 := mul_bd b2.1 b2.2 hu.a0 hu.a1
  have g3 := mul_bd b1.1 b1.2 hu.a0 hu.a1
  have g4 := mul_bd b2.1 b2.2 hu.b0 hu.b1
  have lo := hu.lo
  have hc : v1 * u2 - v2 * u1 = z1 * u2 - z2 * u1 := by grind
  have hs : v1 * u1 + v2 * u2 = m * (u1 * u1 + u2 * u2) + (z1 * u1 + z2 * u2) := by grind
  have hmn := Rat.mul_nonneg (a := m) (b := u1 * u1 + u2 * u2) hm (by grind)
  have hcc : -(1 / 100000) ≤ v1 * u2 - v2 * u1 ∧ v1 * u2 - v2 * u1 ≤ 1 / 100000 := by rw [hc]; constructor <;> grind
  refine ⟨?_, hcc⟩
  refine s_big hl lo (c := v1 * u2 - v2 * u1) (by grind) hcc.1 hcc.2 ?_
  rw [hs]; grind
/-- The second mark. -/
theorem fix_b {a1 a2 b1 b2 u1 u2 w1 w2 d1 d2 m p1 p2 : Rat} {n0 : Prop} (F : FixR a1 a2 b1 b2 u1 u2 w1 w2 d1 d2 m p1 p2 n0) {j k : Nat} (hu : TnR j u1 u2) (hw : TnR k w1 w2) (hn : n0) (hE : 29 / 100 ≤ u1 * w2 - u2 * w1 ∨ u1 * w2 - u2 * w1 ≤ -(29 / 100)) {v1 v2 : Rat}
    (x1 : v1 - (b1 - p1) ≤ 1 / 20000000) (x2 : (b1 - p1) - v1 ≤ 1 / 20000000) (x3 : v2 - (b2 - p2) ≤ 1 / 20000000) (x4 : (b2 - p2) - v2 ≤ 1 / 20000000) (hl : 98 / 100 ≤ v1 * v1 + v2 * v2) :
    9 / 10 ≤ v1 * w1 + v2 * w2 ∧ -(1 / 100000) ≤ v1 * w2 - v2 * w1 ∧ v1 * w2 - v2 * w1 ≤ 1 / 100000 := by
  have f1 := F.q1a; have f2 := F.q1b; have f3 := F.q2a; have f4 := F.q2b
  have k1 := F.d1a; have k2 := F.d1b; have k3 := F.d2a; have k4 := F.d2b
  have ca := F.cwa; have cb := F.cwb
  have cp := F.cup hn; have cn := F.cun hn
  clear F
  obtain ⟨z1, hz1⟩ : ∃ z, z = v1 - (m * u1 - d1) := ⟨_, rfl⟩
  obtain ⟨z2, hz2⟩ : ∃ z, z = v2 - (m * u2 - d2) := ⟨_, rfl⟩
  have b1' : -(1 / 1000000) ≤ z1 ∧ z1 ≤ 1 / 1000000 := by grind
  have b2' : -(1 / 1000000) ≤ z2 ∧ z2 ≤ 1 / 1000000 := by grind
  have g1 := mul_bd b1'.1 b1'.2 hw.b0 hw.b1
  have g2 := mul_bd b2'.1 b2'.2 hw.a0 hw.a1
  have g3 := mul_bd b1'.1 b1'.2 hu.b0 hu.b1
  have g4 := mul_bd b2'.1 b2'.2 hu.a0 hu.a1
  have lo := hw.lo
  have hi := hw.hi
  have wu1 := mul_bd hw.a0 hw.a1 hu.a0 hu.a1
  have wu2 := mul_bd hw.b0 hw.b1 hu.b0 hu.b1
  have hc : v1 * w2 - v2 * w1 = (m * (u1 * w2 - u2 * w1) - (d1 * w2 - d2 * w1)) + (z1 * w2 - z2 * w1) := by grind
  have hcc : -(1 / 100000) ≤ v1 * w2 - v2 * w1 ∧ v1 * w2 - v2 * w1 ≤ 1 / 100000 := by rw [hc]; constructor <;> grind
  refine ⟨?_, hcc⟩
  refine s_big hl lo (c := v1 * w2 - v2 * w1) (by grind) hcc.1 hcc.2 ?_
  have key : (v1 * w1 + v2 * w2) * (u1 * w2 - u2 * w1) = ((d1 * u2 - d2 * u1) - (z1 * u2 - z2 * u1)) * (w1 * w1 + w2 * w2) + (v1 * w2 - v2 * w1) * (w1 * u1 + w2 * u2) := by grind
  have hwu : -(21 / 10) ≤ w1 * u1 + w2 * u2 ∧ w1 * u1 + w2 * u2 ≤ 21 / 10 := by grind
  have g5 := mul_bd hcc.1 hcc.2 hwu.1 hwu.2
  clear hc hz1 hz2 ca cb k1 k2 k3 k4 f1 f2 f3 f4 x1 x2 x3 x4
  generalize v1 * w2 - v2 * w1 = c at *
  generalize w1 * u1 + w2 * u2 = wu at *
  generalize v1 * w1 + v2 * w2 = s at *
  generalize w1 * w1 + w2 * w2 = n at *
  have hzz : -(1 / 400000) ≤ z1 * u2 - z2 * u1 ∧ z1 * u2 - z2 * u1 ≤ 1 / 400000 := by constructor <;> grind
  generalize z1 * u2 - z2 * u1 = zz at *
  generalize d1 * u2 - d2 * u1 = du at *
  rcases hE with hE | hE
  · have h1 := cp hE
    generalize u1 * w2 - u2 * w1 = E at *
    have h2 := Rat.mul_nonneg (a := (du - zz) + 1 / 200000) (b := n) (by grind) (by grind)
    rcases Rat.le_total (a := -(1 / 1000)) (b := s) with g | g
    · exact g
    · have h3 := Rat.mul_nonneg (a := -(1 / 1000) - s) (b := E - 29 / 100) (by grind) (by grind)
      grind
  · have h1 := cn hE
    generalize u1 * w2 - u2 * w1 = E at *
    have h2 := Rat.mul_nonneg (a := 1 / 200000 - (du - zz)) (b := n) (by grind) (by grind)
    rcases Rat.le_total (a := -(1 / 1000)) (b := s) with g | g
    · exact g
    · have h3 := Rat.mul_nonneg (a := -(1 / 1000) - s) (b := -(29 / 100) - E) (by grind) (by grind)
      grind
end Go.Proofs.Ytonoknbangnleaa
