/- Twice a vector makes twice as much with each turn. Nothing here speaks of the program. -/
import Derived.Test.YtonoknbangnleaaFd
import Derived.Test.YtonoknbangnleaaDt
import Derived.Test.YtonoknbangnleaaVk
namespace Go.Proofs.Ytonoknbangnleaa
open Go.RowKit Ieee

theorem rep_zero : Rep 0 := ⟨0, 0, by omega, by simp⟩
theorem add_full {x y : Nat} (hx : isNum x) (hy : isNum y) (hb : (fval x + fval y).natAbs < 2 ^ fixB) {r : Nat} (h : f64.add x y = some r) :
    isNum r ∧ (fval x + fval y = 0 → fval r = 0) ∧ (0 < fval x + fval y → fval r = (rE (fval x + fval y).natAbs 0 : Nat)) ∧ (fval x + fval y < 0 → fval r = -((rE (fval x + fval y).natAbs 0 : Nat) : Int)) := by
  obtain ⟨r', h1, h2, _, h4⟩ := add_op hx hy hb
  have e : r' = r := by rw [h] at h1; injection h1 with h1; exact h1.symm
  subst e
  have hs := h4.side
  have hn := h4.near (by omega)
  refine ⟨h2, fun h0 => ?_, fun h0 => ?_, fun h0 => ?_⟩
  · rw [h0] at hn
    have := hn 0 rep_zero
    have a := this.1 (by omega)
    have b := this.2 (by omega)
    omega
  · have := add_val hx hy hb (by omega) h
    rcases hs.1 (by omega) with h | h <;> omega
  · have := add_val hx hy hb (by omega) h
    rcases hs.2 (by omega) with h | h <;> omega
theorem mul_full {x y : Nat} (hx : isNum x) (hy : isNum y) (hb : (fval x * fval y).natAbs < 2 ^ (fixB + fixE)) {r : Nat} (h : f64.mul x y = some r) :
    isNum r ∧ (fval x * fval y = 0 → fval r = 0) ∧ (0 < fval x * fval y → fval r = (rE (fval x * fval y).natAbs fixE : Nat)) ∧ (fval x * fval y < 0 → fval r = -((rE (fval x * fval y).natAbs fixE : Nat) : Int)) := by
  obtain ⟨r', h1, h2, _, h4⟩ := mul_op hx hy hb
  have e : r' = r := by rw [h] at h1; injection h1 with h1; exact h1.symm
  subst e
  have hs := h4.side
  have hn := h4.near (Nat.two_pow_pos _)
  refine ⟨h2, fun h0 => ?_, fun h0 => ?_, fun h0 => ?_⟩
  · rw [h0] at hn
    have := hn 0 rep_zero
    have a := this.1 (by omega)
    have b := this.2 (by omega)
    omega
  · have := mul_val hx hy hb (by omega) h
    rcases hs.1 (by omega) with h | h <;> omega
  · have := mul_val hx hy hb (by omega) h
    rcases hs.2 (by omega) with h | h <;> omega

/-- A sum of twice as much, or of twice a great number and a trifle. -/
theorem sum_dbl {p q p2 q2 s s2 : Nat} (hp : isNum p) (hq : isNum q) (hp2 : isNum p2) (hq2 : isNum q2) (b1 : (fval p + fval q).natAbs < 2 ^ fixB) (b2 : (fval p2 + fval q2).natAbs < 2 ^ fixB)
    (h : f64.add p q = some s) (h2 : f64.add p2 q2 = some s2)
    (H : (fval p2 = 2 * fval p ∧ fval q2 = 2 * fval q) ∨ ((fval p).natAbs ≤ 9007199254740992 ∧ (fval p2).natAbs ≤ 9007199254740992 ∧ fval q2 = 2 * fval q ∧ 1298074214633706907132624082305024 ≤ (fval q).natAbs) ∨
      ((fval q).natAbs ≤ 9007199254740992 ∧ (fval q2).natAbs ≤ 9007199254740992 ∧ fval p2 = 2 * fval p ∧ 1298074214633706907132624082305024 ≤ (fval p).natAbs)) : fval s2 = 2 * fval s := by
  obtain ⟨_, z1, z2, z3⟩ := add_full hp hq b1 h
  obtain ⟨_, y1, y2, y3⟩ := add_full hp2 hq2 b2 h2
  clear b1 b2 h h2
  have hrq : Rep ((((fval q).natAbs : Nat) : Int)) := by
    obtain ⟨a, k, h1, h2⟩ := rep_num hq
    exact ⟨a, k, h1, by rw [Int.natAbs_natCast]; exact h2⟩
  have hrp : Rep ((((fval p).natAbs : Nat) : Int)) := by
    obtain ⟨a, k, h1, h2⟩ := rep_num hp
    exact ⟨a, k, h1, by rw [Int.natAbs_natCast]; exact h2⟩
  have two : ∀ a : Nat, Rep (a : Int) → Rep ((2 * a : Nat) : Int) := fun a h => by
    have := rep_two h
    rw [show ((2 * a : Nat) : Int) = 2 * (a : Int) by omega]; exact this
  have gen : ∀ u v u2 v2 : Int, u.natAbs ≤ 9007199254740992 → u2.natAbs ≤ 9007199254740992 → v2 = 2 * v → 1298074214633706907132624082305024 ≤ v.natAbs → Rep (((v.natAbs : Nat) : Int)) →
      rE (u + v).natAbs 0 = v.natAbs ∧ rE (u2 + v2).natAbs 0 = 2 * v.natAbs := fun u v u2 v2 a1 a2 a3 a4 hr =>
    ⟨rE_trifle hr a4 (by omega) (by omega), rE_trifle (two _ hr) (by omega) (by omega) (by omega)⟩
  rcases H with ⟨e1, e2⟩ | ⟨a1, a2, a3, a4⟩ | ⟨a1, a2, a3, a4⟩
  · have e : fval p2 + fval q2 = 2 * (fval p + fval q) := by omega
    rw [e] at y1 y2 y3
    have en : (2 * (fval p + fval q)).natAbs = 2 * (fval p + fval q).natAbs := by omega
    rw [en, rE_twice] at y2 y3
    rcases Int.lt_trichotomy (fval p + fval q) 0 with h | h | h
    · have := y3 (by omega); have := z3 h; omega
    · have := y1 (by omega); have := z1 h; omega
    · have := y2 (by omega); have := z2 h; omega
  · obtain ⟨g1, g2⟩ := gen _ _ _ _ a1 a2 a3 a4 hrq
    rw [g1] at z2 z3
    rw [g2] at y2 y3
    rcases Int.lt_or_le (fval q) 0 with h | h
    · have := y3 (by omega); have := z3 (by omega); omega
    · have := y2 (by omega); have := z2 (by omega); omega
  · obtain ⟨g1, g2⟩ := gen _ _ _ _ a1 a2 a3 a4 hrp
    rw [Int.add_comm] at g1 g2
    rw [g1] at z2 z3
    rw [g2] at y2 y3
    rcases Int.lt_or_le (fval p) 0 with h | h
    · have := y3 (by omega); have := z3 (by omega); omega
    · have := y2 (by omega); have := z2 (by omega); omega

/-- A product with twice as much: twice as much, or both are trifles. -/
theorem mul_dbl {a a2 c p p2 : Nat} (ha : isNum a) (ha2 : isNum a2) (hc : isNum c) (he : fval a2 = 2 * fval a) (b1 : (fval a * fval c).natAbs < 2 ^ (fixB + fixE)) (b2 : (fval a2 * fval c).natAbs < 2 ^ (fixB + fixE))
    (h : f64.mul a c = some p) (h2 : f64.mul a2 c = some p2) :
    (fval p2 = 2 * fval p ∧ (fval a * fval c ≠ 0 → ∀ g, Rep ((g : Nat) : Int) → g * oneV ≤ (fval a * fval c).natAbs → g ≤ (fval p).natAbs)) ∨ (fval a ≠ 0 ∧ (fval a * fval c).natAbs < 4503599627370496 * oneV ∧ (fval p).natAbs ≤ 9007199254740992 ∧ (fval p2).natAbs ≤ 9007199254740992) := by
  have hpos : 0 < oneV := Nat.two_pow_pos _
  obtain ⟨pn, z1, z2, z3⟩ := mul_full ha hc b1 h
  obtain ⟨p2n, y1, y2, y3⟩ := mul_full ha2 hc b2 h2
  obtain ⟨r', k1, _, _, k4⟩ := mul_op ha hc b1
  have er : r' = p := by rw [h] at k1; injection k1 with k1; exact k1.symm
  subst er
  have near := k4.near hpos
  obtain ⟨r2, k21, _, _, k24⟩ := mul_op ha2 hc b2
  have er2 : r2 = p2 := by rw [h2] at k21; injection k21 with k21; exact k21.symm
  subst er2
  have near2 := k24.near hpos
  have eN : fval r2 = fval r2 := rfl
  have e : fval a2 * fval c = 2 * (fval a * fval c) := by rw [he, Int.mul_assoc]
  rw [e] at y1 y2 y3 near2
  have lower : ∀ g, Rep ((g : Nat) : Int) → g * oneV ≤ (fval a * fval c).natAbs → g ≤ (fval r').natAbs := fun g hg hle => by
    have e0 : ((g * oneV : Nat) : Int) = (g : Int) * (oneV : Int) := Int.natCast_mul _ _
    rcases Int.lt_or_le (fval a * fval c) 0 with h | h
    · have := (near _ (rep_neg hg)).2 (by rw [Int.neg_mul, ← e0]; omega)
      omega
    · have := (near _ hg).1 (by rw [← e0]; omega)
      omega
  rcases Nat.lt_or_ge (fval a * fval c).natAbs (4503599627370496 * oneV) with hlt | hge
  · by_cases h0 : fval a * fval c = 0
    · left
      refine ⟨?_, fun h => absurd h0 h⟩
      have := z1 h0
      have := y1 (by omega)
      omega
    · right
      have hr : Rep ((4503599627370496 : Nat) : Int) := ⟨4503599627370496, 0, by omega, by simp⟩
      have hr2 : Rep ((9007199254740992 : Nat) : Int) := ⟨9007199254740992, 0, by omega, by simp⟩
      have up : (fval r').natAbs ≤ 4503599627370496 := by
        have u1 := (near _ hr).2
        have u2 := (near _ (rep_neg hr)).1
        rw [← Int.natCast_mul] at u1
        rw [Int.neg_mul, ← Int.natCast_mul] at u2
        have := u1 (by omega)
        have := u2 (by omega)
        omega
      have up2 : (fval r2).natAbs ≤ 9007199254740992 := by
        have u1 := (near2 _ hr2).2
        have u2 := (near2 _ (rep_neg hr2)).1
        rw [← Int.natCast_mul] at u1
        rw [Int.neg_mul, ← Int.natCast_mul] at u2
        have := u1 (by omega)
        have := u2 (by omega)
        omega
      exact ⟨fun h => h0 (by rw [h, Int.zero_mul]), hlt, by omega, up2⟩
  · left
    refine ⟨?_, fun _ => lower⟩
    have en : (2 * (fval a * fval c)).natAbs = 2 * (fval a * fval c).natAbs := by omega
    have hd : rE (2 * (fval a * fval c).natAbs) fixE = 2 * rE (fval a * fval c).natAbs fixE := by
      refine rE_double ?_
      rw [Nat.pow_add]
      exact hge
    rw [en, hd] at y2 y3
    rcases Int.lt_trichotomy (fval a * fval c) 0 with h | h | h
    · have := y3 (by omega); have := z3 h; omega
    · have := y1 (by omega); have := z1 h; omega
    · have := y2 (by omega); have := z2 h; omega
end Go.Proofs.Ytonoknbangnleaa
