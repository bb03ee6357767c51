/- A vector that lies along a turn bears as it; what a length of one tells. Nothing here speaks of the program. -/
import Derived.Test.YtonoknbangnleaaFxD
namespace Go.Proofs.Ytonoknbangnleaa
open Go.RowKit Ieee
set_option linter.unusedVariables false
set_option linter.unusedSimpArgs false

theorem cross_any {j k : Nat} (hj : j < 360) (hk : k < 360) (hd : (j < k ∧ inD (k - j) = true) ∨ (k < j ∧ inD (j - k) = true)) {a b c d : Rat} (h1 : TnR j a b) (h2 : TnR k c d) : 29 / 100 ≤ a * d - b * c ∨ a * d - b * c ≤ -(29 / 100) := by
  rcases hd with ⟨h, g⟩ | ⟨h, g⟩
  · exact cross_lt h hk g h1 h2
  · rcases cross_lt h hj g h2 h1 with e | e
    · right; grind
    · left; grind
theorem bd_turn {k : Nat} (hk : k < 360) : Bd (trn k).1 2 ∧ Bd (trn k).2 2 := by
  obtain ⟨⟨a, b⟩, c, d⟩ := turn_part hk
  exact ⟨⟨a, b⟩, ⟨c, d⟩⟩
theorem e52_lt : e52 = 1 / 4503599627370496 := rfl
/-- A product part by part with a turn. -/
theorem dot_r {y : Nat × Nat} {k : Nat} {a b : Rat} (h1 : okP y.1) (h2 : okP y.2) (hk : k < 360) (ht : TnR k a b) :
    isNum (dotW y (trn k)) ∧ rv (dotW y (trn k)) - (rv y.1 * a + rv y.2 * b) ≤ 1 / 4000000 ∧ (rv y.1 * a + rv y.2 * b) - rv (dotW y (trn k)) ≤ 1 / 4000000 := by
  obtain ⟨t1, t2⟩ := bd_turn hk
  obtain ⟨m1, m2, m3, m4⟩ := mul_r h1.bd t1 (G := 200000000) (by omega) (by omega)
  obtain ⟨n1, n2, n3, n4⟩ := mul_r h2.bd t2 (G := 200000000) (by omega) (by omega)
  obtain ⟨s1, s2, s3, s4⟩ := add_r m2 n2 (G := 400000000) (by omega) (by omega)
  obtain ⟨e1, e2⟩ := eta_bd
  have b1 := m2.rat
  have b2 := n2.rat
  have y1 := h1.bd.rat
  have y2 := h2.bd.rat
  have c8 : (((100000000 : Nat) : Int) : Rat) = 100000000 := rfl
  have c2 : (((200000000 : Nat) : Int) : Rat) = 200000000 := rfl
  rw [c8] at y1 y2
  rw [c2] at b1 b2
  rw [ht.e1] at m4
  rw [ht.e2] at n4
  have g1 := mul_bd y1.1 y1.2 ht.a0 ht.a1
  have g2 := mul_bd y2.1 y2.2 ht.b0 ht.b1
  have p1 := m4 200000000 (by grind) (by grind)
  have p2 := n4 200000000 (by grind) (by grind)
  have p3 := s4 400000000 (by grind) (by grind)
  refine ⟨s2.1, ?_⟩
  have ed : rv (dotW y (trn k)) = rv (ad (ml y.1 (trn k).1) (ml y.2 (trn k).2)) := rfl
  rw [ed]
  rw [e52_lt] at p1 p2 p3
  generalize rv (ad (ml y.1 (trn k).1) (ml y.2 (trn k).2)) = r at *
  generalize rv (ml y.1 (trn k).1) = u at *
  generalize rv (ml y.2 (trn k).2) = v at *
  generalize rv y.1 * a = p at *
  generalize rv y.2 * b = q at *
  generalize eta = et at *
  constructor <;> grind
/-- The best turn, where one makes more than each other. -/
theorem bst_best {y : Nat × Nat} {k : Nat} (hk : k < 360) (hn : ∀ j, j < 360 → isNum (dotW y (trn j))) (hb : ∀ j, j < 360 → j ≠ k → fval (dotW y (trn j)) < fval (dotW y (trn k))) :
    ∀ m, m < 360 → (m < k → (bst y m).1 < k ∧ isNum (bst y m).2 ∧ fval (bst y m).2 < fval (dotW y (trn k))) ∧ (k ≤ m → bst y m = (k, dotW y (trn k)))
  | 0, _ => by
    refine ⟨fun h => ⟨h, hn 0 (by omega), hb 0 (by omega) (by omega)⟩, fun h => ?_⟩
    obtain rfl : k = 0 := by omega
    rfl
  | m + 1, hm => by
    obtain ⟨i1, i2⟩ := bst_best hk hn hb m (by omega)
    have hnm := hn (m + 1) hm
    refine ⟨fun h => ?_, fun h => ?_⟩
    · obtain ⟨a, b, c⟩ := i1 (by omega)
      rw [bst.eq_def]
      simp only
      split
      · exact ⟨h, hnm, hb (m + 1) hm (by omega)⟩
      · exact ⟨a, b, c⟩
    · rcases Nat.lt_or_ge m k with g | g
      · obtain ⟨a, b, c⟩ := i1 g
        obtain rfl : k = m + 1 := by omega
        rw [bst.eq_def]
        simp only
        rw [if_pos (by rw [order_val hnm b, Int.compare_eq_gt.2 c])]
      · have e := i2 g
        rw [bst.eq_def]
        simp only
        rw [e]
        have := hb (m + 1) hm (by omega)
        rw [if_neg (by
          rw [order_val hnm (hn k hk), Int.compare_eq_lt.2 this]
          intro h9; cases h9)]
/-- What lies along a turn, but for a trifle, bears as it. -/
theorem bears {y : Nat × Nat} {k : Nat} {a b : Rat} (h1 : okP y.1) (h2 : okP y.2) (hk : k < 360) (ht : TnR k a b)
    (hs : 9 / 10 ≤ rv y.1 * a + rv y.2 * b) (hc1 : -(1 / 100000) ≤ rv y.1 * b - rv y.2 * a) (hc2 : rv y.1 * b - rv y.2 * a ≤ 1 / 100000) : (bst y 359).1 = k := by
  have hn : ∀ j, j < 360 → isNum (dotW y (trn j)) := fun j hj => by
    obtain ⟨_, X, Y, _, hT, _⟩ := turn_cutC j hj
    exact (dot_r h1 h2 hj (turn_rat hT)).1
  have hb : ∀ j, j < 360 → j ≠ k → fval (dotW y (trn j)) < fval (dotW y (trn k)) := fun j hj hne => by
    obtain ⟨_, X, Y, _, hT, _⟩ := turn_cutC j hj
    have hT2 := turn_rat hT
    generalize (X : Rat) / 1329227995784915872903807060280344576 = c at *
    generalize (Y : Rat) / 1329227995784915872903807060280344576 = d at *
    obtain ⟨_, d1, d2⟩ := dot_r h1 h2 hj hT2
    obtain ⟨_, d3, d4⟩ := dot_r h1 h2 hk ht
    have hap := apart_rat hk hj (fun e => hne e.symm) ht hT2
    refine fval_lt ?_
    have lo := ht.lo
    have hi := ht.hi
    have g1 := mul_bd ht.b0 ht.b1 hT2.a0 hT2.a1
    have g2 := mul_bd ht.a0 ht.a1 hT2.b0 hT2.b1
    generalize rv (dotW y (trn j)) = Dj at *
    generalize rv (dotW y (trn k)) = Dk at *
    have lag : (rv y.1 * c + rv y.2 * d) * (a * a + b * b) = (rv y.1 * a + rv y.2 * b) * (a * c + b * d) + (rv y.1 * b - rv y.2 * a) * (b * c - a * d) := by grind
    clear hn h1 h2
    generalize rv y.1 * c + rv y.2 * d = q at *
    generalize rv y.1 * a + rv y.2 * b = s at *
    generalize rv y.1 * b - rv y.2 * a = cr at *
    have hx : -(201 / 100) ≤ b * c - a * d ∧ b * c - a * d ≤ 201 / 100 := by grind
    have g3 := mul_bd hc1 hc2 hx.1 hx.2
    generalize a * c + b * d = wt at *
    generalize a * a + b * b = n at *
    have m1 := Rat.mul_nonneg (a := s - 9 / 10) (b := n - wt) (by grind) (by grind)
    have big : 7 / 1000000 ≤ (s - q) * n := by grind
    have hsq : 1 / 1000000 ≤ s - q := by
      rcases Rat.le_total (a := 1 / 1000000) (b := s - q) with g | g
      · exact g
      · have := Rat.mul_nonneg (a := 1 / 1000000 - (s - q)) (b := n) (by grind) (by grind)
        grind
    grind
  have h := (bst_best hk hn hb 359 (by omega)).2 (by omega)
  rw [h]
end Go.Proofs.Ytonoknbangnleaa
