/- Whole numbers as floats, and how far nodes lie apart. -/
import Derived.Test.YtibkhmdnfloemaaMaB
import Derived.Test.YtibkhmdnfloemaaFA
namespace Go.Proofs.Ytibkhmdnfloemaa
open Go.RowKit Ieee
set_option linter.unusedVariables false

/-- A float that is a whole number. -/
def IntF (x : Nat) (n : Int) : Prop := x < 18446744073709551616 ∧ isNum x ∧ fval x = n * (oneV : Int)
theorem rep_int12 (n : Int) (h : n.natAbs ≤ 9007199254740992) : Rep (n * (oneV : Int)) := ⟨n.natAbs, fixE, h, by rw [Int.natAbs_mul]; rfl⟩
theorem ofInt_int12 (n : Int) (h0 : -9007199254740992 < n) (h1 : n < 9007199254740992) : IntF (floatOfInt .f64 n) n := by
  obtain ⟨a, b⟩ := ofInt_val n h0 h1
  exact ⟨FloatKind.f64.format.nearest_lt _ _ _, a, b⟩
theorem bd_one12 {n : Int} (h : n.natAbs ≤ 9007199254740992) : (n * (oneV : Int)).natAbs < 2 ^ fixB := by
  have e := fixE_eq
  have b := fixB_eq
  rw [Int.natAbs_mul]
  have h1 : n.natAbs * oneV ≤ 9007199254740992 * oneV := Nat.mul_le_mul_right _ h
  have h2 : 9007199254740992 * oneV = 2 ^ (53 + fixE) := by rw [Nat.pow_add]; rfl
  have h3 : 2 ^ (53 + fixE) < 2 ^ fixB := Nat.pow_lt_pow_right (by omega) (by omega)
  rw [h2] at h1
  exact Nat.lt_of_le_of_lt h1 h3
theorem sub_int12 {x y : Nat} {a b : Int} (hx : IntF x a) (hy : IntF y b) (h : (a - b).natAbs ≤ 9007199254740992) : ∃ r, floatBits .sub .f64 x y = some r ∧ IntF r (a - b) := by
  have e : fval x - fval y = (a - b) * (oneV : Int) := by rw [hx.2.2, hy.2.2, Int.sub_mul]
  obtain ⟨r, h1, h2, h3, h4⟩ := sub_op hx.2.1 hy.2.1 (by rw [e]; exact bd_one12 h)
  rw [e] at h4
  have h5 := h4.near Nat.one_pos
  exact ⟨r, h1, h3, h2, NearI.exact (D := 1) (by simpa using h5) (rep_int12 _ h)⟩
theorem add_int12 {x y : Nat} {a b : Int} (hx : IntF x a) (hy : IntF y b) (h : (a + b).natAbs ≤ 9007199254740992) : ∃ r, floatBits .add .f64 x y = some r ∧ IntF r (a + b) := by
  have e : fval x + fval y = (a + b) * (oneV : Int) := by rw [hx.2.2, hy.2.2, Int.add_mul]
  obtain ⟨r, h1, h2, h3, h4⟩ := add_op hx.2.1 hy.2.1 (by rw [e]; exact bd_one12 h)
  rw [e] at h4
  have h5 := h4.near Nat.one_pos
  exact ⟨r, h1, h3, h2, NearI.exact (D := 1) (by simpa using h5) (rep_int12 _ h)⟩
theorem mul_int12 {x y : Nat} {a b : Int} (hx : IntF x a) (hy : IntF y b) (h : (a * b).natAbs ≤ 9007199254740992) : ∃ r, floatBits .mul .f64 x y = some r ∧ IntF r (a * b) := by
  have hp : 0 < oneV := Nat.two_pow_pos _
  have e : fval x * fval y = a * b * (oneV : Int) * (oneV : Int) := by
    rw [hx.2.2, hy.2.2]
    generalize (oneV : Int) = u
    rw [Int.mul_assoc, Int.mul_left_comm u b u, ← Int.mul_assoc a b, ← Int.mul_assoc (a * b)]
  have hb : (fval x * fval y).natAbs < 2 ^ (fixB + fixE) := by
    rw [e, Int.natAbs_mul, Nat.pow_add]
    exact Nat.mul_lt_mul_of_pos_right (bd_one12 h) hp
  obtain ⟨r, h1, h2, h3, h4⟩ := mul_op hx.2.1 hy.2.1 hb
  rw [e] at h4
  exact ⟨r, h1, h3, h2, NearI.exact (h4.near hp) (rep_int12 _ h)⟩
theorem lt_int12 {x y : Nat} {a b : Int} (hx : IntF x a) (hy : IntF y b) : (FloatKind.f64.format.order x y == some .lt) = decide (a < b) := by
  have hp : 0 < (oneV : Int) := by have : 0 < oneV := Nat.two_pow_pos _; omega
  rw [show FloatKind.f64.format.order x y = some (compare (fval x) (fval y)) from order_val hx.2.1 hy.2.1, hx.2.2, hy.2.2]
  by_cases h : a < b
  · have h1 : a * (oneV : Int) < b * (oneV : Int) := Int.mul_lt_mul_of_pos_right h hp
    rw [decide_eq_true h, Int.compare_eq_lt.2 h1]; rfl
  · have h1 : ¬ a * (oneV : Int) < b * (oneV : Int) := fun h2 => h (Int.lt_of_mul_lt_mul_right h2 (Int.le_of_lt hp))
    rw [decide_eq_false h]
    generalize a * (oneV : Int) = X at *
    generalize b * (oneV : Int) = Y at *
    cases e : compare X Y
    · exact absurd (Int.compare_eq_lt.1 e) h1
    · rfl
    · rfl
theorem sq_bd12 {a B : Int} (h0 : -B ≤ a) (h1 : a ≤ B) : 0 ≤ a * a ∧ a * a ≤ B * B := by
  refine ⟨?_, ?_⟩
  · rcases Int.le_total 0 a with h | h
    · exact Int.mul_nonneg h h
    · have := Int.mul_nonneg (show 0 ≤ -a by omega) (show 0 ≤ -a by omega); rwa [Int.neg_mul_neg] at this
  · rcases Int.le_total 0 a with h | h
    · exact Int.mul_le_mul h1 h1 h (by omega)
    · have := Int.mul_le_mul (show -a ≤ B by omega) (show -a ≤ B by omega) (by omega) (by omega); rwa [Int.neg_mul_neg] at this
/-- A whole vector's product with itself is exact. -/
theorem dot_int12 {x y : Nat} {a b : Int} (hx : IntF x a) (hy : IntF y b) (ha : -20000000 ≤ a ∧ a ≤ 20000000) (hb : -20000000 ≤ b ∧ b ≤ 20000000) : ∃ p q s, floatBits .mul .f64 x x = some p ∧ floatBits .mul .f64 y y = some q ∧ floatBits .add .f64 p q = some s ∧ IntF s (a * a + b * b) := by
  have h1 := sq_bd12 ha.1 ha.2
  have h2 := sq_bd12 hb.1 hb.2
  obtain ⟨p, m1, p1⟩ := mul_int12 hx hx (by omega)
  obtain ⟨q, m2, p2⟩ := mul_int12 hy hy (by omega)
  obtain ⟨s, m3, p3⟩ := add_int12 p1 p2 (by omega)
  exact ⟨p, q, s, m1, m2, m3, p3⟩
/-- How far (squared) node n lies from node k. -/
def dI (F : Fd) (n k : Nat) : Int := ((n : Int) / F.wd * F.me - (k : Int) / F.wd * F.me) * ((n : Int) / F.wd * F.me - (k : Int) / F.wd * F.me) + ((n : Int) % F.wd * F.me - (k : Int) % F.wd * F.me) * ((n : Int) % F.wd * F.me - (k : Int) % F.wd * F.me)
theorem node_bd {F : Fd} (h : FdP F) {n : Nat} (hn : n ≤ 144) : (0 ≤ (n : Int) / F.wd * F.me ∧ (n : Int) / F.wd * F.me ≤ 14400000) ∧ (0 ≤ (n : Int) % F.wd * F.me ∧ (n : Int) % F.wd * F.me ≤ 14400000) := by
  obtain ⟨a, b, m, ha, hb, hm, h1, h2, h3, _, _⟩ := fd_nums h
  rw [ha, hm]
  have q9 : n / a ≤ 144 := Nat.le_trans (Nat.div_le_self n a) hn
  have r9 : n % a ≤ 144 := Nat.le_trans (Nat.mod_le n a) hn
  have hqm : n / a * m ≤ 144 * 100000 := Nat.mul_le_mul q9 h3.2
  have hrm : n % a * m ≤ 144 * 100000 := Nat.mul_le_mul r9 h3.2
  rw [show (n : Int) / (a : Int) * (m : Int) = ((n / a * m : Nat) : Int) from rfl, show (n : Int) % (a : Int) * (m : Int) = ((n % a * m : Nat) : Int) from rfl]
  omega
theorem node_int {F : Fd} (h : FdP F) {n : Nat} (hn : n ≤ 144) : IntF (nodeP F n).1 ((n : Int) / F.wd * F.me) ∧ IntF (nodeP F n).2 ((n : Int) % F.wd * F.me) := by
  obtain ⟨⟨h1, h2⟩, h3, h4⟩ := node_bd h hn
  exact ⟨ofInt_int12 _ (by omega) (by omega), ofInt_int12 _ (by omega) (by omega)⟩
/-- Node n less node k, and that with itself: exact. -/
theorem node_dist {F : Fd} (h : FdP F) {n k : Nat} (hn : n ≤ 144) (hk : k ≤ 144) : ∃ x y p q s, floatBits .sub .f64 (nodeP F n).1 (nodeP F k).1 = some x ∧ floatBits .sub .f64 (nodeP F n).2 (nodeP F k).2 = some y ∧ (x < 18446744073709551616 ∧ y < 18446744073709551616) ∧ floatBits .mul .f64 x x = some p ∧ floatBits .mul .f64 y y = some q ∧ floatBits .add .f64 p q = some s ∧ IntF s (dI F n k) := by
  obtain ⟨n1, n2⟩ := node_int h hn
  obtain ⟨k1, k2⟩ := node_int h hk
  obtain ⟨a1, a2⟩ := node_bd h hn
  obtain ⟨b1, b2⟩ := node_bd h hk
  unfold dI
  generalize (n : Int) / F.wd * F.me = A at *
  generalize (n : Int) % F.wd * F.me = B at *
  generalize (k : Int) / F.wd * F.me = C at *
  generalize (k : Int) % F.wd * F.me = D at *
  obtain ⟨x, s1, i1⟩ := sub_int12 n1 k1 (by omega)
  obtain ⟨y, s2, i2⟩ := sub_int12 n2 k2 (by omega)
  obtain ⟨p, q, s, m1, m2, m3, i3⟩ := dot_int12 i1 i2 (by omega) (by omega)
  exact ⟨x, y, p, q, s, s1, s2, ⟨i1.1, i2.1⟩, m1, m2, m3, i3⟩
theorem dI_self (F : Fd) (k : Nat) : dI F k k = 0 := by unfold dI; simp
/-- Two nodes lie apart. -/
theorem dI_pos {F : Fd} (h : FdP F) {n k : Nat} (hne : n ≠ k) : 0 < dI F n k := by
  obtain ⟨a, b, m, ha, hb, hm, h1, h2, h3, _, _⟩ := fd_nums h
  unfold dI
  rw [ha, hm]
  have hd : n / a ≠ k / a ∨ n % a ≠ k % a := by
    by_cases e1 : n / a = k / a
    · right
      intro e2
      have x := Nat.div_add_mod n a
      have y := Nat.div_add_mod k a
      rw [e1, e2] at x
      exact hne (x.symm.trans y)
    · exact Or.inl e1
  have c : ∀ u v : Nat, ((u : Int) * (m : Int) - (v : Int) * (m : Int)) * ((u : Int) * (m : Int) - (v : Int) * (m : Int)) = ((m * m : Nat) : Int) * (((u : Int) - (v : Int)) * ((u : Int) - (v : Int))) := by
    intro u v
    rw [← Int.sub_mul, show ((m * m : Nat) : Int) = (m : Int) * (m : Int) from rfl]
    generalize (u : Int) - (v : Int) = z
    rw [Int.mul_assoc, Int.mul_left_comm (m : Int) z, ← Int.mul_assoc z z, Int.mul_comm (z * z)]
  have hmm : 0 < ((m * m : Nat) : Int) := by have := Nat.mul_pos (show 0 < m by omega) (show 0 < m by omega); omega
  rw [show (n : Int) / (a : Int) = ((n / a : Nat) : Int) from rfl, show (k : Int) / (a : Int) = ((k / a : Nat) : Int) from rfl, show (n : Int) % (a : Int) = ((n % a : Nat) : Int) from rfl, show (k : Int) % (a : Int) = ((k % a : Nat) : Int) from rfl, c, c, ← Int.mul_add]
  refine Int.mul_pos hmm ?_
  have s0 : ∀ z : Int, 0 ≤ z * z := fun z => by
    rcases Int.le_total 0 z with h | h
    · exact Int.mul_nonneg h h
    · have := Int.mul_nonneg (show 0 ≤ -z by omega) (show 0 ≤ -z by omega); rwa [Int.neg_mul_neg] at this
  have s1 : ∀ z : Int, z ≠ 0 → 0 < z * z := fun z hz => by
    rcases Int.lt_or_le 0 z with h | h
    · exact Int.mul_pos h h
    · have := Int.mul_pos (show 0 < -z by omega) (show 0 < -z by omega); rwa [Int.neg_mul_neg] at this
  have t1 := s0 (((n / a : Nat) : Int) - ((k / a : Nat) : Int))
  have t2 := s0 (((n % a : Nat) : Int) - ((k % a : Nat) : Int))
  rcases hd with hd | hd
  · have := s1 (((n / a : Nat) : Int) - ((k / a : Nat) : Int)) (by omega)
    omega
  · have := s1 (((n % a : Nat) : Int) - ((k % a : Nat) : Int)) (by omega)
    omega
end Go.Proofs.Ytibkhmdnfloemaa
