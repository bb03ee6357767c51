/- Units: how near the length of a unit comes to one. Nothing here speaks of the program. -/
import Derived.Test.YtbjaedmifacgaaaRtA
import Derived.Test.YtbjaedmifacgaaaDbt
namespace Go.Proofs.Ytbjaedmifacgaaa
open Go.RowKit Ieee

/-- A sum of rounded squares. -/
theorem sq_sum {A B p q v U : Nat} (hp : NearI (p : Int) (A : Int) U) (hq : NearI (q : Int) (B : Int) U) (hv : NearI (v : Int) ((p + q : Nat) : Int) 1) (hU : 0 < U) (h : 18014398509481984 ≤ v ∨ 18014398509481984 * U ≤ A + B) :
    35184372088832 * (A + B) ≤ 35184372088833 * (v * U) ∧ 35184372088831 * (v * U) ≤ 35184372088832 * (A + B) := by
  obtain ⟨p1, p2⟩ := near_err_pos hp hU
  obtain ⟨q1, q2⟩ := near_err_pos hq hU
  obtain ⟨v1, v2⟩ := near_err_pos hv (by omega)
  have hUi : (0 : Int) ≤ (U : Int) := by omega
  have w1 := Int.mul_le_mul_of_nonneg_right v1 hUi
  have w2 := Int.mul_le_mul_of_nonneg_right v2 hUi
  have h' : 18014398509481984 * U ≤ v * U ∨ 18014398509481984 * U ≤ A + B := by
    rcases h with h | h
    · exact .inl (Nat.mul_le_mul_right _ h)
    · exact .inr h
  have e1 : (p : Int) * (U : Int) = ((p * U : Nat) : Int) := by rw [Int.natCast_mul]
  have e2 : (q : Int) * (U : Int) = ((q * U : Nat) : Int) := by rw [Int.natCast_mul]
  have e3 : 4503599627370496 * ((v : Int) * ((1 : Nat) : Int) - ((p + q : Nat) : Int)) * (U : Int) = 4503599627370496 * (((v * U : Nat) : Int) - ((p * U : Nat) : Int) - ((q * U : Nat) : Int)) := by
    rw [Int.mul_assoc, Int.sub_mul, Int.natCast_add, Int.add_mul, Int.natCast_mul, Int.natCast_mul, Int.natCast_mul]
    simp only [Int.natCast_one, Int.mul_one]
    omega
  have e4 : 4503599627370496 * (((p + q : Nat) : Int) - (v : Int) * ((1 : Nat) : Int)) * (U : Int) = 4503599627370496 * (((p * U : Nat) : Int) + ((q * U : Nat) : Int) - ((v * U : Nat) : Int)) := by
    rw [Int.mul_assoc, Int.sub_mul, Int.natCast_add, Int.add_mul, Int.natCast_mul, Int.natCast_mul, Int.natCast_mul]
    simp only [Int.natCast_one, Int.mul_one]
  have e5 : (((p + q : Nat) : Int) + 4503599627370496 * ((1 : Nat) : Int)) * (U : Int) = ((p * U : Nat) : Int) + ((q * U : Nat) : Int) + 4503599627370496 * (U : Int) := by
    rw [Int.add_mul, Int.natCast_add, Int.add_mul, Int.natCast_mul, Int.natCast_mul]
    simp only [Int.natCast_one, Int.mul_one]
  rw [e3, e5] at w1
  rw [e4, e5] at w2
  rw [e1] at p1 p2
  rw [e2] at q1 q2
  clear e1 e2 e3 e4 e5 v1 v2 hv hp hq hUi h
  generalize p * U = x at *
  generalize q * U = y at *
  generalize v * U = z at *
  constructor <;> omega

/-- A part divided by the length, squared. -/
theorem div_sq {a r R U : Nat} (hn : NearI (R : Int) ((a * U : Nat) : Int) r) (hr : 0 < r) (ha : a ≤ 2 * r) (hU : 1 ≤ U) :
    20282409603651670423947251286016 * ((R * R) * (r * r)) ≤ 20282409603651679431146506027009 * ((a * a) * (U * U)) + 162259276829213363391578010288128 * (r * r * U) ∧
    20282409603651661416747996545025 * ((a * a) * (U * U)) ≤ 20282409603651670423947251286016 * ((R * R) * (r * r)) + 324518553658426726783156020576256 * (r * r * U) := by
  obtain ⟨h1, h2⟩ := near_err_pos hn hr
  have e1 : (R : Int) * (r : Int) = ((R * r : Nat) : Int) := by rw [Int.natCast_mul]
  rw [e1] at h1 h2
  have n1 : 4503599627370496 * (R * r) ≤ 4503599627370497 * (a * U) + 4503599627370496 * r := by omega
  have n2 : 4503599627370495 * (a * U) ≤ 4503599627370496 * (R * r) + 4503599627370496 * r := by omega
  have br : a * U * r ≤ 2 * (r * r * U) := by
    have := Nat.mul_le_mul_right (U * r) ha
    calc a * U * r = a * (U * r) := Nat.mul_assoc _ _ _
      _ ≤ 2 * r * (U * r) := this
      _ = 2 * (r * r * U) := by rw [Nat.mul_assoc, Nat.mul_left_comm r U r, Nat.mul_comm U]
  have rr : r * r ≤ r * r * U := Nat.le_mul_of_pos_right _ hU
  have rr2 : R * r * r ≤ 5 * (r * r * U) := by
    have h3 : R * r ≤ 2 * (a * U) + r := by omega
    have h4 := Nat.mul_le_mul_right r h3
    rw [Nat.add_mul, Nat.mul_assoc 2] at h4
    omega
  have f1 : R * R * (r * r) = R * r * (R * r) := Nat.mul_mul_mul_comm _ _ _ _
  have f2 : a * a * (U * U) = a * U * (a * U) := Nat.mul_mul_mul_comm _ _ _ _
  rw [f1, f2]
  clear h1 h2 e1 hn f1 f2 ha
  generalize R * r = A at *
  generalize a * U = B at *
  have s1 := Nat.mul_le_mul n1 n1
  have s2 := Nat.mul_le_mul n2 n2
  have x : ∀ c d p q : Nat, c * p * (d * q) = c * d * (p * q) := fun c d p q => Nat.mul_mul_mul_comm _ _ _ _
  rw [Nat.mul_add, Nat.add_mul, Nat.add_mul, x 4503599627370496 4503599627370496 A A, x 4503599627370497 4503599627370497 B B, x 4503599627370496 4503599627370497 r B, x 4503599627370497 4503599627370496 B r, x 4503599627370496 4503599627370496 r r, Nat.mul_comm r B] at s1
  rw [Nat.mul_add, Nat.add_mul, Nat.add_mul, x 4503599627370495 4503599627370495 B B, x 4503599627370496 4503599627370496 A A, x 4503599627370496 4503599627370496 r A, x 4503599627370496 4503599627370496 A r, x 4503599627370496 4503599627370496 r r, Nat.mul_comm r A] at s2
  clear n1 n2 x
  generalize A * A = AA at *
  generalize B * B = BB at *
  generalize B * r = C at *
  generalize A * r = D at *
  generalize r * r * U = W at *
  generalize r * r = E at *
  constructor <;> omega
end Go.Proofs.Ytbjaedmifacgaaa
