/- Without a stream: how near what is made along and across lies to the product of turns. Plain facts on whole numbers. -/
import Derived.Test.YtlenmnffnbldbaaGvA
namespace Go.Proofs.Ytlenmnffnbldbaa
open Go.RowKit Ieee
set_option linter.unusedVariables false
set_option linter.unusedSimpArgs false

theorem mul_le_r {a b c : Int} (h : a ≤ b) (hc : 0 ≤ c) : a * c ≤ b * c := Int.mul_le_mul_of_nonneg_right h hc

/-- A part of a velocity, but for a trifle: the part of the turn by the speed. -/
theorem ve_err {T a p s OS W : Int} (hW : 0 < W) (hs : 0 ≤ s) (hO : OS ≤ 2 * s) (hOS : 1267650600228229401496703205376 ≤ OS) (hT : (T.natAbs : Int) ≤ 2 * (OS * W))
    (n1 : 8388608 * (a * W - T) ≤ (T.natAbs : Int) + 8388608 * W) (n1' : 8388608 * (T - a * W) ≤ (T.natAbs : Int) + 8388608 * W)
    (n2 : 8388608 * (p * OS - a * s) ≤ ((a * s).natAbs : Int) + 8388608 * OS) (n2' : 8388608 * (a * s - p * OS) ≤ ((a * s).natAbs : Int) + 8388608 * OS) :
    1048576 * (p * W * OS - T * s) ≤ OS * W * s ∧ 1048576 * (T * s - p * W * OS) ≤ OS * W * s := by
  have hA : 8388608 * ((a.natAbs : Int) * W) ≤ 8388609 * (T.natAbs : Int) + 8388608 * W := by
    rcases Int.le_total 0 a with h | h
    · rw [show (a.natAbs : Int) = a by omega]
      generalize a * W = x at *
      omega
    · rw [show (a.natAbs : Int) = -a by omega, Int.neg_mul]
      generalize a * W = x at *
      omega
  have hn : ((a * s).natAbs : Int) = (a.natAbs : Int) * s := by
    rw [Int.natAbs_mul, Int.natCast_mul, show (s.natAbs : Int) = s by omega]
  rw [hn] at n2 n2'
  have k1 := mul_le_r n1 hs
  have k1' := mul_le_r n1' hs
  have k2 := mul_le_r n2 (Int.le_of_lt hW)
  have k2' := mul_le_r n2' (Int.le_of_lt hW)
  have kA := mul_le_r hA hs
  have kT := mul_le_r hT hs
  have kO := mul_le_r hO (Int.le_of_lt hW)
  have kS := mul_le_r (mul_le_r hOS (Int.le_of_lt hW)) hs
  rw [Int.mul_assoc, Int.sub_mul, Int.add_mul, Int.mul_assoc 8388608] at k1 k1'
  rw [Int.mul_assoc, Int.sub_mul, Int.add_mul, Int.mul_assoc 8388608, Int.mul_right_comm p OS W, Int.mul_right_comm a s W, Int.mul_right_comm _ s W] at k2 k2'
  rw [Int.mul_assoc, Int.add_mul, Int.mul_assoc 8388609, Int.mul_assoc 8388608] at kA
  rw [Int.mul_assoc] at kT
  rw [Int.mul_assoc 2, Int.mul_comm s W] at kO
  rw [Int.mul_assoc 1267650600228229401496703205376] at kS
  have hTs : 0 ≤ (T.natAbs : Int) * s := Int.mul_nonneg (by omega) hs
  have hWs : 0 ≤ W * s := Int.mul_nonneg (by omega) hs
  generalize a * W * s = x1 at *
  generalize T * s = x2 at *
  generalize p * W * OS = x3 at *
  generalize (T.natAbs : Int) * s = nT at *
  generalize W * s = wS at *
  generalize (a.natAbs : Int) * W * s = nA at *
  generalize OS * W * s = oS at *
  generalize OS * W = OW at *
  clear n1 n1' n2 n2' hA hn hO hOS hT
  omega

/-- A product of a part of a turn and of a velocity, but for a trifle. -/
theorem pr_err {T G m U s O OS : Int} (hs : 0 ≤ s) (hO : OS ≤ 2 * s) (hOb : 1267650600228229401496703205376 ≤ O) (hT : (T.natAbs : Int) ≤ 2 * O)
    (hOS : 0 ≤ OS) (hG1 : 1048576 * (G * OS - U) ≤ O * s) (hG2 : 1048576 * (U - G * OS) ≤ O * s) (hU : (U.natAbs : Int) ≤ 2 * (O * s))
    (n : 4503599627370496 * (m * O - T * G) ≤ ((T * G).natAbs : Int) + 4503599627370496 * O) (n' : 4503599627370496 * (T * G - m * O) ≤ ((T * G).natAbs : Int) + 4503599627370496 * O) :
    262144 * (m * (O * OS) - T * U) ≤ O * (O * s) ∧ 262144 * (T * U - m * (O * OS)) ≤ O * (O * s) := by
  have hOn : 0 ≤ O := by omega
  have k := mul_le_r n hOS
  have k' := mul_le_r n' hOS
  rw [Int.mul_assoc, Int.sub_mul, Int.add_mul, Int.mul_assoc 4503599627370496, Int.mul_assoc m, Int.mul_assoc T] at k k'
  have hn : ((T * G).natAbs : Int) * OS = (T.natAbs : Int) * ((G * OS).natAbs : Int) := by
    rw [Int.natAbs_mul, Int.natAbs_mul, Int.natCast_mul, Int.natCast_mul, show (OS.natAbs : Int) = OS by omega, Int.mul_assoc]
  rw [hn] at k k'
  obtain ⟨P, hP⟩ : ∃ P, P = G * OS := ⟨_, rfl⟩
  rw [← hP] at k k' hG1 hG2
  obtain ⟨Q, hQ⟩ : ∃ Q, Q = O * s := ⟨_, rfl⟩
  rw [← hQ] at hG1 hG2 hU ⊢
  have hQ0 : 0 ≤ Q := by rw [hQ]; exact Int.mul_nonneg hOn hs
  have hPb : (P.natAbs : Int) ≤ 3 * Q := by omega
  -- the part of the turn by what P lies off U
  have d1 : ((T * (P - U)).natAbs : Int) * 1048576 ≤ 2 * (O * Q) := by
    rw [Int.natAbs_mul, Int.natCast_mul, Int.mul_assoc]
    have h1 : ((P - U).natAbs : Int) * 1048576 ≤ Q := by omega
    have h2 := Int.mul_le_mul hT h1 (by omega) (by omega)
    rw [Int.mul_assoc] at h2
    exact h2
  have d2 : (T.natAbs : Int) * (P.natAbs : Int) ≤ 6 * (O * Q) := by
    have h2 := Int.mul_le_mul hT hPb (by omega) (by omega)
    rw [Int.mul_assoc, Int.mul_left_comm O 3 Q, ← Int.mul_assoc] at h2
    exact h2
  have d3 : O * OS ≤ 2 * Q := by
    have := Int.mul_le_mul_of_nonneg_left hO hOn
    rw [Int.mul_left_comm] at this
    rw [hQ]; exact this
  have d4 : 1267650600228229401496703205376 * Q ≤ O * Q := mul_le_r hOb hQ0
  rw [Int.mul_sub] at d1
  generalize (T.natAbs : Int) * (P.natAbs : Int) = y at *
  generalize T * P = z at *
  generalize T * U = v at *
  generalize m * (O * OS) = M at *
  generalize O * OS = oo at *
  generalize O * Q = w at *
  clear hn hP hQ hG1 hG2 hU hT hO hOb n n'
  omega

/-- A sum of two such products, but for a trifle. -/
theorem su_err {c m1 m2 V1 V2 O OS Q : Int} (hb : 1267650600228229401496703205376 * Q ≤ O * Q) (hQ0 : 0 ≤ Q) (hoo : O * OS ≤ 2 * Q) (hoo0 : 0 ≤ O * OS)
    (h1 : 262144 * (m1 * (O * OS) - V1) ≤ O * Q) (h1' : 262144 * (V1 - m1 * (O * OS)) ≤ O * Q) (h2 : 262144 * (m2 * (O * OS) - V2) ≤ O * Q) (h2' : 262144 * (V2 - m2 * (O * OS)) ≤ O * Q)
    (b1 : (V1.natAbs : Int) ≤ 4 * (O * Q)) (b2 : (V2.natAbs : Int) ≤ 4 * (O * Q))
    (n : 4503599627370496 * (c - (m1 + m2)) ≤ ((m1 + m2).natAbs : Int) + 4503599627370496) (n' : 4503599627370496 * ((m1 + m2) - c) ≤ ((m1 + m2).natAbs : Int) + 4503599627370496) :
    65536 * (c * (O * OS) - (V1 + V2)) ≤ O * Q ∧ 65536 * ((V1 + V2) - c * (O * OS)) ≤ O * Q := by
  generalize O * OS = oo at *
  have k := mul_le_r n hoo0
  have k' := mul_le_r n' hoo0
  have hn : ((m1 + m2).natAbs : Int) * oo = ((m1 * oo + m2 * oo).natAbs : Int) := by
    rw [← Int.add_mul, Int.natAbs_mul, Int.natCast_mul, show (oo.natAbs : Int) = oo by omega]
  rw [Int.mul_assoc, Int.sub_mul, Int.add_mul, Int.add_mul, hn] at k k'
  generalize m1 * oo = M1 at *
  generalize m2 * oo = M2 at *
  generalize c * oo = cc at *
  generalize O * Q = w at *
  clear n n' hn
  omega
end Go.Proofs.Ytlenmnffnbldbaa
