/- Turns that cross; a vector that lies along a turn bears as it. Nothing here speaks of the program. -/
import Derived.Test.YtonoknbangnleaaFxC
namespace Go.Proofs.Ytonoknbangnleaa
open Go.RowKit Ieee
set_option linter.unusedVariables false
set_option linter.unusedSimpArgs false

theorem mul_bd {a b A B : Rat} (h1 : -A ≤ a) (h2 : a ≤ A) (h3 : -B ≤ b) (h4 : b ≤ B) : -(A * B) ≤ a * b ∧ a * b ≤ A * B := by
  have x1 := Rat.mul_nonneg (a := A - a) (b := B + b) (by grind) (by grind)
  have x2 := Rat.mul_nonneg (a := A + a) (b := B - b) (by grind) (by grind)
  have x3 := Rat.mul_nonneg (a := A - a) (b := B - b) (by grind) (by grind)
  have x4 := Rat.mul_nonneg (a := A + a) (b := B + b) (by grind) (by grind)
  constructor <;> grind

/-- A part of a turn, with its cut one. -/
theorem cut_part {X : Int} {x : Nat} (h1 : ((x : Int) - 262144) * 20282409603651670423947251286016 ≤ X) (h2 : X < ((x : Int) - 262143) * 20282409603651670423947251286016) :
    (((x : Int) - 262144 : Int) : Rat) / 65536 ≤ (X : Rat) / 1329227995784915872903807060280344576 ∧ (X : Rat) / 1329227995784915872903807060280344576 ≤ (((x : Int) - 262144 : Int) : Rat) / 65536 + 1 / 65536 := by
  have k1 : (((((x : Int) - 262144) * 20282409603651670423947251286016 : Int)) : Rat) ≤ (X : Rat) := Rat.intCast_le_intCast.2 h1
  have k2 : (X : Rat) ≤ (((((x : Int) - 262143) * 20282409603651670423947251286016 : Int)) : Rat) := Rat.intCast_le_intCast.2 (by omega)
  rw [show ((x : Int) - 262143) = ((x : Int) - 262144) + 1 by omega] at k2
  rw [Rat.intCast_mul] at k1 k2
  rw [Rat.intCast_add] at k2
  have c : ((20282409603651670423947251286016 : Int) : Rat) = 20282409603651670423947251286016 := rfl
  have c1 : ((1 : Int) : Rat) = 1 := rfl
  rw [c] at k1 k2
  rw [c1] at k2
  generalize (((x : Int) - 262144 : Int) : Rat) = z at *
  generalize (X : Rat) = y at *
  constructor <;> grind

theorem cross_lt {j k : Nat} (hjk : j < k) (hk : k < 360) (hd : inD (k - j) = true) {a b c d : Rat} (h1 : TnR j a b) (h2 : TnR k c d) : 29 / 100 ≤ a * d - b * c ∨ a * d - b * c ≤ -(29 / 100) := by
  obtain ⟨u, X, Y, hu, ht, u1, u2, u3, u4⟩ := turn_cutC j (by omega)
  obtain ⟨v, X', Y', hv, ht', v1, v2, v3, v4⟩ := turn_cutC k hk
  have hc := crossAll_at tabC crossAll_tab j k u v hjk hu hv hd
  obtain ⟨e1, e2⟩ := turn_x ht
  obtain ⟨e3, e4⟩ := turn_x ht'
  obtain ⟨p1, p2⟩ := cut_part u1 u2
  obtain ⟨p3, p4⟩ := cut_part u3 u4
  obtain ⟨q1, q2⟩ := cut_part v1 v2
  obtain ⟨q3, q4⟩ := cut_part v3 v4
  rw [← e1, h1.e1] at p1 p2
  rw [← e2, h1.e2] at p3 p4
  rw [← e3, h2.e1] at q1 q2
  rw [← e4, h2.e2] at q3 q4
  obtain ⟨x1, x2⟩ := u
  obtain ⟨y1, y2⟩ := v
  have hK : 1288490188 ≤ (((x1 : Int) - 262144) * ((y2 : Int) - 262144) - ((x2 : Int) - 262144) * ((y1 : Int) - 262144)) ∨ (((x1 : Int) - 262144) * ((y2 : Int) - 262144) - ((x2 : Int) - 262144) * ((y1 : Int) - 262144)) ≤ -1288490188 := by
    unfold crC at hc
    have hc' : 1288490188 ≤ (x1 * y2 + 262144 * (x2 + y1) - (x2 * y1 + 262144 * (x1 + y2))) + (x2 * y1 + 262144 * (x1 + y2) - (x1 * y2 + 262144 * (x2 + y1))) := hc
    have m1 : ((x1 : Int) - 262144) * ((y2 : Int) - 262144) = ((x1 * y2 : Nat) : Int) - 262144 * x1 - 262144 * y2 + 68719476736 := by rw [Int.natCast_mul]; grind
    have m2 : ((x2 : Int) - 262144) * ((y1 : Int) - 262144) = ((x2 * y1 : Nat) : Int) - 262144 * x2 - 262144 * y1 + 68719476736 := by rw [Int.natCast_mul]; grind
    rw [m1, m2]
    generalize x1 * y2 = s at *
    generalize x2 * y1 = t at *
    omega
  have hK' : (1288490188 : Rat) ≤ ((((x1 : Int) - 262144 : Int) : Rat) * (((y2 : Int) - 262144 : Int) : Rat) - (((x2 : Int) - 262144 : Int) : Rat) * (((y1 : Int) - 262144 : Int) : Rat)) ∨
      ((((x1 : Int) - 262144 : Int) : Rat) * (((y2 : Int) - 262144 : Int) : Rat) - (((x2 : Int) - 262144 : Int) : Rat) * (((y1 : Int) - 262144 : Int) : Rat)) ≤ -(1288490188 : Rat) := by
    rcases hK with h | h
    · left
      have := Rat.intCast_le_intCast.2 h
      rw [Rat.intCast_sub, Rat.intCast_mul, Rat.intCast_mul] at this
      exact this
    · right
      have := Rat.intCast_le_intCast.2 h
      rw [Rat.intCast_sub, Rat.intCast_mul, Rat.intCast_mul] at this
      exact this
  clear hK hc u1 u2 u3 u4 v1 v2 v3 v4 e1 e2 e3 e4 ht ht' hu hv
  have ba := h1.a0; have ba' := h1.a1; have bb := h1.b0; have bb' := h1.b1
  have bc := h2.a0; have bc' := h2.a1; have bd := h2.b0; have bd' := h2.b1
  clear h1 h2
  dsimp only at *
  generalize (((x1 : Int) - 262144 : Int) : Rat) = A at *
  generalize (((x2 : Int) - 262144 : Int) : Rat) = B at *
  generalize (((y1 : Int) - 262144 : Int) : Rat) = C at *
  generalize (((y2 : Int) - 262144 : Int) : Rat) = D at *
  obtain ⟨fa, hfa⟩ : ∃ fa, fa = a - A / 65536 := ⟨_, rfl⟩
  obtain ⟨fb, hfb⟩ : ∃ fb, fb = b - B / 65536 := ⟨_, rfl⟩
  obtain ⟨fc, hfc⟩ : ∃ fc, fc = c - C / 65536 := ⟨_, rfl⟩
  obtain ⟨fd, hfd⟩ : ∃ fd, fd = d - D / 65536 := ⟨_, rfl⟩
  have hA : A = (a - fa) * 65536 := by grind
  have hB : B = (b - fb) * 65536 := by grind
  have hC : C = (c - fc) * 65536 := by grind
  have hD : D = (d - fd) * 65536 := by grind
  have za : -(1 / 65536) ≤ fa ∧ fa ≤ 1 / 65536 := by grind
  have zb : -(1 / 65536) ≤ fb ∧ fb ≤ 1 / 65536 := by grind
  have zc : -(1 / 65536) ≤ fc ∧ fc ≤ 1 / 65536 := by grind
  have zd : -(1 / 65536) ≤ fd ∧ fd ≤ 1 / 65536 := by grind
  have g1 := mul_bd ba ba' zd.1 zd.2
  have g2 := mul_bd bd bd' za.1 za.2
  have g3 := mul_bd za.1 za.2 zd.1 zd.2
  have g4 := mul_bd bb bb' zc.1 zc.2
  have g5 := mul_bd bc bc' zb.1 zb.2
  have g6 := mul_bd zb.1 zb.2 zc.1 zc.2
  rw [hA, hB, hC, hD] at hK'
  clear p1 p2 p3 p4 q1 q2 q3 q4 hfa hfb hfc hfd hA hB hC hD
  have key : (a - fa) * 65536 * ((d - fd) * 65536) - (b - fb) * 65536 * ((c - fc) * 65536) = 4294967296 * (a * d - b * c - a * fd - d * fa + fa * fd + b * fc + c * fb - fb * fc) := by grind
  rw [key] at hK'
  rcases hK' with h | h
  · left; grind
  · right; grind
end Go.Proofs.Ytonoknbangnleaa
