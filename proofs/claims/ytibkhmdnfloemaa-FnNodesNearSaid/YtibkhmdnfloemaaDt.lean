/- Products of vectors, part by part, on float64 words; the turn with which a turn makes most is itself. Nothing here speaks of the program. -/
import Derived.Test.YtibkhmdnfloemaaTm
namespace Go.Proofs.Ytibkhmdnfloemaa
open Go.RowKit Ieee

/-- The product of two vectors, part by part. -/
def dotW (z t : Nat × Nat) : Nat := ad (ml z.1 t.1) (ml z.2 t.2)
/-- A part of a vector that is no great one. -/
def Part (x : Nat) : Prop := isNum x ∧ (fval x).natAbs ≤ 134217728 * oneV
theorem rep_units (m : Nat) (hm : m ≤ 9007199254740992) : Rep ((m * oneV : Nat) : Int) := ⟨m, fixE, hm, by rw [Int.natAbs_natCast]; rfl⟩

/-- A product of two such parts. -/
theorem part_mul {x y : Nat} (hx : Part x) (hy : isNum y) (hyb : (fval y).natAbs ≤ 2 * oneV) :
    ∃ p, f64.mul x y = some p ∧ ml x y = p ∧ isNum p ∧ p < 18446744073709551616 ∧ (fval p).natAbs ≤ 268435456 * oneV ∧ NearI (fval p) (fval x * fval y) oneV := by
  have hb := oneV_bound
  have hpos : 0 < oneV := Nat.two_pow_pos _
  have hab : (fval x * fval y).natAbs ≤ 268435456 * oneV * oneV := by
    rw [Int.natAbs_mul]
    have := Nat.mul_le_mul hx.2 hyb
    rw [show 134217728 * oneV * (2 * oneV) = 268435456 * oneV * oneV by rw [← Nat.mul_assoc, Nat.mul_right_comm 134217728 oneV 2]] at this
    exact this
  obtain ⟨p, h1, h2, h3, h4⟩ := mul_op hx.1 hy (by
    rw [Nat.pow_add]
    refine Nat.lt_of_le_of_lt hab (Nat.mul_lt_mul_of_pos_right ?_ hpos)
    omega)
  have hn := h4.near hpos
  have hr := rep_units 268435456 (by omega)
  have r1 := (hn _ hr).2
  have r2 := (hn _ (rep_neg hr)).1
  rw [← Int.natCast_mul] at r1
  rw [Int.neg_mul, ← Int.natCast_mul] at r2
  have b1 := r1 (by omega)
  have b2 := r2 (by omega)
  exact ⟨p, h1, by unfold ml; rw [h1]; rfl, h2, h3, by omega, hn⟩

/-- All that a walk asks of the product of two vectors. -/
theorem dot_ok {z t : Nat × Nat} (z1 : Part z.1) (z2 : Part z.2) (t1 : isNum t.1) (t2 : isNum t.2) (b1 : (fval t.1).natAbs ≤ 2 * oneV) (b2 : (fval t.2).natAbs ≤ 2 * oneV) :
    ∃ p q, floatBits .mul .f64 z.1 t.1 = some p ∧ floatBits .mul .f64 z.2 t.2 = some q ∧ floatBits .add .f64 p q = some (dotW z t) ∧ isNum (dotW z t) ∧ dotW z t < 18446744073709551616 ∧
      NearI (fval p) (fval z.1 * fval t.1) oneV ∧ NearI (fval q) (fval z.2 * fval t.2) oneV ∧ NearI (fval (dotW z t)) (fval p + fval q) 1 := by
  have hb := oneV_bound
  obtain ⟨p, p1, p2, p3, _, p5, p6⟩ := part_mul z1 t1 b1
  obtain ⟨q, q1, q2, q3, _, q5, q6⟩ := part_mul z2 t2 b2
  obtain ⟨s, s1, s2, s3, s4⟩ := add_op p3 q3 (by omega)
  have e : dotW z t = s := by unfold dotW ad; rw [p2, q2, s1]; rfl
  rw [e]
  exact ⟨p, q, p1, q1, s1, s2, s3, p6, q6, s4.near (by omega)⟩

/-- The parts of a turn are no greater than two. -/
theorem sq_bd {X Y B : Int} (hB : 0 ≤ B) (h : X * X + Y * Y ≤ B * B) : -B ≤ X ∧ X ≤ B := by
  have hy : 0 ≤ Y * Y := by rcases Int.le_total 0 Y with h | h; exact Int.mul_nonneg h h; exact Int.mul_nonneg_of_nonpos_of_nonpos h h
  refine ⟨?_, ?_⟩
  · rcases Int.lt_or_le X (-B) with hx | hx
    · have h1 : (B + 1) * (B + 1) ≤ (-X) * (-X) := Int.mul_le_mul (by omega) (by omega) (by omega) (by omega)
      rw [Int.neg_mul_neg] at h1
      simp only [Int.mul_add, Int.add_mul] at h1
      omega
    · exact hx
  · rcases Int.lt_or_le B X with hx | hx
    · have h1 : (B + 1) * (B + 1) ≤ X * X := Int.mul_le_mul (by omega) (by omega) (by omega) (by omega)
      simp only [Int.mul_add, Int.add_mul] at h1
      omega
    · exact hx
theorem TurnIs.bd {k : Nat} {X Y : Int} (h : TurnIs k X Y) : (-2658455991569831745807614120560689152 ≤ X ∧ X ≤ 2658455991569831745807614120560689152) ∧ (-2658455991569831745807614120560689152 ≤ Y ∧ Y ≤ 2658455991569831745807614120560689152) := by
  have hi := h.hi
  have e : (2658455991569831745807614120560689152 : Int) * 2658455991569831745807614120560689152 = 7067388259113537318333190002971674063309935587502475832486424805170479104 := by decide
  exact ⟨sq_bd (B := 2658455991569831745807614120560689152) (Y := Y) (by omega) (by rw [e]; omega), sq_bd (B := 2658455991569831745807614120560689152) (X := Y) (Y := X) (by omega) (by rw [e]; omega)⟩
theorem turn_part {k : Nat} (hk : k < 360) : (isNum (trn k).1 ∧ (fval (trn k).1).natAbs ≤ 2 * oneV) ∧ (isNum (trn k).2 ∧ (fval (trn k).2).natAbs ≤ 2 * oneV) := by
  obtain ⟨n, _, _, ht⟩ := turn_at k hk
  have hg := oneV_grain
  generalize (n.1 : Int) - 5316911983139663491615228241121378304 = X at *
  generalize (n.2 : Int) - 5316911983139663491615228241121378304 = Y at *
  obtain ⟨⟨a, b⟩, c, d⟩ := ht.bd
  have key : ∀ Z : Int, -2658455991569831745807614120560689152 ≤ Z → Z ≤ 2658455991569831745807614120560689152 → (Z * (grainV : Int)).natAbs ≤ 2 * oneV := fun Z h1 h2 => by
    rw [hg, Int.natAbs_mul, Int.natAbs_natCast, ← Nat.mul_assoc]
    exact Nat.mul_le_mul_right _ (by omega)
  exact ⟨⟨ht.n1, by rw [ht.v1]; exact key X a b⟩, ht.n2, by rw [ht.v2]; exact key Y c d⟩

/-- What rounding makes of two exact products: their sum, but for a trifle. -/
theorem dot_err {X Y X' Y' : Int} {p q : Int} {g : Nat} (hg : 11972621413014756705924586149611790497021399392059392 ≤ g) (hp : NearI p ((X * (g : Int)) * (X' * (g : Int))) (1329227995784915872903807060280344576 * g)) (hq : NearI q ((Y * (g : Int)) * (Y' * (g : Int))) (1329227995784915872903807060280344576 * g))
    (b1 : -7067388259113537318333190002971674063309935587502475832486424805170479104 ≤ X * X' ∧ X * X' ≤ 7067388259113537318333190002971674063309935587502475832486424805170479104) (b2 : -7067388259113537318333190002971674063309935587502475832486424805170479104 ≤ Y * Y' ∧ Y * Y' ≤ 7067388259113537318333190002971674063309935587502475832486424805170479104) :
    4503599627370496 * ((p + q) * ((1329227995784915872903807060280344576 * g : Nat) : Int)) ≤ 4503599627370496 * ((X * X' + Y * Y') * ((g * g : Nat) : Int)) + 16 * (1766847064778384329583297500742918515827483896875618958121606201292619776 * ((g * g : Nat) : Int)) ∧
    4503599627370496 * ((X * X' + Y * Y') * ((g * g : Nat) : Int)) ≤ 4503599627370496 * ((p + q) * ((1329227995784915872903807060280344576 * g : Nat) : Int)) + 16 * (1766847064778384329583297500742918515827483896875618958121606201292619776 * ((g * g : Nat) : Int)) := by
  have hgg : 11972621413014756705924586149611790497021399392059392 * g ≤ g * g := Nat.mul_le_mul_right g hg
  have e : ∀ a b : Int, (a * (g : Int)) * (b * (g : Int)) = (a * b) * ((g * g : Nat) : Int) := fun a b => by
    rw [Int.natCast_mul, Int.mul_assoc a, Int.mul_left_comm (g : Int) b, ← Int.mul_assoc, ← Int.mul_assoc]
  rw [e] at hp hq
  have hD : 0 < 1329227995784915872903807060280344576 * g := by omega
  obtain ⟨p1, p2⟩ := near_err hp hD
  obtain ⟨q1, q2⟩ := near_err hq hD
  have bd : ∀ a : Int, -7067388259113537318333190002971674063309935587502475832486424805170479104 ≤ a ∧ a ≤ 7067388259113537318333190002971674063309935587502475832486424805170479104 → ((a * ((g * g : Nat) : Int)).natAbs : Int) ≤ 7067388259113537318333190002971674063309935587502475832486424805170479104 * ((g * g : Nat) : Int) := fun a h => by
    have : (a * ((g * g : Nat) : Int)).natAbs ≤ 7067388259113537318333190002971674063309935587502475832486424805170479104 * (g * g) := by
      rw [Int.natAbs_mul, Int.natAbs_natCast]
      exact Nat.mul_le_mul_right _ (by omega)
    omega
  have c1 := bd _ b1
  have c2 := bd _ b2
  rw [Int.add_mul p q, Int.add_mul (X * X')]
  clear e bd hp hq b1 b2 hD hg
  generalize ((X * X' * ((g * g : Nat) : Int)).natAbs : Int) = n1 at *
  generalize ((Y * Y' * ((g * g : Nat) : Int)).natAbs : Int) = n2 at *
  generalize X * X' * ((g * g : Nat) : Int) = s1 at *
  generalize Y * Y' * ((g * g : Nat) : Int) = s2 at *
  generalize p * ((1329227995784915872903807060280344576 * g : Nat) : Int) = r1 at *
  generalize q * ((1329227995784915872903807060280344576 * g : Nat) : Int) = r2 at *
  generalize g * g = gg at *
  omega

theorem mul_abs {X X' B : Int} (h1 : -B ≤ X ∧ X ≤ B) (h2 : -B ≤ X' ∧ X' ≤ B) : -(B * B) ≤ X * X' ∧ X * X' ≤ B * B := by
  have h : (X * X').natAbs ≤ (B * B).natAbs := by
    rw [Int.natAbs_mul, Int.natAbs_mul]
    exact Nat.mul_le_mul (by omega) (by omega)
  have h0 : 0 ≤ B * B := Int.mul_nonneg (by omega) (by omega)
  omega
theorem grain_big : 11972621413014756705924586149611790497021399392059392 ≤ grainV := by
  have hE := fixE_eq
  unfold grainV
  rw [show (11972621413014756705924586149611790497021399392059392 : Nat) = 2 ^ 173 from rfl]
  exact Nat.pow_le_pow_right (by omega) (by omega)
theorem oneV_parts : oneV = 131072 * 2 ^ (fixE - 17) ∧ oneV = 1048576 * 2 ^ (fixE - 20) := by
  have hE := fixE_eq
  unfold oneV
  refine ⟨?_, ?_⟩
  · rw [show (131072 : Nat) = 2 ^ 17 from rfl, ← Nat.pow_add, show 17 + (fixE - 17) = fixE by omega]
  · rw [show (1048576 : Nat) = 2 ^ 20 from rfl, ← Nat.pow_add, show 20 + (fixE - 20) = fixE by omega]

/-- The words of the product of two turns, with the exact one. -/
theorem turn_dot {k j : Nat} {X Y X' Y' : Int} (hk : k < 360) (hj : j < 360) (ht : TurnIs k X Y) (ht' : TurnIs j X' Y') : ∃ m : Int, isNum (dotW (trn k) (trn j)) ∧ NearI (fval (dotW (trn k) (trn j))) m 1 ∧
    4503599627370496 * (m * (oneV : Int)) ≤ 4503599627370496 * ((X * X' + Y * Y') * ((grainV * grainV : Nat) : Int)) + 16 * (1766847064778384329583297500742918515827483896875618958121606201292619776 * ((grainV * grainV : Nat) : Int)) ∧
    4503599627370496 * ((X * X' + Y * Y') * ((grainV * grainV : Nat) : Int)) ≤ 4503599627370496 * (m * (oneV : Int)) + 16 * (1766847064778384329583297500742918515827483896875618958121606201292619776 * ((grainV * grainV : Nat) : Int)) := by
  obtain ⟨⟨k1, k2⟩, k3, k4⟩ := turn_part hk
  obtain ⟨⟨j1, j2⟩, j3, j4⟩ := turn_part hj
  obtain ⟨p, q, _, _, _, sn, _, np, nq, ns⟩ := dot_ok (z := trn k) (t := trn j) ⟨k1, by omega⟩ ⟨k3, by omega⟩ j1 j3 j2 j4
  rw [ht.v1, ht'.v1] at np
  rw [ht.v2, ht'.v2] at nq
  rw [oneV_grain] at np nq
  have e : (2658455991569831745807614120560689152 : Int) * 2658455991569831745807614120560689152 = 7067388259113537318333190002971674063309935587502475832486424805170479104 := by decide
  have m1 := mul_abs ht.bd.1 ht'.bd.1
  have m2 := mul_abs ht.bd.2 ht'.bd.2
  rw [e] at m1 m2
  have := dot_err grain_big np nq m1 m2
  rw [← oneV_grain] at this
  exact ⟨_, sn, ns, this⟩

/-- A turn makes most with itself. -/
theorem turn_most {k j : Nat} (hk : k < 360) (hj : j < 360) (hne : k ≠ j) : isNum (dotW (trn k) (trn k)) ∧ isNum (dotW (trn k) (trn j)) ∧ fval (dotW (trn k) (trn j)) < fval (dotW (trn k) (trn k)) := by
  obtain ⟨X, Y, X', Y', ht, ht', hap⟩ := turn_apart hk hj hne
  obtain ⟨m, sn, ns, m1, _⟩ := turn_dot hk hj ht ht'
  obtain ⟨m', sn', ns', _, m2⟩ := turn_dot hk hk ht ht
  refine ⟨sn', sn, ?_⟩
  have hlo := ht.lo
  have hgr := oneV_grain
  obtain ⟨u1, u2⟩ := oneV_parts
  have hpos : 0 < oneV := Nat.two_pow_pos _
  have hpi : (0 : Int) < (oneV : Int) := by omega
  have huu : oneV * oneV = 1766847064778384329583297500742918515827483896875618958121606201292619776 * (grainV * grainV) := by
    rw [hgr, Nat.mul_mul_mul_comm]
  -- the other one is at most a little less than one
  have hm : m ≤ ((131071 * 2 ^ (fixE - 17) : Nat) : Int) := by
    refine Int.le_of_mul_le_mul_right ?_ hpi
    have h1 : 2 * (X * X' + Y * Y') * ((grainV * grainV : Nat) : Int) ≤ 3533586289799024939871582617519355412436067144868638224222639136996065280 * ((grainV * grainV : Nat) : Int) := Int.mul_le_mul_of_nonneg_right hap (by omega)
    rw [Int.mul_assoc] at h1
    have h2 : 131072 * (2 ^ (fixE - 17) * oneV) = oneV * oneV := by rw [← Nat.mul_assoc, ← u1]
    rw [huu] at h2
    rw [← Int.natCast_mul, Nat.mul_assoc]
    clear hap hlo ns ns' m2 u1 u2 hgr huu
    generalize (X * X' + Y * Y') * ((grainV * grainV : Nat) : Int) = s at *
    generalize m * (oneV : Int) = r at *
    generalize 2 ^ (fixE - 17) * oneV = v at *
    generalize grainV * grainV = gg at *
    omega
  have hm' : ((1048575 * 2 ^ (fixE - 20) : Nat) : Int) ≤ m' := by
    refine Int.le_of_mul_le_mul_right ?_ hpi
    have h1 : (1766847064778384329583297500742918515827483896875618958121606201292619776 - 1606938044258990275541962092341162602522202993782792835301376) * ((grainV * grainV : Nat) : Int) ≤ (X * X + Y * Y) * ((grainV * grainV : Nat) : Int) := Int.mul_le_mul_of_nonneg_right hlo (by omega)
    have h2 : 1048576 * (2 ^ (fixE - 20) * oneV) = oneV * oneV := by rw [← Nat.mul_assoc, ← u2]
    rw [huu] at h2
    rw [← Int.natCast_mul, Nat.mul_assoc]
    clear hap hlo ns ns' m1 u1 u2 hgr huu
    generalize (X * X + Y * Y) * ((grainV * grainV : Nat) : Int) = s at *
    generalize m' * (oneV : Int) = r at *
    generalize 2 ^ (fixE - 20) * oneV = v at *
    generalize grainV * grainV = gg at *
    omega
  have a1 := (ns _ (rep_nat (q := 131071) (k := fixE - 17) (by omega))).2 (by omega)
  have a2 := (ns' _ (rep_nat (q := 1048575) (k := fixE - 20) (by omega))).1 (by omega)
  have hp20 : 0 < 2 ^ (fixE - 20) := Nat.two_pow_pos _
  have e17 : 131072 * 2 ^ (fixE - 17) = 1048576 * 2 ^ (fixE - 20) := by rw [← u1, ← u2]
  generalize 2 ^ (fixE - 17) = w1 at *
  generalize 2 ^ (fixE - 20) = w2 at *
  omega
end Go.Proofs.Ytibkhmdnfloemaa
