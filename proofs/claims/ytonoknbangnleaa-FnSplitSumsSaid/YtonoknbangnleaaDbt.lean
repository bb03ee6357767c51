/- Twice a vector has the bearing of the vector: on float64 words. The squares of a vector, and what a length asks of it. Nothing here speaks of the program. -/
import Derived.Test.YtonoknbangnleaaDbl
import Derived.Test.YtonoknbangnleaaBrW
namespace Go.Proofs.Ytonoknbangnleaa
open Go.RowKit Ieee

theorem tab_parts : tabN.tail.all (fun n => Nat.ble 295147905179352825856 (dst n.1 5316911983139663491615228241121378304) && Nat.ble 295147905179352825856 (dst n.2 5316911983139663491615228241121378304)) = true := by kernel_rfl
noncomputable def bigV : Nat := 2 ^ (fixE - 22)
noncomputable def cutV : Nat := 2 ^ (fixE - 52)
theorem cutV_grain : cutV = 295147905179352825856 * grainV := by
  have hE := fixE_eq
  unfold cutV grainV
  rw [show (295147905179352825856 : Nat) = 2 ^ 68 from rfl, ← Nat.pow_add]
  exact congrArg (fun z => 2 ^ z) (by omega)
theorem big_cut : 1298074214633706907132624082305024 * oneV ≤ bigV * cutV ∧ 4503599627370496 * oneV ≤ bigV * cutV := by
  have hE := fixE_eq
  unfold bigV cutV oneV
  rw [show (1298074214633706907132624082305024 : Nat) = 2 ^ 110 from rfl, show (4503599627370496 : Nat) = 2 ^ 52 from rfl, ← Nat.pow_add, ← Nat.pow_add, ← Nat.pow_add]
  exact ⟨Nat.pow_le_pow_right (by omega) (by omega), Nat.pow_le_pow_right (by omega) (by omega)⟩
/-- No part of a turn by a degree or more is a trifle. -/
theorem turn_cut {k : Nat} (hk : k < 360) (h0 : 0 < k) : cutV ≤ (fval (trn k).1).natAbs ∧ cutV ≤ (fval (trn k).2).natAbs := by
  obtain ⟨n, hn, _, ht⟩ := turn_at k hk
  have hm : n ∈ tabN.tail := by
    obtain ⟨j, rfl⟩ : ∃ j, k = j + 1 := ⟨k - 1, by omega⟩
    have h2 : tabN.tail[j]? = some n := by rw [List.getElem?_tail]; exact hn
    exact List.mem_of_getElem? h2
  have hc := List.all_eq_true.1 tab_parts n hm
  simp only [Bool.and_eq_true] at hc
  have c1 := Nat.le_of_ble_eq_true hc.1
  have c2 := Nat.le_of_ble_eq_true hc.2
  have key : ∀ m : Nat, 295147905179352825856 ≤ dst m 5316911983139663491615228241121378304 → cutV ≤ (((m : Int) - 5316911983139663491615228241121378304) * (grainV : Int)).natAbs := fun m h => by
    rw [cutV_grain, Int.natAbs_mul, Int.natAbs_natCast]
    refine Nat.mul_le_mul_right _ ?_
    unfold dst at h
    omega
  exact ⟨by rw [ht.v1]; exact key _ c1, by rw [ht.v2]; exact key _ c2⟩

/-- What a vector makes with the turn by 0: its first part. -/
theorem dot_nought {z : Nat × Nat} (h1 : okP z.1) (h2 : okP z.2) : isNum (dotW z (trn 0)) ∧ fval (dotW z (trn 0)) = fval z.1 := by
  obtain ⟨⟨k1, k2⟩, k3, k4⟩ := turn_part (k := 0) (by omega)
  obtain ⟨p, q, _, _, _, sn, _, np, nq, ns⟩ := dot_ok h1.part h2.part k1 k3 k2 k4
  refine ⟨sn, ?_⟩
  rw [show (trn 0).1 = 4607182418800017408 from rfl, one_val] at np
  rw [show (trn 0).2 = 0 from rfl, nought_val, Int.mul_zero, show (0 : Int) = 0 * ((oneV : Nat) : Int) by rw [Int.zero_mul]] at nq
  have ep := np.exact (rep_num h1.1)
  have eq := nq.exact rep_zero
  rw [ep, eq, Int.add_zero, show fval z.1 = fval z.1 * ((1 : Nat) : Int) by omega] at ns
  exact ns.exact (rep_num h1.1)

/-- Twice a vector that is no trifle. -/
structure Twice (z y : Nat × Nat) : Prop where
  z1 : okP z.1
  z2 : okP z.2
  y1 : okP y.1
  y2 : okP y.2
  e1 : fval y.1 = 2 * fval z.1
  e2 : fval y.2 = 2 * fval z.2
  big : bigV ≤ (fval z.1).natAbs ∨ bigV ≤ (fval z.2).natAbs

theorem prod_bound {x y : Nat} (hx : okP x) (hy : (fval y).natAbs ≤ 2 * oneV) : (fval x * fval y).natAbs < 2 ^ (fixB + fixE) := by
  have hb := oneV_bound
  rw [Int.natAbs_mul, Nat.pow_add]
  have := Nat.mul_le_mul hx.2 hy
  refine Nat.lt_of_le_of_lt this ?_
  rw [show 100000000 * oneV * (2 * oneV) = 200000000 * oneV * oneV by rw [← Nat.mul_assoc, Nat.mul_right_comm 100000000 oneV 2]]
  exact Nat.mul_lt_mul_of_pos_right (by omega) (Nat.two_pow_pos _)

theorem dot_dbl {z y : Nat × Nat} (h : Twice z y) (k : Nat) (hk : k < 360) : isNum (dotW z (trn k)) ∧ isNum (dotW y (trn k)) ∧ fval (dotW y (trn k)) = 2 * fval (dotW z (trn k)) := by
  rcases Nat.eq_zero_or_pos k with rfl | h0
  · obtain ⟨a1, a2⟩ := dot_nought h.z1 h.z2
    obtain ⟨b1, b2⟩ := dot_nought h.y1 h.y2
    exact ⟨a1, b1, by rw [a2, b2, h.e1]⟩
  · obtain ⟨⟨k1, k2⟩, k3, k4⟩ := turn_part hk
    obtain ⟨c1, c2⟩ := turn_cut hk h0
    obtain ⟨p, q, m1, m2, m3, sn, _, np, nq, _⟩ := dot_ok h.z1.part h.z2.part k1 k3 k2 k4
    obtain ⟨p2, q2, n1, n2, n3, sn2, _, np2, nq2, _⟩ := dot_ok h.y1.part h.y2.part k1 k3 k2 k4
    refine ⟨sn, sn2, ?_⟩
    obtain ⟨B1, B2⟩ := big_cut
    have hb := oneV_bound
    have g110 : Rep ((1298074214633706907132624082305024 : Nat) : Int) := ⟨1, 110, by omega, by rw [Int.natAbs_natCast]⟩
    obtain ⟨p', m1', _, pn, _, pb, _⟩ := part_mul h.z1.part k1 k2
    obtain ⟨q', m2', _, qn, _, qb, _⟩ := part_mul h.z2.part k3 k4
    obtain ⟨p2', n1', _, pn2, _, pb2, _⟩ := part_mul h.y1.part k1 k2
    obtain ⟨q2', n2', _, qn2, _, qb2, _⟩ := part_mul h.y2.part k3 k4
    have x1 : p' = p := by have := m1.symm.trans m1'; injection this with this; exact this.symm
    have x2 : q' = q := by have := m2.symm.trans m2'; injection this with this; exact this.symm
    have x3 : p2' = p2 := by have := n1.symm.trans n1'; injection this with this; exact this.symm
    have x4 : q2' = q2 := by have := n2.symm.trans n2'; injection this with this; exact this.symm
    subst x1; subst x2; subst x3; subst x4
    refine sum_dbl pn qn pn2 qn2 (by omega) (by omega) m3 n3 ?_
    have A := mul_dbl h.z1.1 h.y1.1 k1 h.e1 (prod_bound h.z1 k2) (prod_bound h.y1 k2) m1 n1
    have B := mul_dbl h.z2.1 h.y2.1 k3 h.e2 (prod_bound h.z2 k4) (prod_bound h.y2 k4) m2 n2
    have hcut : 0 < cutV := Nat.two_pow_pos _
    have small : ∀ u c : Int, cutV ≤ c.natAbs → (u * c).natAbs < 4503599627370496 * oneV → u.natAbs < bigV := fun u c hc hlt => by
      rcases Nat.lt_or_ge u.natAbs bigV with h | h
      · exact h
      · have := Nat.mul_le_mul h hc
        rw [← Int.natAbs_mul] at this
        omega
    have great : ∀ u c : Int, cutV ≤ c.natAbs → bigV ≤ u.natAbs → bigV * cutV ≤ (u * c).natAbs := fun u c hc hu => by
      rw [Int.natAbs_mul]; exact Nat.mul_le_mul hu hc
    have hbig0 : 0 < bigV * cutV := Nat.mul_pos (Nat.two_pow_pos _) hcut
    rcases A with ⟨A1, A2⟩ | ⟨A0, A1, A2, A3⟩
    · rcases B with ⟨C1, C2⟩ | ⟨C0, C1, C2, C3⟩
      · exact .inl ⟨A1, C1⟩
      · have hs := small _ _ c2 C1
        have hg : bigV ≤ (fval z.1).natAbs := by rcases h.big with h | h <;> omega
        have hgr := great _ _ c1 hg
        exact .inr (.inr ⟨C2, C3, A1, A2 (by omega) _ g110 (by omega)⟩)
    · have hs := small _ _ c1 A1
      have hg : bigV ≤ (fval z.2).natAbs := by rcases h.big with h | h <;> omega
      have hgr := great _ _ c2 hg
      rcases B with ⟨C1, C2⟩ | ⟨C0, C1, C2, C3⟩
      · exact .inr (.inl ⟨A2, A3, C1, C2 (by omega) _ g110 (by omega)⟩)
      · have := small _ _ c2 C1
        omega

/-- The best turns of both. -/
theorem bst_dbl {z y : Nat × Nat} (h : Twice z y) (k : Nat) (hk : k < 360) : (bst y k).1 = (bst z k).1 ∧ isNum (bst z k).2 ∧ isNum (bst y k).2 ∧ fval (bst y k).2 = 2 * fval (bst z k).2 := by
  induction k with
  | zero =>
    obtain ⟨a, b, c⟩ := dot_dbl h 0 (by omega)
    exact ⟨rfl, a, b, c⟩
  | succ k ih =>
    obtain ⟨i1, i2, i3, i4⟩ := ih (by omega)
    obtain ⟨a, b, c⟩ := dot_dbl h (k + 1) hk
    have ho : f64.order (dotW y (trn (k + 1))) (bst y k).2 = f64.order (dotW z (trn (k + 1))) (bst z k).2 := by
      rw [order_val b i3, order_val a i2, c, i4]
      have := compare_scale (fval (dotW z (trn (k + 1)))) (fval (bst z k).2) 2 (by omega)
      rw [← this]
      congr 2 <;> omega
    by_cases hgt : f64.order (dotW z (trn (k + 1))) (bst z k).2 = some .gt
    · have e1 : bst z (k + 1) = (k + 1, dotW z (trn (k + 1))) := by rw [bst.eq_def]; simp only; rw [if_pos hgt]
      have e2 : bst y (k + 1) = (k + 1, dotW y (trn (k + 1))) := by rw [bst.eq_def]; simp only; rw [if_pos (ho.trans hgt)]
      rw [e1, e2]
      exact ⟨rfl, a, b, c⟩
    · have e1 : bst z (k + 1) = bst z k := by rw [bst.eq_def]; simp only; rw [if_neg hgt]
      have e2 : bst y (k + 1) = bst y k := by rw [bst.eq_def]; simp only; rw [if_neg (fun e => hgt (ho.symm.trans e))]
      rw [e1, e2]
      exact ⟨i1, i2, i3, i4⟩

/-- The squares of a valid vector, summed. -/
theorem sq_ok {z : Nat × Nat} (h1 : okP z.1) (h2 : okP z.2) : ∃ p q, floatBits .mul .f64 z.1 z.1 = some p ∧ floatBits .mul .f64 z.2 z.2 = some q ∧ floatBits .add .f64 p q = some (dotW z z) ∧ isNum (dotW z z) ∧ dotW z z < 18446744073709551616 ∧
    NearI (fval p) (fval z.1 * fval z.1) oneV ∧ NearI (fval q) (fval z.2 * fval z.2) oneV ∧ NearI (fval (dotW z z)) (fval p + fval q) 1 ∧ 0 ≤ fval p ∧ 0 ≤ fval q := by
  have hb := oneV_bound
  have hpos : 0 < oneV := Nat.two_pow_pos _
  have part : ∀ x : Nat, okP x → ∃ p, f64.mul x x = some p ∧ ml x x = p ∧ isNum p ∧ 0 ≤ fval p ∧ fval p ≤ ((1 * 2 ^ (fixE + 54) : Nat) : Int) ∧ NearI (fval p) (fval x * fval x) oneV := fun x hx => by
    have hab : (fval x * fval x).natAbs ≤ 10000000000000000 * oneV * oneV := by
      rw [Int.natAbs_mul]
      have := Nat.mul_le_mul hx.2 hx.2
      rw [show 100000000 * oneV * (100000000 * oneV) = 10000000000000000 * oneV * oneV by rw [← Nat.mul_assoc, Nat.mul_right_comm 100000000 oneV 100000000]] at this
      exact this
    obtain ⟨p, a1, a2, _, a4⟩ := mul_op hx.1 hx.1 (by
      rw [Nat.pow_add]
      exact Nat.lt_of_le_of_lt hab (Nat.mul_lt_mul_of_pos_right (by omega) hpos))
    have hn := a4.near hpos
    have hnn : 0 ≤ fval x * fval x := by
      rcases Int.le_total 0 (fval x) with h | h
      · exact Int.mul_nonneg h h
      · exact Int.mul_nonneg_of_nonpos_of_nonpos h h
    refine ⟨p, a1, by unfold ml; rw [a1]; rfl, a2, (hn 0 rep_zero).1 (by omega), (hn _ (rep_nat (q := 1) (k := fixE + 54) (by omega))).2 ?_, hn⟩
    rw [← Int.natCast_mul]
    have e54 : 1 * 2 ^ (fixE + 54) * oneV = 18014398509481984 * oneV * oneV := by
      rw [Nat.one_mul, Nat.pow_add, Nat.mul_comm (2 ^ fixE)]; rfl
    rw [e54]
    have : 10000000000000000 * oneV * oneV ≤ 18014398509481984 * oneV * oneV := Nat.mul_le_mul_right _ (Nat.mul_le_mul_right _ (by omega))
    omega
  obtain ⟨p, p1, p2, p3, p4, p5, p6⟩ := part _ h1
  obtain ⟨q, q1, q2, q3, q4, q5, q6⟩ := part _ h2
  have e54 : 1 * 2 ^ (fixE + 54) = 18014398509481984 * oneV := by
    rw [Nat.one_mul, Nat.pow_add, Nat.mul_comm (2 ^ fixE)]; rfl
  rw [e54] at p5 q5
  obtain ⟨s, s1, s2, s3, s4⟩ := add_op p3 q3 (by omega)
  have e : dotW z z = s := by unfold dotW ad; rw [p2, q2, s1]; rfl
  rw [e]
  exact ⟨p, q, p1, q1, s1, s2, s3, p6, q6, s4.near (by omega), p4, q4⟩
/-- A vector that has a length is no trifle. -/
theorem len_big {z : Nat × Nat} (h1 : okP z.1) (h2 : okP z.2) (h : inR (dotW z z)) : bigV ≤ (fval z.1).natAbs ∨ bigV ≤ (fval z.2).natAbs := by
  have hE := fixE_eq
  obtain ⟨p, q, _, _, _, _, _, np, nq, ns, _, _⟩ := sq_ok h1 h2
  obtain ⟨b0, _⟩ := inR_bd h
  rcases Nat.lt_or_ge (fval z.1).natAbs bigV with g1 | g1
  · rcases Nat.lt_or_ge (fval z.2).natAbs bigV with g2 | g2
    · exfalso
      have hbb : bigV * bigV = 1 * 2 ^ (fixE - 44) * oneV := by
        unfold bigV oneV
        rw [Nat.one_mul, ← Nat.pow_add, ← Nat.pow_add]
        exact congrArg (fun z => 2 ^ z) (by omega)
      have sq : ∀ x : Int, x.natAbs < bigV → x * x ≤ ((1 * 2 ^ (fixE - 44) : Nat) : Int) * (oneV : Int) := fun x hx => by
        rw [← Int.natCast_mul, ← hbb]
        have : (x * x).natAbs ≤ bigV * bigV := by rw [Int.natAbs_mul]; exact Nat.mul_le_mul (by omega) (by omega)
        omega
      have u1 := (np _ (rep_nat (q := 1) (k := fixE - 44) (by omega))).2 (sq _ g1)
      have u2 := (nq _ (rep_nat (q := 1) (k := fixE - 44) (by omega))).2 (sq _ g2)
      have u3 := (ns _ (rep_nat (q := 2) (k := fixE - 44) (by omega))).2 (by omega)
      have hl : lowV = 8 * 2 ^ (fixE - 44) := by
        unfold lowV
        rw [show (8 : Nat) = 2 ^ 3 from rfl, ← Nat.pow_add]
        exact congrArg (fun z => 2 ^ z) (by omega)
      have hp : 0 < 2 ^ (fixE - 44) := Nat.two_pow_pos _
      rw [hl] at b0
      generalize 2 ^ (fixE - 44) = y at *
      omega
    · exact .inr g2
  · exact .inl g1
end Go.Proofs.Ytonoknbangnleaa
