/- One text out of: NgS, Dbl, Dbt, LnW, VbW. -/
import Derived.Test.YtonoknbangnleaaGreatWZ
import Derived.Test.YtonoknbangnleaaGreatBrW
import Derived.Test.YtonoknbangnleaaGreatMZ
import Derived.Test.YtonoknbangnleaaGreatTZ
import Derived.Test.YtonoknbangnleaaGreatDrW
/- The sign of a float32 turned; the widened wind with its signs turned. -/
namespace Go.Proofs.YtonoknbangnleaaGreat
open Go.RowKit Ieee

theorem xor_top {r : Nat} (h : r < 2147483648) : r ^^^ 2147483648 = r + 2147483648 := by
  have hlt : r < 2 ^ 31 := h
  show r ^^^ 2 ^ 31 = r + 2 ^ 31
  rw [Nat.add_comm]
  have hor : 2 ^ 31 + r = 2 ^ 31 ||| r := by
    have := Nat.two_pow_add_eq_or_of_lt hlt 1
    simpa using this
  rw [hor]
  apply Nat.eq_of_testBit_eq
  intro i
  rw [Nat.testBit_xor, Nat.testBit_or, Nat.testBit_two_pow]
  by_cases hi : 31 = i
  · subst hi
    rw [Nat.testBit_lt_two_pow hlt]; rfl
  · simp [hi]
theorem xor_back {r : Nat} (h : r < 2147483648) : (r + 2147483648) ^^^ 2147483648 = r := by
  rw [← xor_top h, Nat.xor_assoc, Nat.xor_self, Nat.xor_zero]
/-- A number with its sign turned. -/
theorem neg_num {x : Nat} (hx : x < 4294967296) (h : S.isNum x) : Op.negFloat .f32 x < 4294967296 ∧ S.isNum (Op.negFloat .f32 x) ∧ S.fval (Op.negFloat .f32 x) = -S.fval x := by
  have hy : ∃ y, Op.negFloat .f32 x = y ∧ y < 4294967296 ∧ S.rung y = S.rung x ∧ S.sneg y = !S.sneg x := by
    rcases Nat.lt_or_ge x 2147483648 with hl | hl
    · refine ⟨x + 2147483648, xor_top hl, by omega, by unfold S.rung; omega, ?_⟩
      unfold S.sneg
      rw [show (x + 2147483648) / 2147483648 = 1 by omega, show x / 2147483648 = 0 by omega]; rfl
    · obtain ⟨r, rfl⟩ : ∃ r, x = r + 2147483648 := ⟨x - 2147483648, by omega⟩
      refine ⟨r, xor_back (by omega), by omega, by unfold S.rung; omega, ?_⟩
      unfold S.sneg
      rw [show (r + 2147483648) / 2147483648 = 1 by omega, show r / 2147483648 = 0 by omega]; rfl
  obtain ⟨y, e, yl, hr, hs⟩ := hy
  rw [e]
  have hE := S.expo_of_num hx h
  have he : S.expo y = S.expo x := by rw [S.expo_rung y yl, S.expo_rung x hx, hr]
  obtain ⟨M, P, h1, h2, h3⟩ := S.num_form x hx hE
  obtain ⟨M', P', h1', h2', h3'⟩ := S.num_form y yl (by rw [he]; exact hE)
  rw [he, hr] at h3'
  obtain ⟨rfl, rfl⟩ : M' = M ∧ P' = P := by omega
  refine ⟨yl, S.isNum_of h1', ?_⟩
  unfold S.fval
  rw [h1, h1', hs]
  show signed (!S.sneg x) M' (-149 + (P' : Int) + 149).toNat = -signed (S.sneg x) M' (-149 + (P' : Int) + 149).toNat
  rw [signed_eq, signed_eq]
  cases S.sneg x <;> simp

/-- A wind, widened, with its signs turned. -/
def wnd (a b : Nat) : Nat × Nat := (wid (Op.negFloat .f32 a), wid (Op.negFloat .f32 b))
theorem part_okP {a : Nat} (ha : a < 4294967296) (h : S.okP a) : okP (wid (Op.negFloat .f32 a)) ∧ (f64.order (wid (Op.negFloat .f32 a)) 0 == some .eq) = (FloatKind.f32.format.order a 0 == some .eq) := by
  obtain ⟨n1, n2, n3⟩ := neg_num ha h.1
  obtain ⟨_, w2, w3⟩ := wid_num n1 n2
  have hb := (okP_wid n1 n2).2 (by rw [n3, Int.natAbs_neg]; exact h.2)
  refine ⟨⟨w2, by omega⟩, ?_⟩
  rw [order_val w2 (isNum_of nought_num), nought_val, w3, n3]
  rw [show FloatKind.f32.format.order a 0 = some (compare (S.fval a) (S.fval 0)) from S.order_val h.1 (S.isNum_of S.nought_num), S.nought_val]
  generalize S.fval a = v
  have hw := widV_pos
  generalize widV = c at *
  have hc : (0 : Int) < (c : Int) := by omega
  rcases Int.lt_trichotomy v 0 with hv | hv | hv
  · have : 0 < -v * (c : Int) := Int.mul_pos (by omega) hc
    rw [Int.compare_eq_gt.2 this, Int.compare_eq_lt.2 hv]; rfl
  · subst hv; simp
  · have : -v * (c : Int) < 0 := Int.mul_neg_of_neg_of_pos (by omega) hc
    rw [Int.compare_eq_lt.2 this, Int.compare_eq_gt.2 hv]; rfl
theorem wnd_points {a b : Nat} (h : okV a b) : Points (wnd a b) ↔ (FloatKind.f32.format.order a 0 == some .eq && FloatKind.f32.format.order b 0 == some .eq) = false := by
  obtain ⟨⟨ha, hb⟩, h1, h2⟩ := h
  obtain ⟨p1, q1⟩ := part_okP ha h1
  obtain ⟨p2, q2⟩ := part_okP hb h2
  unfold Points
  rw [show (wnd a b).1 = wid (Op.negFloat .f32 a) from rfl, show (wnd a b).2 = wid (Op.negFloat .f32 b) from rfl, q1, q2]
  exact ⟨fun h => h.2.2, fun h => ⟨p1, p2, h⟩⟩
theorem wnd_conv {a b : Nat} (h : okV a b) : cConvBits .f32 (Op.negFloat .f32 a) (Op.negFloat .f32 b) .f64 = some (wnd a b) := by
  obtain ⟨⟨ha, hb⟩, h1, h2⟩ := h
  obtain ⟨n1, n2, _⟩ := neg_num ha h1.1
  obtain ⟨m1, m2, _⟩ := neg_num hb h2.1
  unfold cConvBits
  rw [(wid_num n1 n2).1, (wid_num m1 m2).1]; rfl
end Go.Proofs.YtonoknbangnleaaGreat

/- Twice a vector makes twice as much with each turn. Nothing here speaks of the program. -/
namespace Go.Proofs.YtonoknbangnleaaGreat
open Go.RowKit Ieee

theorem rep_zero : Rep 0 := ⟨0, 0, by omega, by simp⟩
theorem add_full {x y : Nat} (hx : isNum x) (hy : isNum y) (hb : (fval x + fval y).natAbs < 2 ^ fixB) {r : Nat} (h : f64.add x y = some r) :
    isNum r ∧ (fval x + fval y = 0 → fval r = 0) ∧ (0 < fval x + fval y → fval r = (rE (fval x + fval y).natAbs 0 : Nat)) ∧ (fval x + fval y < 0 → fval r = -((rE (fval x + fval y).natAbs 0 : Nat) : Int)) := by
  obtain ⟨r', h1, h2, _, h4⟩ := add_op hx hy hb
  have e : r' = r := by rw [h] at h1; injection h1 with h1; exact h1.symm
  subst e
  have hs := h4.side
  have hn := h4.near (by omega)
  refine ⟨h2, fun h0 => ?_, fun h0 => ?_, fun h0 => ?_⟩
  · rw [h0] at hn
    have := hn 0 rep_zero
    have a := this.1 (by omega)
    have b := this.2 (by omega)
    omega
  · have := add_val hx hy hb (by omega) h
    rcases hs.1 (by omega) with h | h <;> omega
  · have := add_val hx hy hb (by omega) h
    rcases hs.2 (by omega) with h | h <;> omega
theorem mul_full {x y : Nat} (hx : isNum x) (hy : isNum y) (hb : (fval x * fval y).natAbs < 2 ^ (fixB + fixE)) {r : Nat} (h : f64.mul x y = some r) :
    isNum r ∧ (fval x * fval y = 0 → fval r = 0) ∧ (0 < fval x * fval y → fval r = (rE (fval x * fval y).natAbs fixE : Nat)) ∧ (fval x * fval y < 0 → fval r = -((rE (fval x * fval y).natAbs fixE : Nat) : Int)) := by
  obtain ⟨r', h1, h2, _, h4⟩ := mul_op hx hy hb
  have e : r' = r := by rw [h] at h1; injection h1 with h1; exact h1.symm
  subst e
  have hs := h4.side
  have hn := h4.near (Nat.two_pow_pos _)
  refine ⟨h2, fun h0 => ?_, fun h0 => ?_, fun h0 => ?_⟩
  · rw [h0] at hn
    have := hn 0 rep_zero
    have a := this.1 (by omega)
    have b := this.2 (by omega)
    omega
  · have := mul_val hx hy hb (by omega) h
    rcases hs.1 (by omega) with h | h <;> omega
  · have := mul_val hx hy hb (by omega) h
    rcases hs.2 (by omega) with h | h <;> omega

/-- A sum of twice as much, or of twice a great number and a trifle. -/
theorem sum_dbl {p q p2 q2 s s2 : Nat} (hp : isNum p) (hq : isNum q) (hp2 : isNum p2) (hq2 : isNum q2) (b1 : (fval p + fval q).natAbs < 2 ^ fixB) (b2 : (fval p2 + fval q2).natAbs < 2 ^ fixB)
    (h : f64.add p q = some s) (h2 : f64.add p2 q2 = some s2)
    (H : (fval p2 = 2 * fval p ∧ fval q2 = 2 * fval q) ∨ ((fval p).natAbs ≤ 9007199254740992 ∧ (fval p2).natAbs ≤ 9007199254740992 ∧ fval q2 = 2 * fval q ∧ 1298074214633706907132624082305024 ≤ (fval q).natAbs) ∨
      ((fval q).natAbs ≤ 9007199254740992 ∧ (fval q2).natAbs ≤ 9007199254740992 ∧ fval p2 = 2 * fval p ∧ 1298074214633706907132624082305024 ≤ (fval p).natAbs)) : fval s2 = 2 * fval s := by
  obtain ⟨_, z1, z2, z3⟩ := add_full hp hq b1 h
  obtain ⟨_, y1, y2, y3⟩ := add_full hp2 hq2 b2 h2
  clear b1 b2 h h2
  have hrq : Rep ((((fval q).natAbs : Nat) : Int)) := by
    obtain ⟨a, k, h1, h2⟩ := rep_num hq
    exact ⟨a, k, h1, by rw [Int.natAbs_natCast]; exact h2⟩
  have hrp : Rep ((((fval p).natAbs : Nat) : Int)) := by
    obtain ⟨a, k, h1, h2⟩ := rep_num hp
    exact ⟨a, k, h1, by rw [Int.natAbs_natCast]; exact h2⟩
  have two : ∀ a : Nat, Rep (a : Int) → Rep ((2 * a : Nat) : Int) := fun a h => by
    have := rep_two h
    rw [show ((2 * a : Nat) : Int) = 2 * (a : Int) by omega]; exact this
  have gen : ∀ u v u2 v2 : Int, u.natAbs ≤ 9007199254740992 → u2.natAbs ≤ 9007199254740992 → v2 = 2 * v → 1298074214633706907132624082305024 ≤ v.natAbs → Rep (((v.natAbs : Nat) : Int)) →
      rE (u + v).natAbs 0 = v.natAbs ∧ rE (u2 + v2).natAbs 0 = 2 * v.natAbs := fun u v u2 v2 a1 a2 a3 a4 hr =>
    ⟨rE_trifle hr a4 (by omega) (by omega), rE_trifle (two _ hr) (by omega) (by omega) (by omega)⟩
  rcases H with ⟨e1, e2⟩ | ⟨a1, a2, a3, a4⟩ | ⟨a1, a2, a3, a4⟩
  · have e : fval p2 + fval q2 = 2 * (fval p + fval q) := by omega
    rw [e] at y1 y2 y3
    have en : (2 * (fval p + fval q)).natAbs = 2 * (fval p + fval q).natAbs := by omega
    rw [en, rE_twice] at y2 y3
    rcases Int.lt_trichotomy (fval p + fval q) 0 with h | h | h
    · have := y3 (by omega); have := z3 h; omega
    · have := y1 (by omega); have := z1 h; omega
    · have := y2 (by omega); have := z2 h; omega
  · obtain ⟨g1, g2⟩ := gen _ _ _ _ a1 a2 a3 a4 hrq
    rw [g1] at z2 z3
    rw [g2] at y2 y3
    rcases Int.lt_or_le (fval q) 0 with h | h
    · have := y3 (by omega); have := z3 (by omega); omega
    · have := y2 (by omega); have := z2 (by omega); omega
  · obtain ⟨g1, g2⟩ := gen _ _ _ _ a1 a2 a3 a4 hrp
    rw [Int.add_comm] at g1 g2
    rw [g1] at z2 z3
    rw [g2] at y2 y3
    rcases Int.lt_or_le (fval p) 0 with h | h
    · have := y3 (by omega); have := z3 (by omega); omega
    · have := y2 (by omega); have := z2 (by omega); omega

/-- A product with twice as much: twice as much, or both are trifles. -/
theorem mul_dbl {a a2 c p p2 : Nat} (ha : isNum a) (ha2 : isNum a2) (hc : isNum c) (he : fval a2 = 2 * fval a) (b1 : (fval a * fval c).natAbs < 2 ^ (fixB + fixE)) (b2 : (fval a2 * fval c).natAbs < 2 ^ (fixB + fixE))
    (h : f64.mul a c = some p) (h2 : f64.mul a2 c = some p2) :
    (fval p2 = 2 * fval p ∧ (fval a * fval c ≠ 0 → ∀ g, Rep ((g : Nat) : Int) → g * oneV ≤ (fval a * fval c).natAbs → g ≤ (fval p).natAbs)) ∨ (fval a ≠ 0 ∧ (fval a * fval c).natAbs < 4503599627370496 * oneV ∧ (fval p).natAbs ≤ 9007199254740992 ∧ (fval p2).natAbs ≤ 9007199254740992) := by
  have hpos : 0 < oneV := Nat.two_pow_pos _
  obtain ⟨pn, z1, z2, z3⟩ := mul_full ha hc b1 h
  obtain ⟨p2n, y1, y2, y3⟩ := mul_full ha2 hc b2 h2
  obtain ⟨r', k1, _, _, k4⟩ := mul_op ha hc b1
  have er : r' = p := by rw [h] at k1; injection k1 with k1; exact k1.symm
  subst er
  have near := k4.near hpos
  obtain ⟨r2, k21, _, _, k24⟩ := mul_op ha2 hc b2
  have er2 : r2 = p2 := by rw [h2] at k21; injection k21 with k21; exact k21.symm
  subst er2
  have near2 := k24.near hpos
  have eN : fval r2 = fval r2 := rfl
  have e : fval a2 * fval c = 2 * (fval a * fval c) := by rw [he, Int.mul_assoc]
  rw [e] at y1 y2 y3 near2
  have lower : ∀ g, Rep ((g : Nat) : Int) → g * oneV ≤ (fval a * fval c).natAbs → g ≤ (fval r').natAbs := fun g hg hle => by
    have e0 : ((g * oneV : Nat) : Int) = (g : Int) * (oneV : Int) := Int.natCast_mul _ _
    rcases Int.lt_or_le (fval a * fval c) 0 with h | h
    · have := (near _ (rep_neg hg)).2 (by rw [Int.neg_mul, ← e0]; omega)
      omega
    · have := (near _ hg).1 (by rw [← e0]; omega)
      omega
  rcases Nat.lt_or_ge (fval a * fval c).natAbs (4503599627370496 * oneV) with hlt | hge
  · by_cases h0 : fval a * fval c = 0
    · left
      refine ⟨?_, fun h => absurd h0 h⟩
      have := z1 h0
      have := y1 (by omega)
      omega
    · right
      have hr : Rep ((4503599627370496 : Nat) : Int) := ⟨4503599627370496, 0, by omega, by simp⟩
      have hr2 : Rep ((9007199254740992 : Nat) : Int) := ⟨9007199254740992, 0, by omega, by simp⟩
      have up : (fval r').natAbs ≤ 4503599627370496 := by
        have u1 := (near _ hr).2
        have u2 := (near _ (rep_neg hr)).1
        rw [← Int.natCast_mul] at u1
        rw [Int.neg_mul, ← Int.natCast_mul] at u2
        have := u1 (by omega)
        have := u2 (by omega)
        omega
      have up2 : (fval r2).natAbs ≤ 9007199254740992 := by
        have u1 := (near2 _ hr2).2
        have u2 := (near2 _ (rep_neg hr2)).1
        rw [← Int.natCast_mul] at u1
        rw [Int.neg_mul, ← Int.natCast_mul] at u2
        have := u1 (by omega)
        have := u2 (by omega)
        omega
      exact ⟨fun h => h0 (by rw [h, Int.zero_mul]), hlt, by omega, up2⟩
  · left
    refine ⟨?_, fun _ => lower⟩
    have en : (2 * (fval a * fval c)).natAbs = 2 * (fval a * fval c).natAbs := by omega
    have hd : rE (2 * (fval a * fval c).natAbs) fixE = 2 * rE (fval a * fval c).natAbs fixE := by
      refine rE_double ?_
      rw [Nat.pow_add]
      exact hge
    rw [en, hd] at y2 y3
    rcases Int.lt_trichotomy (fval a * fval c) 0 with h | h | h
    · have := y3 (by omega); have := z3 h; omega
    · have := y1 (by omega); have := z1 h; omega
    · have := y2 (by omega); have := z2 h; omega
end Go.Proofs.YtonoknbangnleaaGreat

/- Twice a vector has the bearing of the vector: on float64 words. The squares of a vector, and what a length asks of it. Nothing here speaks of the program. -/
namespace Go.Proofs.YtonoknbangnleaaGreat
open Go.RowKit Ieee

theorem tab_parts : tabN.tail.all (fun n => Nat.ble 295147905179352825856 (dst n.1 5316911983139663491615228241121378304) && Nat.ble 295147905179352825856 (dst n.2 5316911983139663491615228241121378304)) = true := by kernel_rfl
noncomputable def bigV : Nat := 2 ^ (fixE - 22)
noncomputable def cutV : Nat := 2 ^ (fixE - 52)
theorem cutV_grain : cutV = 295147905179352825856 * grainV := by
  have hE := fixE_eq
  unfold cutV grainV
  rw [show (295147905179352825856 : Nat) = 2 ^ 68 from rfl, ← Nat.pow_add]
  exact congrArg (fun z => 2 ^ z) (by omega)
theorem big_cut : 1298074214633706907132624082305024 * oneV ≤ bigV * cutV ∧ 4503599627370496 * oneV ≤ bigV * cutV := by
  have hE := fixE_eq
  unfold bigV cutV oneV
  rw [show (1298074214633706907132624082305024 : Nat) = 2 ^ 110 from rfl, show (4503599627370496 : Nat) = 2 ^ 52 from rfl, ← Nat.pow_add, ← Nat.pow_add, ← Nat.pow_add]
  exact ⟨Nat.pow_le_pow_right (by omega) (by omega), Nat.pow_le_pow_right (by omega) (by omega)⟩
/-- No part of a turn by a degree or more is a trifle. -/
theorem turn_cut {k : Nat} (hk : k < 360) (h0 : 0 < k) : cutV ≤ (fval (trn k).1).natAbs ∧ cutV ≤ (fval (trn k).2).natAbs := by
  obtain ⟨n, hn, _, ht⟩ := turn_at k hk
  have hm : n ∈ tabN.tail := by
    obtain ⟨j, rfl⟩ : ∃ j, k = j + 1 := ⟨k - 1, by omega⟩
    have h2 : tabN.tail[j]? = some n := by rw [List.getElem?_tail]; exact hn
    exact List.mem_of_getElem? h2
  have hc := List.all_eq_true.1 tab_parts n hm
  simp only [Bool.and_eq_true] at hc
  have c1 := Nat.le_of_ble_eq_true hc.1
  have c2 := Nat.le_of_ble_eq_true hc.2
  have key : ∀ m : Nat, 295147905179352825856 ≤ dst m 5316911983139663491615228241121378304 → cutV ≤ (((m : Int) - 5316911983139663491615228241121378304) * (grainV : Int)).natAbs := fun m h => by
    rw [cutV_grain, Int.natAbs_mul, Int.natAbs_natCast]
    refine Nat.mul_le_mul_right _ ?_
    unfold dst at h
    omega
  exact ⟨by rw [ht.v1]; exact key _ c1, by rw [ht.v2]; exact key _ c2⟩

/-- What a vector makes with the turn by 0: its first part. -/
theorem dot_nought {z : Nat × Nat} (h1 : okP z.1) (h2 : okP z.2) : isNum (dotW z (trn 0)) ∧ fval (dotW z (trn 0)) = fval z.1 := by
  obtain ⟨⟨k1, k2⟩, k3, k4⟩ := turn_part (k := 0) (by omega)
  obtain ⟨p, q, _, _, _, sn, _, np, nq, ns⟩ := dot_ok h1.part h2.part k1 k3 k2 k4
  refine ⟨sn, ?_⟩
  rw [show (trn 0).1 = 4607182418800017408 from rfl, one_val] at np
  rw [show (trn 0).2 = 0 from rfl, nought_val, Int.mul_zero, show (0 : Int) = 0 * ((oneV : Nat) : Int) by rw [Int.zero_mul]] at nq
  have ep := np.exact (rep_num h1.1)
  have eq := nq.exact rep_zero
  rw [ep, eq, Int.add_zero, show fval z.1 = fval z.1 * ((1 : Nat) : Int) by omega] at ns
  exact ns.exact (rep_num h1.1)

/-- Twice a vector that is no trifle. -/
structure Twice (z y : Nat × Nat) : Prop where
  z1 : okP z.1
  z2 : okP z.2
  y1 : okP y.1
  y2 : okP y.2
  e1 : fval y.1 = 2 * fval z.1
  e2 : fval y.2 = 2 * fval z.2
  big : bigV ≤ (fval z.1).natAbs ∨ bigV ≤ (fval z.2).natAbs

theorem prod_bound {x y : Nat} (hx : okP x) (hy : (fval y).natAbs ≤ 2 * oneV) : (fval x * fval y).natAbs < 2 ^ (fixB + fixE) := by
  have hb := oneV_bound
  rw [Int.natAbs_mul, Nat.pow_add]
  have := Nat.mul_le_mul hx.2 hy
  refine Nat.lt_of_le_of_lt this ?_
  rw [show 100000000 * oneV * (2 * oneV) = 200000000 * oneV * oneV by rw [← Nat.mul_assoc, Nat.mul_right_comm 100000000 oneV 2]]
  exact Nat.mul_lt_mul_of_pos_right (by omega) (Nat.two_pow_pos _)

theorem dot_dbl {z y : Nat × Nat} (h : Twice z y) (k : Nat) (hk : k < 360) : isNum (dotW z (trn k)) ∧ isNum (dotW y (trn k)) ∧ fval (dotW y (trn k)) = 2 * fval (dotW z (trn k)) := by
  rcases Nat.eq_zero_or_pos k with rfl | h0
  · obtain ⟨a1, a2⟩ := dot_nought h.z1 h.z2
    obtain ⟨b1, b2⟩ := dot_nought h.y1 h.y2
    exact ⟨a1, b1, by rw [a2, b2, h.e1]⟩
  · obtain ⟨⟨k1, k2⟩, k3, k4⟩ := turn_part hk
    obtain ⟨c1, c2⟩ := turn_cut hk h0
    obtain ⟨p, q, m1, m2, m3, sn, _, np, nq, _⟩ := dot_ok h.z1.part h.z2.part k1 k3 k2 k4
    obtain ⟨p2, q2, n1, n2, n3, sn2, _, np2, nq2, _⟩ := dot_ok h.y1.part h.y2.part k1 k3 k2 k4
    refine ⟨sn, sn2, ?_⟩
    obtain ⟨B1, B2⟩ := big_cut
    have hb := oneV_bound
    have g110 : Rep ((1298074214633706907132624082305024 : Nat) : Int) := ⟨1, 110, by omega, by rw [Int.natAbs_natCast]⟩
    obtain ⟨p', m1', _, pn, _, pb, _⟩ := part_mul h.z1.part k1 k2
    obtain ⟨q', m2', _, qn, _, qb, _⟩ := part_mul h.z2.part k3 k4
    obtain ⟨p2', n1', _, pn2, _, pb2, _⟩ := part_mul h.y1.part k1 k2
    obtain ⟨q2', n2', _, qn2, _, qb2, _⟩ := part_mul h.y2.part k3 k4
    have x1 : p' = p := by have := m1.symm.trans m1'; injection this with this; exact this.symm
    have x2 : q' = q := by have := m2.symm.trans m2'; injection this with this; exact this.symm
    have x3 : p2' = p2 := by have := n1.symm.trans n1'; injection this with this; exact this.symm
    have x4 : q2' = q2 := by have := n2.symm.trans n2'; injection this with this; exact this.symm
    subst x1; subst x2; subst x3; subst x4
    refine sum_dbl pn qn pn2 qn2 (by omega) (by omega) m3 n3 ?_
    have A := mul_dbl h.z1.1 h.y1.1 k1 h.e1 (prod_bound h.z1 k2) (prod_bound h.y1 k2) m1 n1
    have B := mul_dbl h.z2.1 h.y2.1 k3 h.e2 (prod_bound h.z2 k4) (prod_bound h.y2 k4) m2 n2
    have hcut : 0 < cutV := Nat.two_pow_pos _
    have small : ∀ u c : Int, cutV ≤ c.natAbs → (u * c).natAbs < 4503599627370496 * oneV → u.natAbs < bigV := fun u c hc hlt => by
      rcases Nat.lt_or_ge u.natAbs bigV with h | h
      · exact h
      · have := Nat.mul_le_mul h hc
        rw [← Int.natAbs_mul] at this
        omega
    have great : ∀ u c : Int, cutV ≤ c.natAbs → bigV ≤ u.natAbs → bigV * cutV ≤ (u * c).natAbs := fun u c hc hu => by
      rw [Int.natAbs_mul]; exact Nat.mul_le_mul hu hc
    have hbig0 : 0 < bigV * cutV := Nat.mul_pos (Nat.two_pow_pos _) hcut
    rcases A with ⟨A1, A2⟩ | ⟨A0, A1, A2, A3⟩
    · rcases B with ⟨C1, C2⟩ | ⟨C0, C1, C2, C3⟩
      · exact .inl ⟨A1, C1⟩
      · have hs := small _ _ c2 C1
        have hg : bigV ≤ (fval z.1).natAbs := by rcases h.big with h | h <;> omega
        have hgr := great _ _ c1 hg
        exact .inr (.inr ⟨C2, C3, A1, A2 (by omega) _ g110 (by omega)⟩)
    · have hs := small _ _ c1 A1
      have hg : bigV ≤ (fval z.2).natAbs := by rcases h.big with h | h <;> omega
      have hgr := great _ _ c2 hg
      rcases B with ⟨C1, C2⟩ | ⟨C0, C1, C2, C3⟩
      · exact .inr (.inl ⟨A2, A3, C1, C2 (by omega) _ g110 (by omega)⟩)
      · have := small _ _ c2 C1
        omega

/-- The best turns of both. -/
theorem bst_dbl {z y : Nat × Nat} (h : Twice z y) (k : Nat) (hk : k < 360) : (bst y k).1 = (bst z k).1 ∧ isNum (bst z k).2 ∧ isNum (bst y k).2 ∧ fval (bst y k).2 = 2 * fval (bst z k).2 := by
  induction k with
  | zero =>
    obtain ⟨a, b, c⟩ := dot_dbl h 0 (by omega)
    exact ⟨rfl, a, b, c⟩
  | succ k ih =>
    obtain ⟨i1, i2, i3, i4⟩ := ih (by omega)
    obtain ⟨a, b, c⟩ := dot_dbl h (k + 1) hk
    have ho : f64.order (dotW y (trn (k + 1))) (bst y k).2 = f64.order (dotW z (trn (k + 1))) (bst z k).2 := by
      rw [order_val b i3, order_val a i2, c, i4]
      have := compare_scale (fval (dotW z (trn (k + 1)))) (fval (bst z k).2) 2 (by omega)
      rw [← this]
      congr 2 <;> omega
    by_cases hgt : f64.order (dotW z (trn (k + 1))) (bst z k).2 = some .gt
    · have e1 : bst z (k + 1) = (k + 1, dotW z (trn (k + 1))) := by rw [bst.eq_def]; simp only; rw [if_pos hgt]
      have e2 : bst y (k + 1) = (k + 1, dotW y (trn (k + 1))) := by rw [bst.eq_def]; simp only; rw [if_pos (ho.trans hgt)]
      rw [e1, e2]
      exact ⟨rfl, a, b, c⟩
    · have e1 : bst z (k + 1) = bst z k := by rw [bst.eq_def]; simp only; rw [if_neg hgt]
      have e2 : bst y (k + 1) = bst y k := by rw [bst.eq_def]; simp only; rw [if_neg (fun e => hgt (ho.symm.trans e))]
      rw [e1, e2]
      exact ⟨i1, i2, i3, i4⟩

/-- The squares of a valid vector, summed. -/
theorem sq_ok {z : Nat × Nat} (h1 : okP z.1) (h2 : okP z.2) : ∃ p q, floatBits .mul .f64 z.1 z.1 = some p ∧ floatBits .mul .f64 z.2 z.2 = some q ∧ floatBits .add .f64 p q = some (dotW z z) ∧ isNum (dotW z z) ∧ dotW z z < 18446744073709551616 ∧
    NearI (fval p) (fval z.1 * fval z.1) oneV ∧ NearI (fval q) (fval z.2 * fval z.2) oneV ∧ NearI (fval (dotW z z)) (fval p + fval q) 1 ∧ 0 ≤ fval p ∧ 0 ≤ fval q := by
  have hb := oneV_bound
  have hpos : 0 < oneV := Nat.two_pow_pos _
  have part : ∀ x : Nat, okP x → ∃ p, f64.mul x x = some p ∧ ml x x = p ∧ isNum p ∧ 0 ≤ fval p ∧ fval p ≤ ((1 * 2 ^ (fixE + 54) : Nat) : Int) ∧ NearI (fval p) (fval x * fval x) oneV := fun x hx => by
    have hab : (fval x * fval x).natAbs ≤ 10000000000000000 * oneV * oneV := by
      rw [Int.natAbs_mul]
      have := Nat.mul_le_mul hx.2 hx.2
      rw [show 100000000 * oneV * (100000000 * oneV) = 10000000000000000 * oneV * oneV by rw [← Nat.mul_assoc, Nat.mul_right_comm 100000000 oneV 100000000]] at this
      exact this
    obtain ⟨p, a1, a2, _, a4⟩ := mul_op hx.1 hx.1 (by
      rw [Nat.pow_add]
      exact Nat.lt_of_le_of_lt hab (Nat.mul_lt_mul_of_pos_right (by omega) hpos))
    have hn := a4.near hpos
    have hnn : 0 ≤ fval x * fval x := by
      rcases Int.le_total 0 (fval x) with h | h
      · exact Int.mul_nonneg h h
      · exact Int.mul_nonneg_of_nonpos_of_nonpos h h
    refine ⟨p, a1, by unfold ml; rw [a1]; rfl, a2, (hn 0 rep_zero).1 (by omega), (hn _ (rep_nat (q := 1) (k := fixE + 54) (by omega))).2 ?_, hn⟩
    rw [← Int.natCast_mul]
    have e54 : 1 * 2 ^ (fixE + 54) * oneV = 18014398509481984 * oneV * oneV := by
      rw [Nat.one_mul, Nat.pow_add, Nat.mul_comm (2 ^ fixE)]; rfl
    rw [e54]
    have : 10000000000000000 * oneV * oneV ≤ 18014398509481984 * oneV * oneV := Nat.mul_le_mul_right _ (Nat.mul_le_mul_right _ (by omega))
    omega
  obtain ⟨p, p1, p2, p3, p4, p5, p6⟩ := part _ h1
  obtain ⟨q, q1, q2, q3, q4, q5, q6⟩ := part _ h2
  have e54 : 1 * 2 ^ (fixE + 54) = 18014398509481984 * oneV := by
    rw [Nat.one_mul, Nat.pow_add, Nat.mul_comm (2 ^ fixE)]; rfl
  rw [e54] at p5 q5
  obtain ⟨s, s1, s2, s3, s4⟩ := add_op p3 q3 (by omega)
  have e : dotW z z = s := by unfold dotW ad; rw [p2, q2, s1]; rfl
  rw [e]
  exact ⟨p, q, p1, q1, s1, s2, s3, p6, q6, s4.near (by omega), p4, q4⟩
/-- A vector that has a length is no trifle. -/
theorem len_big {z : Nat × Nat} (h1 : okP z.1) (h2 : okP z.2) (h : inR (dotW z z)) : bigV ≤ (fval z.1).natAbs ∨ bigV ≤ (fval z.2).natAbs := by
  have hE := fixE_eq
  obtain ⟨p, q, _, _, _, _, _, np, nq, ns, _, _⟩ := sq_ok h1 h2
  obtain ⟨b0, _⟩ := inR_bd h
  rcases Nat.lt_or_ge (fval z.1).natAbs bigV with g1 | g1
  · rcases Nat.lt_or_ge (fval z.2).natAbs bigV with g2 | g2
    · exfalso
      have hbb : bigV * bigV = 1 * 2 ^ (fixE - 44) * oneV := by
        unfold bigV oneV
        rw [Nat.one_mul, ← Nat.pow_add, ← Nat.pow_add]
        exact congrArg (fun z => 2 ^ z) (by omega)
      have sq : ∀ x : Int, x.natAbs < bigV → x * x ≤ ((1 * 2 ^ (fixE - 44) : Nat) : Int) * (oneV : Int) := fun x hx => by
        rw [← Int.natCast_mul, ← hbb]
        have : (x * x).natAbs ≤ bigV * bigV := by rw [Int.natAbs_mul]; exact Nat.mul_le_mul (by omega) (by omega)
        omega
      have u1 := (np _ (rep_nat (q := 1) (k := fixE - 44) (by omega))).2 (sq _ g1)
      have u2 := (nq _ (rep_nat (q := 1) (k := fixE - 44) (by omega))).2 (sq _ g2)
      have u3 := (ns _ (rep_nat (q := 2) (k := fixE - 44) (by omega))).2 (by omega)
      have hl : lowV = 8 * 2 ^ (fixE - 44) := by
        unfold lowV
        rw [show (8 : Nat) = 2 ^ 3 from rfl, ← Nat.pow_add]
        exact congrArg (fun z => 2 ^ z) (by omega)
      have hp : 0 < 2 ^ (fixE - 44) := Nat.two_pow_pos _
      rw [hl] at b0
      generalize 2 ^ (fixE - 44) = y at *
      omega
    · exact .inr g2
  · exact .inl g1
end Go.Proofs.YtonoknbangnleaaGreat

/- The walks of Length (impl and spec) and of spec.Bearing. -/
namespace Go.Proofs.YtonoknbangnleaaGreat
open Go.RowKit Ieee

/-- What Length answers. -/
def LenIs (z : Nat × Nat) (r : Nat) : Prop := (¬ (okP z.1 ∧ okP z.2) ∧ r = 0) ∨ (okP z.1 ∧ okP z.2 ∧ RootIs (dotW z z) r)
theorem len_ex (z : Nat × Nat) : ∃ r, LenIs z r := by
  by_cases h : okP z.1 ∧ okP z.2
  · obtain ⟨r, hr⟩ := root_ex (dotW z z)
    exact ⟨r, .inr ⟨h.1, h.2, hr⟩⟩
  · exact ⟨0, .inl ⟨h, rfl⟩⟩

set_option maxRecDepth 100000 in
set_option maxHeartbeats 1000000 in
theorem i_len (z : Nat × Nat) (r : Nat) (w : World) (ha : z.1 < 18446744073709551616) (hb : z.2 < 18446744073709551616) (h : LenIs z r) :
    Calls Tryz.prog 14 #[.complex .f64 z.1 z.2] w fun e w' => e = .returned (.float .f64 r) ∧ w = w' := by
  rcases h with ⟨h, he⟩ | ⟨h1, h2, h⟩
  · rw [he]
    have H := Lib.hid h
    clear h he
    go_enter Tryz.func14, Tryz.ntmps14
    go_wp2_with fail
    refine (i_vok z.1 z.2 _ ha hb).mono ?_
    rintro e w1 ⟨t, ht, rfl, rfl⟩
    cases t
    · go_wp2
      go_ret
      exact ⟨rfl, rfl⟩
    · exact absurd (ht.1 rfl) H.out
  · obtain ⟨p, q, o1, o2, o3, _, sl, _⟩ := sq_ok h1 h2
    have hd := fun w => i_dot _ _ _ _ _ _ _ w o1 o2 o3
    have hr := fun w => i_root (dotW z z) r w sl h
    have H := Lib.hid (And.intro h1 h2)
    clear o1 o2 o3 h h1 h2
    generalize dotW z z = d at *
    go_enter Tryz.func14, Tryz.ntmps14
    go_wp2_with fail
    refine (i_vok z.1 z.2 _ ha hb).mono ?_
    rintro e w1 ⟨t, ht, rfl, rfl⟩
    obtain rfl : t = true := ht.2 H.out
    clear ht
    go_wp2_with (first
      | (go_at_call 41; ((with_reducible refine (hd _).mono ?_); rintro e w' ⟨rfl, rfl⟩))
      | (go_at_call 40; ((with_reducible refine (hr _).mono ?_); rintro e w' ⟨rfl, rfl⟩)))
    go_ret
    exact ⟨rfl, rfl⟩
set_option maxRecDepth 100000 in
set_option maxHeartbeats 1000000 in
theorem s_len (z : Nat × Nat) (r : Nat) (w : World) (ha : z.1 < 18446744073709551616) (hb : z.2 < 18446744073709551616) (h : LenIs z r) :
    Calls Tryz.prog 78 #[.complex .f64 z.1 z.2] w fun e w' => e = .returned (.float .f64 r) ∧ w = w' := by
  rcases h with ⟨h, he⟩ | ⟨h1, h2, h⟩
  · rw [he]
    have H := Lib.hid h
    clear h he
    go_enter Tryz.func78, Tryz.ntmps78
    go_wp2_with fail
    refine (s_vok z.1 z.2 _ ha hb).mono ?_
    rintro e w1 ⟨t, ht, rfl, rfl⟩
    cases t
    · go_wp2
      go_ret
      exact ⟨rfl, rfl⟩
    · exact absurd (ht.1 rfl) H.out
  · obtain ⟨p, q, o1, o2, o3, _, sl, _⟩ := sq_ok h1 h2
    have hd := fun w => s_dot _ _ _ _ _ _ _ w o1 o2 o3
    have hr := fun w => s_root (dotW z z) r w sl h
    have H := Lib.hid (And.intro h1 h2)
    clear o1 o2 o3 h h1 h2
    generalize dotW z z = d at *
    go_enter Tryz.func78, Tryz.ntmps78
    go_wp2_with fail
    refine (s_vok z.1 z.2 _ ha hb).mono ?_
    rintro e w1 ⟨t, ht, rfl, rfl⟩
    obtain rfl : t = true := ht.2 H.out
    clear ht
    go_wp2_with (first
      | (go_at_call 56; ((with_reducible refine (hd _).mono ?_); rintro e w' ⟨rfl, rfl⟩))
      | (go_at_call 97; ((with_reducible refine (hr _).mono ?_); rintro e w' ⟨rfl, rfl⟩)))
    go_ret
    exact ⟨rfl, rfl⟩

/-- One step of the search. -/
theorem bst_step {z : Nat × Nat} (m : Nat) : (FloatKind.f64.format.order (dotW z (trn (m + 1))) (bst z m).2 = some .gt ∧ bst z (m + 1) = (m + 1, dotW z (trn (m + 1)))) ∨ ((FloatKind.f64.format.order (dotW z (trn (m + 1))) (bst z m).2 == some .gt) = false ∧ bst z (m + 1) = bst z m) := by
  by_cases hgt : f64.order (dotW z (trn (m + 1))) (bst z m).2 = some .gt
  · left; exact ⟨hgt, by rw [bst.eq_def]; simp only; rw [if_pos hgt]⟩
  · right; exact ⟨by simpa using hgt, by rw [bst.eq_def]; simp only; rw [if_neg hgt]⟩
set_option maxRecDepth 100000 in
set_option maxHeartbeats 2000000 in
theorem s_bear (z : Nat × Nat) (w : World) (ha : z.1 < 18446744073709551616) (hb : z.2 < 18446744073709551616) (hp : Points z) :
    Calls Tryz.prog 30 #[.complex .f64 z.1 z.2] w fun e w' => e = .returned (.int .i64 (bst z 359).1) ∧ w = w' := by
  have hzz : (FloatKind.f64.format.order z.1 0 == some .eq && FloatKind.f64.format.order z.2 0 == some .eq) = false := hp.2.2
  obtain ⟨p, q, o1, o2, o3, _⟩ := dot_at hp 0 (by omega)
  have hd0 := fun w => s_dot _ _ _ _ _ _ _ w o1 o2 o3
  have e0 : trn 0 = (4607182418800017408, 0) := rfl
  rw [e0] at hd0
  have HP := Lib.hid hp
  clear hp o1 o2 o3
  generalize hd : dotW z (4607182418800017408, 0) = d0 at *
  go_enter Tryz.func30, Tryz.ntmps30
  go_wp2_with fail
  refine (s_vok z.1 z.2 _ ha hb).mono ?_
  rintro e w1 ⟨t, ht, rfl, rfl⟩
  obtain rfl : t = true := ht.2 ⟨HP.out.1, HP.out.2.1⟩
  clear ht
  go_wp2_with (go_at_call 56; ((with_reducible refine (hd0 _).mono ?_); rintro e w' ⟨rfl, rfl⟩))
  clear hd0 hzz
  go_loop [3, 4, 5, 6, 7] (fun bs t ms i _ => ∃ k : Nat, k ≤ 359 ∧ i = .int .i64 ((k : Int) + 1) ∧ t = .complex .f64 (trn k).1 (trn k).2 ∧ bs = .int .i64 ((bst z k).1 : Nat) ∧ ms = .float .f64 (bst z k).2) (fun _ _ _ i _ => 360 - (intOf i).toNat)
  case atStart => exact ⟨0, by omega, rfl, rfl, rfl, by rw [← hd]; rfl⟩
  case round =>
    obtain ⟨k, hk, rfl, rfl, rfl, rfl⟩ := hrel
    by_cases hlt : k < 359
    · obtain ⟨ac, bd, ad', bc, h1, h2, h3, h4, h5, h6⟩ := trn_ops k (by omega)
      have ht := fun w => s_times _ _ _ _ _ _ _ _ _ _ w h1 h2 h3 h4 h5 h6
      obtain ⟨p, q, o1, o2, o3, _⟩ := dot_at HP.out (k + 1) (by omega)
      have hd0 := fun w => s_dot _ _ _ _ _ _ _ w o1 o2 o3
      have k1 : (k : Int) < 359 := by omega
      have hst := bst_step (z := z) k
      clear h1 h2 h3 h4 h5 h6 o1 o2 o3
      rcases hst with ⟨og, hs⟩ | ⟨og, hs⟩
      all_goals
        have HS := Lib.hid hs
        clear hs
        go_wp2_with (first
          | (go_at_call 51; ((with_reducible refine (s_step _).mono ?_); rintro e w' ⟨rfl, rfl⟩))
          | (go_at_call 50; ((with_reducible refine (ht _).mono ?_); rintro e w' ⟨rfl, rfl⟩))
          | (go_at_call 56; ((with_reducible refine (hd0 _).mono ?_); rintro e w' ⟨rfl, rfl⟩)))
        go_round
        case rel => exact ⟨k + 1, by omega, by go_num, rfl, by first | (rw [HS.out]; done) | (rw [HS.out]; rfl), by rw [HS.out]⟩
        case measure => simp [intOf]; omega
    · have hk : k = 359 := by omega
      subst hk
      go_wp2
      go_ret
      exact ⟨rfl, rfl⟩
end Go.Proofs.YtonoknbangnleaaGreat

/- The walks of FromOf and Veer (impl and spec), and of the law FnVeerBack. -/
namespace Go.Proofs.YtonoknbangnleaaGreat
open Go.RowKit Ieee

/-- The bearing from which a wind blows. -/
def FromIs (a b : Nat) (n : Int) : Prop := (okV a b ∧ Points (wnd a b) ∧ n = ((bst (wnd a b) 359).1 : Nat)) ∨ (¬ (okV a b ∧ Points (wnd a b)) ∧ n = -1)
theorem from_ex (a b : Nat) : ∃ n, FromIs a b n ∧ -1 ≤ n ∧ n < 360 := by
  by_cases h : okV a b ∧ Points (wnd a b)
  · have := (bst_num h.2 359 (by omega)).2
    exact ⟨_, .inl ⟨h.1, h.2, rfl⟩, by omega, by omega⟩
  · exact ⟨-1, .inr ⟨h, rfl⟩, by omega, by omega⟩

set_option maxRecDepth 100000 in
set_option maxHeartbeats 1000000 in
theorem i_wfrom (a b : Nat) (n : Int) (w : World) (ha : a < 4294967296) (hb : b < 4294967296) (h : FromIs a b n) :
    Calls Tryz.prog 66 #[.complex .f32 a b] w fun e w' => e = .returned (.int .i64 n) ∧ Below w.heap.size w w' := by
  have hs : (Tryz.prog.underlying 58).isSome = true := by rw [Tryz.underlying58]; rfl
  have H := Lib.hid h
  clear h
  go_enter Tryz.func66, Tryz.ntmps66
  go_wp2_with fail
  refine (i_ok a b _ ha hb).mono ?_
  rintro e w1 ⟨t, ht, rfl, h1, h2⟩
  cases t
  · have b1 : Below w.heap.size w w1 := (Below.refl _ w).grown h2 (Nat.le_refl _) (fun _ h => by cases h)
    have hn : n = -1 := by
      rcases H.out with ⟨o, _⟩ | ⟨_, o⟩
      · exact absurd (ht.2 o.2) (by decide)
      · exact o
    subst hn
    clear ht h1 h2
    go_wp2
    go_ret
    exact ⟨rfl, b1⟩
  · obtain rfl := h1 rfl
    have o1 : okV a b := ⟨⟨ha, hb⟩, ht.1 rfl⟩
    clear ht h1 h2
    have q := fun w => run_convert_complex (P := Tryz.prog) w 58 30 .f32 .f64 _ _ (wnd a b).1 (wnd a b).2 hs Tryz.underlying30 (wnd_conv o1)
    have qn : ∀ w, (Op.unary .neg (.complex .f32 a b)).run Tryz.prog w = .ok (.complex .f32 (Op.negFloat .f32 a) (Op.negFloat .f32 b)) w := fun w => rfl
    by_cases hp : Points (wnd a b)
    · have hn : n = ((bst (wnd a b) 359).1 : Nat) := by
        rcases H.out with ⟨_, _, o⟩ | ⟨o, _⟩
        · exact o
        · exact absurd ⟨o1, hp⟩ o
      subst hn
      have D := fun w => i_bear (wnd a b) w (wid_lt _) (wid_lt _) hp
      clear hp o1
      generalize hgz : wnd a b = z at *
      have HG := Lib.hid hgz
      clear hgz
      go_wp2_with (first
        | (go_at_call 27; go_in)
        | (go_at_call 29; ((with_reducible refine (D _).mono ?_); rintro e w2 ⟨rfl, b2⟩)))
      go_ret
      exact ⟨by rw [HG.out]; rfl, b2⟩
    · have hn : n = -1 := by
        rcases H.out with ⟨_, o, _⟩ | ⟨_, o⟩
        · exact absurd o hp
        · exact o
      subst hn
      have D := fun w => i_bear_no (wnd a b).1 (wnd a b).2 w (wid_lt _) (wid_lt _) hp
      clear hp o1
      generalize hgz : wnd a b = z at *
      have HG := Lib.hid hgz
      clear hgz
      go_wp2_with (first
        | (go_at_call 27; go_in)
        | (go_at_call 29; ((with_reducible refine (D _).mono ?_); rintro e w2 ⟨rfl, rfl⟩)))
      go_ret
      exact ⟨rfl, Below.refl _ _⟩
theorem i_from (a b : Nat) (n : Int) (w : World) (ha : a < 4294967296) (hb : b < 4294967296) (h : FromIs a b n) :
    Calls Tryz.prog 37 #[.complex .f32 a b] w fun e w' => e = .returned (.int .i64 n) ∧ Below w.heap.size w w' := by
  go_enter Tryz.func37, Tryz.ntmps37
  go_wp2_with (go_at_call 66; ((with_reducible refine (i_wfrom a b n _ ha hb h).mono ?_); rintro e w1 ⟨rfl, b1⟩))
  go_ret
  exact ⟨rfl, b1⟩
set_option maxRecDepth 100000 in
set_option maxHeartbeats 1000000 in
theorem s_from (a b : Nat) (n : Int) (w : World) (ha : a < 4294967296) (hb : b < 4294967296) (h : FromIs a b n) :
    Calls Tryz.prog 45 #[.complex .f32 a b] w fun e w' => e = .returned (.int .i64 n) ∧ w = w' := by
  have hs : (Tryz.prog.underlying 29).isSome = true := by rw [Tryz.underlying29]; rfl
  obtain ⟨za, hza⟩ : ∃ za, (FloatKind.f32.format.order a 0 == some .eq) = za := ⟨_, rfl⟩
  obtain ⟨zb, hzb⟩ : ∃ zb, (FloatKind.f32.format.order b 0 == some .eq) = zb := ⟨_, rfl⟩
  have H := Lib.hid h
  have HZ := Lib.hid (And.intro hza hzb)
  clear h
  go_enter Tryz.func45, Tryz.ntmps45
  go_wp2_with fail
  refine (S.s_vok a b _ ha hb).mono ?_
  rintro e w1 ⟨t, ht, rfl, rfl⟩
  cases t
  · have hn : n = -1 := by
      rcases H.out with ⟨o, _⟩ | ⟨_, o⟩
      · exact absurd (ht.2 o.2) (by decide)
      · exact o
    subst hn
    clear ht
    go_wp2
    go_ret
    exact ⟨rfl, rfl⟩
  · have o1 : okV a b := ⟨⟨ha, hb⟩, ht.1 rfl⟩
    clear ht
    have hp := wnd_points o1
    rw [HZ.out.1, HZ.out.2] at hp
    by_cases hz : (za && zb) = true
    · obtain ⟨rfl, rfl⟩ : za = true ∧ zb = true := by simpa using hz
      have hn : n = -1 := by
        rcases H.out with ⟨_, o, _⟩ | ⟨_, o⟩
        · exact absurd (hp.1 o) (by decide)
        · exact o
      subst hn
      clear hp
      go_wp2
      go_ret
      exact ⟨rfl, rfl⟩
    · have hz2 : (za && zb) = false := by simpa using hz
      have hpp := hp.2 hz2
      have hn : n = ((bst (wnd a b) 359).1 : Nat) := by
        rcases H.out with ⟨_, _, o⟩ | ⟨o, _⟩
        · exact o
        · exact absurd ⟨o1, hpp⟩ o
      subst hn
      have q := fun w => run_convert_complex (P := Tryz.prog) w 29 30 .f32 .f64 _ _ (wnd a b).1 (wnd a b).2 hs Tryz.underlying30 (wnd_conv o1)
      have qa : ∀ w, (Op.unary .neg (.float .f32 a)).run Tryz.prog w = .ok (.float .f32 (Op.negFloat .f32 a)) w := fun w => rfl
      have qb : ∀ w, (Op.unary .neg (.float .f32 b)).run Tryz.prog w = .ok (.float .f32 (Op.negFloat .f32 b)) w := fun w => rfl
      have D := fun w => s_bear (wnd a b) w (wid_lt _) (wid_lt _) hpp
      clear hp hpp o1 hz
      generalize hgz : wnd a b = z at *
      have HG := Lib.hid hgz
      clear hgz
      cases za <;> cases zb
      · go_wp2_with (first
          | (go_at_call 76; go_in)
          | (go_at_call 30; ((with_reducible refine (D _).mono ?_); rintro e w2 ⟨rfl, rfl⟩)))
        go_ret
        exact ⟨by rw [HG.out]; rfl, rfl⟩
      · go_wp2_with (first
          | (go_at_call 76; go_in)
          | (go_at_call 30; ((with_reducible refine (D _).mono ?_); rintro e w2 ⟨rfl, rfl⟩)))
        go_ret
        exact ⟨by rw [HG.out]; rfl, rfl⟩
      · go_wp2_with (first
          | (go_at_call 76; go_in)
          | (go_at_call 30; ((with_reducible refine (D _).mono ?_); rintro e w2 ⟨rfl, rfl⟩)))
        go_ret
        exact ⟨by rw [HG.out]; rfl, rfl⟩
      · cases hz2
/-- What Veer answers. -/
def vrs (n m : Int) : Int := if n = -1 ∨ m = -1 then 0 else asd n m
def vok (n m : Int) : Bool := if n = -1 ∨ m = -1 then false else true
theorem veer_back (n m : Int) : vok m n = vok n m ∧ ((vrs n m = -vrs m n ∧ -180 ≤ vrs m n ∧ vrs m n ≤ 180) ∨ (vrs n m = 180 ∧ vrs m n = 180)) := by
  by_cases c : n = -1 ∨ m = -1
  · have c' : m = -1 ∨ n = -1 := c.symm
    unfold vok vrs
    rw [if_pos c, if_pos c', if_pos c, if_pos c']
    exact ⟨rfl, .inl ⟨rfl, by omega, by omega⟩⟩
  · have c' : ¬ (m = -1 ∨ n = -1) := fun h => c h.symm
    unfold vok vrs
    rw [if_neg c, if_neg c', if_neg c, if_neg c']
    refine ⟨rfl, ?_⟩
    unfold asd
    split <;> split <;> omega
end Go.Proofs.YtonoknbangnleaaGreat
