/- Winds that are damped, eighths: plain facts on float32 words. Nothing here speaks of the program. -/
import Derived.Test.YtonoknbangnleaaWk
namespace Go.Proofs.Ytonoknbangnleaa
open Go.RowKit Ieee

theorem repS (q : Nat) (hq : q ≤ 16777216) (e : Nat) : S.Rep ((q * 2 ^ e : Nat) : Int) := ⟨q, e, hq, by rw [Int.natAbs_natCast]⟩
theorem repS_zero : S.Rep 0 := ⟨0, 0, by omega, by simp⟩
theorem rep_times (q : Nat) (hq : q ≤ 16777216) : S.Rep ((q : Int) * (S.oneV : Int)) := by
  have := repS q hq S.fixE
  rw [Int.natCast_mul] at this
  exact this
theorem oneS_pos : 0 < S.oneV := Nat.two_pow_pos _
theorem oneS_lt (c : Nat) (hc : c < 2 ^ 100) : c * S.oneV < 2 ^ S.fixB := by
  have h1 := S.fixB_eq
  have h2 := S.fixE_eq
  have h3 : c * S.oneV < 2 ^ 100 * S.oneV := Nat.mul_lt_mul_of_pos_right hc oneS_pos
  refine Nat.lt_of_lt_of_le h3 ?_
  unfold S.oneV
  rw [← Nat.pow_add]
  exact Nat.pow_le_pow_right (by omega) (by omega)
/-- Bounds of a rounded value. -/
theorem near_le {v N g : Int} {D : Nat} (h : S.NearI v N D) (hg : S.Rep g) (h1 : N ≤ g * (D : Int)) : v ≤ g := (h g hg).2 h1
theorem near_ge {v N g : Int} {D : Nat} (h : S.NearI v N D) (hg : S.Rep g) (h1 : g * (D : Int) ≤ N) : g ≤ v := (h g hg).1 h1

theorem near_one {v g : Int} (h : S.NearI v g 1) (hg : S.Rep g) : v = g := by
  obtain ⟨h1, h2⟩ := h g hg
  simp only [Int.natCast_one, Int.mul_one] at h1 h2
  exact Int.le_antisymm (h2 (Int.le_refl _)) (h1 (Int.le_refl _))

/-- A damped part exists; how it comes about. -/
theorem damp_ex {l x k : Nat} (hl : S.okP l) (hx : S.okP x) (hk : okK k) :
    ∃ d p r, floatBits .sub .f32 x l = some d ∧ floatBits .mul .f32 d k = some p ∧ floatBits .add .f32 l p = some r ∧ r < 4294967296 ∧ S.isNum d ∧ S.isNum p ∧ S.isNum r ∧
      S.NearI (S.fval d) (S.fval x - S.fval l) 1 ∧ S.NearI (S.fval p) (S.fval d * S.fval k) S.oneV ∧ S.NearI (S.fval r) (S.fval l + S.fval p) 1 := by
  obtain ⟨l0, l1⟩ := hl
  obtain ⟨x0, x1⟩ := hx
  obtain ⟨k0, k1, k2⟩ := hk
  have hO := oneS_pos
  have b1 := oneS_lt 1000 (by decide)
  obtain ⟨d, d1, d2, d3, d4⟩ := S.sub_op x0 l0 (by omega)
  have n1 := d4.near (by omega)
  have db1 : S.fval d ≤ 200 * (S.oneV : Int) := near_le n1 (rep_times 200 (by omega)) (by push_cast; omega)
  have db2 : -(200 * (S.oneV : Int)) ≤ S.fval d := near_ge n1 (S.rep_neg (rep_times 200 (by omega))) (by push_cast; omega)
  have dk : (S.fval d * S.fval k).natAbs ≤ 200 * S.oneV * S.oneV := by
    rw [Int.natAbs_mul]; exact Nat.mul_le_mul (by omega) (by omega)
  obtain ⟨p, p1, p2, p3, p4⟩ := S.mul_op d2 k0 (by
    have h1 : 200 * S.oneV * S.oneV < 2 ^ S.fixB * S.oneV := Nat.mul_lt_mul_of_pos_right (oneS_lt 200 (by decide)) hO
    rw [Nat.pow_add]
    exact Nat.lt_of_le_of_lt dk h1)
  have n2 := p4.near hO
  have pb1 : S.fval p ≤ 200 * (S.oneV : Int) := near_le n2 (rep_times 200 (by omega)) (by
    have h1 : S.fval d * S.fval k ≤ ((S.fval d * S.fval k).natAbs : Int) := by omega
    have h2 : ((S.fval d * S.fval k).natAbs : Int) ≤ ((200 * S.oneV * S.oneV : Nat) : Int) := by exact_mod_cast dk
    rw [Int.natCast_mul, Int.natCast_mul] at h2; exact Int.le_trans h1 h2)
  have pb2 : -(200 * (S.oneV : Int)) ≤ S.fval p := near_ge n2 (S.rep_neg (rep_times 200 (by omega))) (by
    have h1 : -((S.fval d * S.fval k).natAbs : Int) ≤ S.fval d * S.fval k := by omega
    have h2 : ((S.fval d * S.fval k).natAbs : Int) ≤ ((200 * S.oneV * S.oneV : Nat) : Int) := by exact_mod_cast dk
    rw [Int.natCast_mul, Int.natCast_mul] at h2; rw [Int.neg_mul]; exact Int.le_trans (Int.neg_le_neg h2) h1)
  obtain ⟨r, r1, r2, r3, r4⟩ := S.add_op l0 p2 (by omega)
  exact ⟨d, p, r, d1, p1, r1, r3, d2, p2, r2, n1, n2, r4.near (by omega)⟩
/-- With the share 0, or toward itself, a part stays. -/
theorem damp_still {l x k : Nat} (hl : S.okP l) (hx : S.okP x) (hk : okK k) (h : S.fval k = 0 ∨ S.fval x = S.fval l) : ∃ r, DampIs l x k r ∧ r < 4294967296 ∧ S.isNum r ∧ S.fval r = S.fval l := by
  obtain ⟨d, p, r, h1, h2, h3, hr, nd, np, nr, e1, e2, e3⟩ := damp_ex hl hx hk
  have hp : S.fval p = 0 := by
    have hz : S.fval d * S.fval k = 0 := by
      rcases h with h | h
      · rw [h, Int.mul_zero]
      · have : S.fval d = 0 := by
          rw [h, Int.sub_self] at e1
          exact near_one e1 repS_zero
        rw [this, Int.zero_mul]
    rw [hz] at e2
    exact S.NearI.exact (g := 0) (by rw [Int.zero_mul]; exact e2) repS_zero
  refine ⟨r, ⟨d, p, h1, h2, h3⟩, hr, nr, ?_⟩
  rw [hp, Int.add_zero] at e3
  exact near_one (g := S.fval l) e3 (S.rep_num hl.1)
/-- A damped part is a word. -/
theorem damp_is {l x k : Nat} (hl : S.okP l) (hx : S.okP x) (hk : okK k) : ∃ r, DampIs l x k r ∧ r < 4294967296 ∧ S.isNum r := by
  obtain ⟨d, p, r, h1, h2, h3, hr, nd, np, nr, _⟩ := damp_ex hl hx hk
  exact ⟨r, ⟨d, p, h1, h2, h3⟩, hr, nr⟩
theorem order_same {x y : Nat} (hx : S.isNum x) (hy : S.isNum y) (h : S.fval x = S.fval y) : FloatKind.f32.format.order x y = some .eq := by
  have := S.order_val hx hy
  rw [h, Int.compare_eq_eq.2 rfl] at this
  exact this
theorem okP_same {x y : Nat} (hy : S.isNum y) (h : S.fval y = S.fval x) (hx : S.okP x) : S.okP y := ⟨hy, by rw [h]; exact hx.2⟩
theorem okK_zero : okK 0 := ⟨S.isNum_of S.nought_num, by rw [S.nought_val]; omega, by rw [S.nought_val]; omega⟩
theorem okK_one : okK 1065353216 := ⟨S.isNum_of oneW_num, by rw [oneW_val]; omega, by rw [oneW_val]; exact Int.le_refl _⟩

/-- An eighth. -/
noncomputable def eigV : Nat := 2 ^ (S.fixE - 3)
theorem one_eig : S.oneV = 8 * eigV := by
  unfold S.oneV eigV
  have := S.fixE_eq
  rw [show (8 : Nat) = 2 ^ 3 from rfl, ← Nat.pow_add, show 3 + (S.fixE - 3) = S.fixE by omega]
theorem eig_pos : 0 < eigV := Nat.two_pow_pos _
theorem eightS_num : S.f32.read 1090519040 = .number false 8388608 (-20) := by kernel_rfl
theorem eightS_val : S.fval 1090519040 = ((8 * S.oneV : Nat) : Int) := by
  have hf := S.fixE_eq
  unfold S.fval; rw [eightS_num]; show signed false 8388608 (-20 + 149 : Int).toNat = _
  rw [show (-20 + 149 : Int).toNat = S.fixE - 20 by omega, signed_eq]
  show ((8388608 * 2 ^ (S.fixE - 20) : Nat) : Int) = ((8 * S.oneV : Nat) : Int)
  unfold S.oneV
  rw [show (8388608 : Nat) = 2 ^ 23 from rfl, show (8 : Nat) = 2 ^ 3 from rfl, ← Nat.pow_add, ← Nat.pow_add, show 23 + (S.fixE - 20) = 3 + S.fixE by omega]
theorem rep_eig (n : Int) (h : n.natAbs ≤ 16777216) : S.Rep (n * (eigV : Int)) := ⟨n.natAbs, S.fixE - 3, h, by rw [Int.natAbs_mul]; rfl⟩
/-- A whole number of eighths, as a float32. -/
def Eig (n : Int) (x : Nat) : Prop := S.isNum x ∧ x < 4294967296 ∧ S.fval x = n * (eigV : Int)
theorem eig_ex (n : Int) (h0 : -1000 ≤ n) (h1 : n ≤ 1000) : ∃ x, floatBits .quo .f32 (floatOfInt .f32 n) 1090519040 = some x ∧ Eig n x := by
  have hO := oneS_pos
  have hE := S.fixE_eq
  obtain ⟨a1, a2⟩ := S.ofInt_val n (by omega) (by omega)
  have b1 := S.isNum_of eightS_num
  have ab : (S.fval (floatOfInt .f32 n)).natAbs = n.natAbs * S.oneV := by rw [a2, Int.natAbs_mul]; rfl
  obtain ⟨r, r1, r2, r3, s, t, R, e1, e2, e3, hn⟩ := S.div_op a1 b1 (by
      rw [ab, Nat.pow_add]
      show n.natAbs * S.oneV < S.oneV * 2 ^ 50
      rw [Nat.mul_comm S.oneV]
      exact Nat.mul_lt_mul_of_pos_right (by have : (2 : Nat) ^ 50 = 1125899906842624 := rfl
                                            omega) hO) (by
      rw [eightS_val, Int.natAbs_natCast]
      have : 2 ^ (S.fixE - 50) ≤ S.oneV := by unfold S.oneV; exact Nat.pow_le_pow_right (by omega) (by omega)
      omega)
  refine ⟨r, r1, r2, r3, ?_⟩
  rw [ab, eightS_val, Int.natAbs_natCast] at hn
  have hq := hn n.natAbs (S.fixE - 3) (by omega)
  have hk : n.natAbs * 2 ^ (S.fixE - 3) * (8 * S.oneV) = n.natAbs * S.oneV * S.oneV := by
    show n.natAbs * eigV * (8 * S.oneV) = _
    have e8 := one_eig
    rw [Nat.mul_assoc, ← Nat.mul_assoc eigV, Nat.mul_comm eigV 8, ← e8, ← Nat.mul_assoc]
  have hR : R = n.natAbs * eigV := Nat.le_antisymm (hq.2.1 (by rw [hk]; exact Nat.le_refl _)) (hq.1 (by rw [hk]; exact Nat.le_refl _))
  have ht : t = false := by
    rw [eightS_val] at e3
    cases t
    · rfl
    · simp only [if_true, Int.natAbs_natCast] at e3; omega
  subst ht
  rw [e1, hR, Int.natCast_mul]
  rw [a2] at e2
  have hOi : (0 : Int) < (S.oneV : Int) := by omega
  cases s
  · simp only [Bool.xor_false, Bool.false_eq_true, if_false] at e2 ⊢
    have h2 : 0 ≤ n := by
      rcases Int.lt_or_le n 0 with h | h
      · have := Int.mul_neg_of_neg_of_pos h hOi; omega
      · exact h
    rw [show ((n.natAbs : Nat) : Int) = n by omega]
  · simp only [Bool.xor_false, if_true] at e2 ⊢
    have h2 : n ≤ 0 := by
      rcases Int.lt_or_le 0 n with h | h
      · have := Int.mul_pos h hOi; omega
      · exact h
    rw [show ((n.natAbs : Nat) : Int) = -n by omega, Int.neg_mul, Int.neg_neg]
theorem Eig.okP {n : Int} {x : Nat} (h : Eig n x) (h0 : n.natAbs ≤ 800) : S.okP x := by
  refine ⟨h.1, ?_⟩
  rw [h.2.2, Int.natAbs_mul, one_eig]
  show n.natAbs * eigV ≤ 100 * (8 * eigV)
  have := Nat.mul_le_mul_right eigV h0
  rw [← Nat.mul_assoc]; exact this
theorem eig_bd {n : Int} {x : Nat} (h : Eig n x) (h0 : n.natAbs ≤ 4000) : (S.fval x).natAbs ≤ 500 * S.oneV := by
  rw [h.2.2, Int.natAbs_mul, one_eig]
  show n.natAbs * eigV ≤ 500 * (8 * eigV)
  have := Nat.mul_le_mul_right eigV h0
  rw [← Nat.mul_assoc]; exact this
theorem eig_sub {a b : Int} {x y : Nat} (hx : Eig a x) (hy : Eig b y) (ha : a.natAbs ≤ 4000) (hb : b.natAbs ≤ 4000) : ∃ r, floatBits .sub .f32 x y = some r ∧ Eig (a - b) r := by
  have b1 := oneS_lt 1001 (by decide)
  have hO := oneS_pos
  have c1 := eig_bd hx ha
  have c2 := eig_bd hy hb
  obtain ⟨r, r1, r2, r3, r4⟩ := S.sub_op hx.1 hy.1 (by omega)
  refine ⟨r, r1, r2, r3, ?_⟩
  have hn := r4.near (by omega)
  rw [hx.2.2, hy.2.2, ← Int.sub_mul] at hn
  exact near_one (g := (a - b) * (eigV : Int)) hn (rep_eig _ (by omega))
theorem eig_add {a b : Int} {x y : Nat} (hx : Eig a x) (hy : Eig b y) (ha : a.natAbs ≤ 4000) (hb : b.natAbs ≤ 4000) : ∃ r, floatBits .add .f32 x y = some r ∧ Eig (a + b) r := by
  have b1 := oneS_lt 1001 (by decide)
  have hO := oneS_pos
  have c1 := eig_bd hx ha
  have c2 := eig_bd hy hb
  obtain ⟨r, r1, r2, r3, r4⟩ := S.add_op hx.1 hy.1 (by omega)
  refine ⟨r, r1, r2, r3, ?_⟩
  have hn := r4.near (by omega)
  rw [hx.2.2, hy.2.2, ← Int.add_mul] at hn
  exact near_one (g := (a + b) * (eigV : Int)) hn (rep_eig _ (by omega))
/-- Damped with the share 1 an eighth becomes the new one. -/
theorem eig_damp {a b : Int} {l x : Nat} (hl : Eig a l) (hx : Eig b x) (ha : a.natAbs ≤ 800) (hb : b.natAbs ≤ 800) : ∃ r, DampIs l x 1065353216 r ∧ Eig b r := by
  obtain ⟨d, p, r, h1, h2, h3, hr, nd, np, nr, e1, e2, e3⟩ := damp_ex (hl.okP ha) (hx.okP hb) okK_one
  refine ⟨r, ⟨d, p, h1, h2, h3⟩, nr, hr, ?_⟩
  rw [oneW_val] at e2
  have hp : S.fval p = S.fval d := S.NearI.exact e2 (S.rep_num nd)
  rw [hx.2.2, hl.2.2, ← Int.sub_mul] at e1
  have hd : S.fval d = (b - a) * (eigV : Int) := near_one (g := (b - a) * (eigV : Int)) e1 (rep_eig _ (by omega))
  rw [hp, hd, hl.2.2, ← Int.add_mul, show a + (b - a) = b by omega] at e3
  exact near_one (g := b * (eigV : Int)) e3 (rep_eig _ (by omega))
theorem eig_same {a : Int} {x y : Nat} (hx : Eig a x) (hy : Eig a y) : FloatKind.f32.format.order x y = some .eq := order_same hx.1 hy.1 (hx.2.2.trans hy.2.2.symm)
end Go.Proofs.Ytonoknbangnleaa
