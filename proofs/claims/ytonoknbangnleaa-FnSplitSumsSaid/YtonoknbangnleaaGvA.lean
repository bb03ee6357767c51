/- Velocities of headings and speeds, with a stream, along and off a track: words and their values. Nothing here speaks of the program. -/
import Derived.Test.YtonoknbangnleaaDmM
import Derived.Test.YtonoknbangnleaaDt
import Derived.Test.YtonoknbangnleaaVk
namespace Go.Proofs.Ytonoknbangnleaa
open Go.RowKit Ieee
set_option linter.unusedVariables false
set_option linter.unusedSimpArgs false

theorem sord_num {x y : Nat} (hx : S.isNum x) (hy : S.isNum y) : FloatKind.f32.format.order x y = some (compare (S.fval x) (S.fval y)) := S.order_val hx hy
theorem fifty_num : S.f32.read 1112014848 = .number false 13107200 (-18) := by kernel_rfl
theorem fifty_val : S.fval 1112014848 = 50 * (S.oneV : Int) := by
  have hf := S.fixE_eq
  unfold S.fval; rw [fifty_num]; show signed false 13107200 (-18 + 149 : Int).toNat = _
  rw [show (-18 + 149 : Int).toNat = S.fixE - 18 by omega, signed_eq]
  show ((13107200 * 2 ^ (S.fixE - 18) : Nat) : Int) = 50 * ((S.oneV : Nat) : Int)
  unfold S.oneV; rw [show (13107200 : Nat) = 50 * 2 ^ 18 from rfl, Nat.mul_assoc, ← Nat.pow_add, show 18 + (S.fixE - 18) = S.fixE by omega, Int.natCast_mul]; rfl
/-- A word is a number from 0 to C. -/
theorem range_flag (C : Nat) (hC : S.isNum C) (k : Nat) (hk : k < 4294967296) : ∃ t u : Bool, ((t && u) = true ↔ S.isNum k ∧ 0 ≤ S.fval k ∧ S.fval k ≤ S.fval C) ∧
    (FloatKind.f32.format.order 0 k == some .lt || FloatKind.f32.format.order 0 k == some .eq) = t ∧
    (FloatKind.f32.format.order k 0 == some .gt || FloatKind.f32.format.order k 0 == some .eq) = t ∧
    (FloatKind.f32.format.order k C == some .lt || FloatKind.f32.format.order k C == some .eq) = u := by
  have h0 := S.isNum_of S.nought_num
  by_cases hE : S.expo k < 255
  · have hn := S.num_of_expo hk hE
    have e1 : FloatKind.f32.format.order 0 k = some (compare 0 (S.fval k)) := by have := S.order_val h0 hn; rw [S.nought_val] at this; exact this
    have e2 : FloatKind.f32.format.order k 0 = some (compare (S.fval k) 0) := by have := S.order_val hn h0; rw [S.nought_val] at this; exact this
    rw [e1, e2, sord_num hn hC]
    refine ⟨_, _, ?_, rfl, ?_, rfl⟩
    · rw [Bool.and_eq_true, S.cmp_flag, S.cmp_flag]
      exact ⟨fun h => ⟨hn, h⟩, fun h => h.2⟩
    · generalize S.fval k = v
      rcases Int.lt_trichotomy v 0 with h | h | h
      · rw [Int.compare_eq_lt.2 h, Int.compare_eq_gt.2 h]; rfl
      · subst h; rfl
      · rw [Int.compare_eq_gt.2 h, Int.compare_eq_lt.2 h]; rfl
  · have hE2 : S.expo k = 255 := by have := S.expo_le k; omega
    have hno : ¬ (S.isNum k ∧ 0 ≤ S.fval k ∧ S.fval k ≤ S.fval C) := fun h => hE (S.expo_of_num hk h.1)
    rcases S.read_full hk hE2 with h | ⟨b, h⟩
    · have e2 : FloatKind.f32.format.order k 0 = some (if S.sneg k then .lt else .gt) := S.order_inf h h0
      have e3 : FloatKind.f32.format.order k C = some (if S.sneg k then .lt else .gt) := S.order_inf h hC
      have e1 : FloatKind.f32.format.order 0 k = some (if S.sneg k then .gt else .lt) := by
        have h' : FloatKind.f32.format.read k = .infinity (S.sneg k) := h
        unfold Format.order; rw [h', show FloatKind.f32.format.read 0 = _ from S.nought_num]; cases S.sneg k <;> rfl
      rw [e1, e2, e3]
      refine ⟨_, _, ?_, rfl, ?_, rfl⟩
      · cases S.sneg k <;> simp [hno]
      · cases S.sneg k <;> rfl
    · have e2 : ∀ z, FloatKind.f32.format.order k z = none := fun z => S.order_nan h z
      have e1 : FloatKind.f32.format.order 0 k = none := by
        have h' : FloatKind.f32.format.read k = .nan (S.sneg k) b := h
        unfold Format.order; rw [h', show FloatKind.f32.format.read 0 = _ from S.nought_num]; rfl
      rw [e1, e2, e2]
      exact ⟨false, false, by simp [hno], rfl, rfl, rfl⟩
/-- A speed of a boat. -/
def okBs (x : Nat) : Prop := x < 4294967296 ∧ S.isNum x ∧ 0 ≤ S.fval x ∧ S.fval x ≤ 50 * (S.oneV : Int)
theorem speed_flag (k : Nat) (hk : k < 4294967296) : ∃ t u : Bool, ((t && u) = true ↔ okBs k) ∧
    (FloatKind.f32.format.order 0 k == some .lt || FloatKind.f32.format.order 0 k == some .eq) = t ∧
    (FloatKind.f32.format.order k 0 == some .gt || FloatKind.f32.format.order k 0 == some .eq) = t ∧
    (FloatKind.f32.format.order k 1112014848 == some .lt || FloatKind.f32.format.order k 1112014848 == some .eq) = u := by
  obtain ⟨t, u, h, r⟩ := range_flag 1112014848 (S.isNum_of fifty_num) k hk
  rw [fifty_val] at h
  exact ⟨t, u, h.trans ⟨fun h => ⟨hk, h⟩, fun h => h.2⟩, r⟩

/-! ### Words -/
def nrW (y : Nat) : Nat := (floatToFloatBits .f64 y .f32).getD 0
def mS (a b : Nat) : Nat := (floatBits .mul .f32 a b).getD 0
def aS (a b : Nat) : Nat := (floatBits .add .f32 a b).getD 0
/-- The velocity of a heading; over ground; widened; what it makes along a turn, and across. -/
def velW (s k : Nat) : Nat × Nat := (mS (nrW (trn k).1) s, mS (nrW (trn k).2) s)
def grdW (s u v k : Nat) : Nat × Nat := (aS (velW s k).1 u, aS (velW s k).2 v)
def widW (g : Nat × Nat) : Nat × Nat := (wid g.1, wid g.2)
def crsW (t g : Nat × Nat) : Nat := sb (ml t.1 g.2) (ml t.2 g.1)

theorem nar_gen {y : Nat} (h : isNum y) (hb : (fval y).natAbs ≤ 2 * oneV) :
    floatToFloatBits .f64 y .f32 = some (nrW y) ∧ S.isNum (nrW y) ∧ nrW y < 4294967296 ∧ S.NearI (S.fval (nrW y)) (fval y) widV ∧ (S.fval (nrW y)).natAbs ≤ 2 * S.oneV := by
  have hf := fixW_eq
  obtain ⟨s, m, i, e, hi, hm⟩ := h
  have hw : fval y = signed s m (i + 1074).toNat := by unfold fval; rw [e]; rfl
  have habs : m * 2 ^ (i + 1074).toNat = (fval y).natAbs := by rw [hw]; exact (val_amount s m _).1.symm
  have hlt : 2 * S.oneV < 2 ^ S.fixB := oneS_lt 2 (by decide)
  have hbb : m * 2 ^ (i + 1074).toNat < 2 ^ (S.fixB + fixW) := by
    rw [habs, Nat.pow_add]
    refine Nat.lt_of_le_of_lt hb ?_
    rw [oneV_wid, ← Nat.mul_assoc]
    exact Nat.mul_lt_mul_of_pos_right hlt widV_pos
  obtain ⟨n1, R, n2, n3⟩ := S.near_core s m i fixW (i + 1074).toNat (by omega) (by rw [← S.fixB_eq]; exact hbb)
  have hr : floatToFloatBits .f64 y .f32 = some (S.f32.nearest s m i) := by
    obtain ⟨s', m', i', e', _⟩ := n1
    unfold floatToFloatBits
    rw [if_neg (by decide)]
    rw [show FloatKind.f64.decode y = .number s m i from e]
    show (if (S.f32.read (S.f32.nearest s m i)).isInfinity then none else some (S.f32.nearest s m i)) = _
    rw [e']; rfl
  have hnr : nrW y = S.f32.nearest s m i := by unfold nrW; rw [hr]; rfl
  have hN : S.NearI (S.fval (S.f32.nearest s m i)) (fval y) widV := by
    have h9 : S.Rounds (S.fval (S.f32.nearest s m i)) (fval y) widV := ⟨s, R, m * 2 ^ (i + 1074).toNat, n2, by rw [hw, signed_eq], n3⟩
    exact h9.near widV_pos
  rw [hnr]
  refine ⟨hr, n1, S.f32.write_lt (.number s m i), hN, ?_⟩
  have e1 : (2 * (S.oneV : Int)) * (widV : Int) = ((2 * oneV : Nat) : Int) := by rw [oneV_wid, Int.natCast_mul, Int.natCast_mul, ← Int.mul_assoc]; rfl
  have b1 := near_le hN (rep_times 2 (by omega)) (by
    show fval y ≤ (2 * (S.oneV : Int)) * (widV : Int)
    rw [e1]; omega)
  have b2 := near_ge hN (S.rep_neg (rep_times 2 (by omega))) (by
    show -(2 * (S.oneV : Int)) * (widV : Int) ≤ fval y
    rw [Int.neg_mul, e1]; omega)
  omega

theorem mS_ok {a s : Nat} (ha : S.isNum a) (hab : (S.fval a).natAbs ≤ 2 * S.oneV) (hs : okBs s) :
    floatBits .mul .f32 a s = some (mS a s) ∧ S.isNum (mS a s) ∧ mS a s < 4294967296 ∧ S.NearI (S.fval (mS a s)) (S.fval a * S.fval s) S.oneV ∧ (S.fval (mS a s)).natAbs ≤ 100 * S.oneV := by
  have hO := oneS_pos
  have hk : (S.fval a * S.fval s).natAbs ≤ 100 * S.oneV * S.oneV := by
    have h1 : (S.fval s).natAbs ≤ 50 * S.oneV := by have := hs.2.2; omega
    rw [Int.natAbs_mul]
    have := Nat.mul_le_mul hab h1
    rw [show 2 * S.oneV * (50 * S.oneV) = 100 * S.oneV * S.oneV by rw [← Nat.mul_assoc, Nat.mul_right_comm 2 S.oneV 50]] at this
    exact this
  obtain ⟨p, p1, p2, p3, p4⟩ := S.mul_op ha hs.2.1 (by
    have h1 : 100 * S.oneV * S.oneV < 2 ^ S.fixB * S.oneV := Nat.mul_lt_mul_of_pos_right (oneS_lt 100 (by decide)) hO
    rw [Nat.pow_add]
    exact Nat.lt_of_le_of_lt hk h1)
  have hp : mS a s = p := by unfold mS; rw [show floatBits .mul .f32 a s = some p from p1]; rfl
  have n2 := p4.near hO
  rw [hp]
  refine ⟨p1, p2, p3, n2, ?_⟩
  have b1 := near_le n2 (rep_times 100 (by omega)) (by
    have h1 : S.fval a * S.fval s ≤ ((S.fval a * S.fval s).natAbs : Int) := by omega
    have h2 : ((S.fval a * S.fval s).natAbs : Int) ≤ ((100 * S.oneV * S.oneV : Nat) : Int) := by exact_mod_cast hk
    rw [Int.natCast_mul, Int.natCast_mul] at h2; exact Int.le_trans h1 h2)
  have b2 := near_ge n2 (S.rep_neg (rep_times 100 (by omega))) (by
    have h1 : -((S.fval a * S.fval s).natAbs : Int) ≤ S.fval a * S.fval s := by omega
    have h2 : ((S.fval a * S.fval s).natAbs : Int) ≤ ((100 * S.oneV * S.oneV : Nat) : Int) := by exact_mod_cast hk
    rw [Int.natCast_mul, Int.natCast_mul] at h2; rw [Int.neg_mul]; exact Int.le_trans (Int.neg_le_neg h2) h1)
  omega

/-- All that a walk asks of the velocity of a heading. -/
structure VelOk (s k : Nat) : Prop where
  c1 : floatToFloatBits .f64 (trn k).1 .f32 = some (nrW (trn k).1)
  c2 : floatToFloatBits .f64 (trn k).2 .f32 = some (nrW (trn k).2)
  m1 : floatBits .mul .f32 (nrW (trn k).1) s = some (velW s k).1
  m2 : floatBits .mul .f32 (nrW (trn k).2) s = some (velW s k).2
  n1 : S.isNum (velW s k).1
  n2 : S.isNum (velW s k).2
  l1 : (velW s k).1 < 4294967296
  l2 : (velW s k).2 < 4294967296
  b1 : (S.fval (velW s k).1).natAbs ≤ 100 * S.oneV
  b2 : (S.fval (velW s k).2).natAbs ≤ 100 * S.oneV
  r1 : S.NearI (S.fval (nrW (trn k).1)) (fval (trn k).1) widV
  r2 : S.NearI (S.fval (nrW (trn k).2)) (fval (trn k).2) widV
  q1 : S.NearI (S.fval (velW s k).1) (S.fval (nrW (trn k).1) * S.fval s) S.oneV
  q2 : S.NearI (S.fval (velW s k).2) (S.fval (nrW (trn k).2) * S.fval s) S.oneV
theorem vel_ok {s k : Nat} (hs : okBs s) (hk : k < 360) : VelOk s k := by
  obtain ⟨⟨t1, t2⟩, t3, t4⟩ := turn_part hk
  obtain ⟨a1, a2, a3, a4, a5⟩ := nar_gen t1 t2
  obtain ⟨c1, c2, c3, c4, c5⟩ := nar_gen t3 t4
  obtain ⟨x1, x2, x3, x4, x5⟩ := mS_ok a2 a5 hs
  obtain ⟨y1, y2, y3, y4, y5⟩ := mS_ok c2 c5 hs
  exact ⟨a1, c1, x1, y1, x2, y2, x3, y3, x5, y5, a4, c4, x4, y4⟩

theorem aS_ok {a u : Nat} (ha : S.isNum a) (hab : (S.fval a).natAbs ≤ 100 * S.oneV) (hu : S.okP u) :
    floatBits .add .f32 a u = some (aS a u) ∧ S.isNum (aS a u) ∧ aS a u < 4294967296 ∧ S.NearI (S.fval (aS a u)) (S.fval a + S.fval u) 1 ∧ (S.fval (aS a u)).natAbs ≤ 200 * S.oneV := by
  have hu2 := hu.2
  have hlt := oneS_lt 201 (by decide)
  obtain ⟨p, p1, p2, p3, p4⟩ := S.add_op ha hu.1 (by omega)
  have hp : aS a u = p := by unfold aS; rw [show floatBits .add .f32 a u = some p from p1]; rfl
  have n2 := p4.near (by omega)
  rw [hp]
  refine ⟨p1, p2, p3, n2, ?_⟩
  have e : ((200 : Nat) : Int) = 200 := rfl
  have b1 := near_le n2 (rep_times 200 (by omega)) (by rw [Int.natCast_one, Int.mul_one, e]; omega)
  have b2 := near_ge n2 (S.rep_neg (rep_times 200 (by omega))) (by rw [Int.natCast_one, Int.mul_one, e]; omega)
  omega
/-- All that a walk asks of a velocity over ground. -/
structure GrdOk (s u v k : Nat) : Prop where
  a1 : floatBits .add .f32 (velW s k).1 u = some (grdW s u v k).1
  a2 : floatBits .add .f32 (velW s k).2 v = some (grdW s u v k).2
  l1 : (grdW s u v k).1 < 4294967296
  l2 : (grdW s u v k).2 < 4294967296
  n1 : S.isNum (grdW s u v k).1
  n2 : S.isNum (grdW s u v k).2
  w1 : floatToFloatBits .f32 (grdW s u v k).1 .f64 = some (wid (grdW s u v k).1)
  w2 : floatToFloatBits .f32 (grdW s u v k).2 .f64 = some (wid (grdW s u v k).2)
  i1 : isNum (wid (grdW s u v k).1)
  i2 : isNum (wid (grdW s u v k).2)
  b1 : (fval (wid (grdW s u v k).1)).natAbs ≤ 256 * oneV
  b2 : (fval (wid (grdW s u v k).2)).natAbs ≤ 256 * oneV
  r1 : S.NearI (S.fval (grdW s u v k).1) (S.fval (velW s k).1 + S.fval u) 1
  r2 : S.NearI (S.fval (grdW s u v k).2) (S.fval (velW s k).2 + S.fval v) 1
  v1 : fval (wid (grdW s u v k).1) = S.fval (grdW s u v k).1 * (widV : Int)
  v2 : fval (wid (grdW s u v k).2) = S.fval (grdW s u v k).2 * (widV : Int)
theorem grd_ok {s u v k : Nat} (hs : okBs s) (hk : k < 360) (hv : okV u v) : GrdOk s u v k := by
  have V := vel_ok hs hk
  obtain ⟨a1, a2, a3, a4, a5⟩ := aS_ok V.n1 V.b1 hv.2.1
  obtain ⟨c1, c2, c3, c4, c5⟩ := aS_ok V.n2 V.b2 hv.2.2
  obtain ⟨x1, x2, x3⟩ := wid_num a3 a2
  obtain ⟨y1, y2, y3⟩ := wid_num c3 c2
  have key : ∀ z : Int, z.natAbs ≤ 200 * S.oneV → (z * (widV : Int)).natAbs ≤ 256 * oneV := fun z hz => by
    rw [Int.natAbs_mul, oneV_wid, ← Nat.mul_assoc, Int.natAbs_natCast]
    exact Nat.mul_le_mul_right _ (by omega)
  exact ⟨a1, c1, a3, c3, a2, c2, x1, y1, x2, y2, by show (fval (wid (aS _ _))).natAbs ≤ _; rw [x3]; exact key _ a5, by show (fval (wid (aS _ _))).natAbs ≤ _; rw [y3]; exact key _ c5, a4, c4, x3, y3⟩

/-- A product of a part of a turn and of a velocity. -/
theorem fm_ok {x y : Nat} (hx : isNum x) (hxb : (fval x).natAbs ≤ 2 * oneV) (hy : isNum y) (hyb : (fval y).natAbs ≤ 256 * oneV) :
    floatBits .mul .f64 x y = some (ml x y) ∧ isNum (ml x y) ∧ ml x y < 18446744073709551616 ∧ (fval (ml x y)).natAbs ≤ 512 * oneV ∧ NearI (fval (ml x y)) (fval x * fval y) oneV := by
  have hb := oneV_bound
  have hpos : 0 < oneV := Nat.two_pow_pos _
  have hab : (fval x * fval y).natAbs ≤ 512 * oneV * oneV := by
    rw [Int.natAbs_mul]
    have := Nat.mul_le_mul hxb hyb
    rw [show 2 * oneV * (256 * oneV) = 512 * oneV * oneV by rw [← Nat.mul_assoc, Nat.mul_right_comm 2 oneV 256]] at this
    exact this
  obtain ⟨p, h1, h2, h3, h4⟩ := mul_op hx hy (by
    rw [Nat.pow_add]
    refine Nat.lt_of_le_of_lt hab (Nat.mul_lt_mul_of_pos_right ?_ hpos)
    omega)
  have hn := h4.near hpos
  have hr := rep_units 512 (by omega)
  have r1 := (hn _ hr).2
  have r2 := (hn _ (rep_neg hr)).1
  rw [← Int.natCast_mul] at r1
  rw [Int.neg_mul, ← Int.natCast_mul] at r2
  have b1 := r1 (by omega)
  have b2 := r2 (by omega)
  have e : ml x y = p := by unfold ml; rw [h1]; rfl
  rw [e]
  exact ⟨h1, h2, h3, by omega, hn⟩
/-- All that a walk asks of what is made along a turn and across. -/
structure DcOk (t g : Nat × Nat) : Prop where
  d1 : floatBits .mul .f64 t.1 g.1 = some (ml t.1 g.1)
  d2 : floatBits .mul .f64 t.2 g.2 = some (ml t.2 g.2)
  d3 : floatBits .add .f64 (ml t.1 g.1) (ml t.2 g.2) = some (dotW t g)
  dn : isNum (dotW t g)
  dl : dotW t g < 18446744073709551616
  e1 : NearI (fval (ml t.1 g.1)) (fval t.1 * fval g.1) oneV
  e2 : NearI (fval (ml t.2 g.2)) (fval t.2 * fval g.2) oneV
  e3 : NearI (fval (dotW t g)) (fval (ml t.1 g.1) + fval (ml t.2 g.2)) 1
  c1 : floatBits .mul .f64 t.1 g.2 = some (ml t.1 g.2)
  c2 : floatBits .mul .f64 t.2 g.1 = some (ml t.2 g.1)
  c3 : floatBits .sub .f64 (ml t.1 g.2) (ml t.2 g.1) = some (crsW t g)
  cn : isNum (crsW t g)
  cl : crsW t g < 18446744073709551616
  f1 : NearI (fval (ml t.1 g.2)) (fval t.1 * fval g.2) oneV
  f2 : NearI (fval (ml t.2 g.1)) (fval t.2 * fval g.1) oneV
  f3 : NearI (fval (crsW t g)) (fval (ml t.1 g.2) - fval (ml t.2 g.1)) 1
theorem dc_ok {j : Nat} (hj : j < 360) {g : Nat × Nat} (g1 : isNum g.1) (g2 : isNum g.2) (b1 : (fval g.1).natAbs ≤ 256 * oneV) (b2 : (fval g.2).natAbs ≤ 256 * oneV) : DcOk (trn j) g := by
  have hb := oneV_bound
  obtain ⟨⟨t1, t2⟩, t3, t4⟩ := turn_part hj
  obtain ⟨x1, x2, x3, x4, x5⟩ := fm_ok t1 t2 g1 b1
  obtain ⟨y1, y2, y3, y4, y5⟩ := fm_ok t3 t4 g2 b2
  obtain ⟨z1, z2, z3, z4, z5⟩ := fm_ok t1 t2 g2 b2
  obtain ⟨w1, w2, w3, w4, w5⟩ := fm_ok t3 t4 g1 b1
  obtain ⟨p, p1, p2, p3, p4⟩ := add_op x2 y2 (by omega)
  obtain ⟨q, q1, q2, q3, q4⟩ := sub_op z2 w2 (by omega)
  have ep : dotW (trn j) g = p := by unfold dotW ad; rw [p1]; rfl
  have eq : crsW (trn j) g = q := by unfold crsW sb; rw [q1]; rfl
  exact ⟨x1, y1, by rw [ep]; exact p1, by rw [ep]; exact p2, by rw [ep]; exact p3, x5, y5, by rw [ep]; exact p4.near (by omega), z1, w1, by rw [eq]; exact q1, by rw [eq]; exact q2, by rw [eq]; exact q3, z5, w5, by rw [eq]; exact q4.near (by omega)⟩
/-- Along and across a track, for a heading. -/
def alW (s u v j k : Nat) : Nat := dotW (trn j) (widW (grdW s u v k))
def ofW (s u v j k : Nat) : Nat := crsW (trn j) (widW (grdW s u v k))
theorem dc_grd {s u v j k : Nat} (hs : okBs s) (hj : j < 360) (hk : k < 360) (hv : okV u v) : DcOk (trn j) (widW (grdW s u v k)) := by
  have G := grd_ok hs hk hv
  exact dc_ok hj G.i1 G.i2 G.b1 G.b2
end Go.Proofs.Ytonoknbangnleaa
