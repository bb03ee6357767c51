/- Which station is nearest; what a stream is; when it is slack: plain facts. -/
import Derived.Test.YtbklmfchbojboaaTdI
namespace Go.Proofs.Ytbklmfchbojboaa
open Go.RowKit Ieee
set_option linter.unusedSimpArgs false
set_option linter.unusedVariables false

/-- The first one of the n first that is before all, by a relation. -/
def fstR (lt : Nat → Nat → Bool) : Nat → Nat
  | 0 => 0
  | n + 1 => if lt n (fstR lt n) = true then n else fstR lt n
theorem fstR_step (lt : Nat → Nat → Bool) (n : Nat) : fstR lt (n + 1) = if lt n (fstR lt n) = true then n else fstR lt n := rfl
theorem fstR_le (lt : Nat → Nat → Bool) (n : Nat) : fstR lt (n + 1) ≤ n := by
  induction n with
  | zero => rw [fstR_step]; split <;> simp [fstR]
  | succ n ih => rw [fstR_step]; split <;> omega
theorem fstR_lt (lt : Nat → Nat → Bool) {n : Nat} (hn : 0 < n) : fstR lt n < n := by
  obtain ⟨m, rfl⟩ : ∃ m, n = m + 1 := ⟨n - 1, by omega⟩
  have := fstR_le lt m
  omega

/-- The distance of a station from a place, as both programs measure it. -/
def DistIs (Z : Stn) (a b s : Nat) : Prop := ∃ dx dy p q, floatBits .sub .f64 Z.a a = some dx ∧ floatBits .sub .f64 Z.b b = some dy ∧ floatBits .mul .f64 dx dx = some p ∧ floatBits .mul .f64 dy dy = some q ∧ floatBits .add .f64 p q = some s
theorem sub_part {x a : Nat} (hx : okP x) (ha : okP a) : ∃ d, floatBits .sub .f64 x a = some d ∧ isNum d ∧ (fval d).natAbs ≤ 268435456 * oneV := by
  have hb := oneV_bound
  obtain ⟨x0, x1⟩ := hx
  obtain ⟨a0, a1⟩ := ha
  obtain ⟨d, d1, d2, d3, d4⟩ := sub_op x0 a0 (by omega)
  have hn := d4.near (by omega)
  have hr := rep_units 268435456 (by omega)
  have r1 := (hn _ hr).2
  have r2 := (hn _ (rep_neg hr)).1
  rw [Int.natCast_one, Int.mul_one] at r1 r2
  have b1 := r1 (by omega)
  have b2 := r2 (by omega)
  exact ⟨d, d1, d2, by omega⟩
theorem sq_part {d : Nat} (hd : isNum d) (hb : (fval d).natAbs ≤ 268435456 * oneV) : ∃ p, floatBits .mul .f64 d d = some p ∧ isNum p ∧ (fval p).natAbs ≤ 72057594037927936 * oneV := by
  have hbd := oneV_bound
  have hpos : 0 < oneV := Nat.two_pow_pos _
  have hab : (fval d * fval d).natAbs ≤ 72057594037927936 * oneV * oneV := by
    rw [Int.natAbs_mul]
    have := Nat.mul_le_mul hb hb
    rw [show 268435456 * oneV * (268435456 * oneV) = 72057594037927936 * oneV * oneV by rw [← Nat.mul_assoc, Nat.mul_right_comm 268435456 oneV 268435456]] at this
    exact this
  obtain ⟨p, h1, h2, h3, h4⟩ := mul_op hd hd (by
    rw [Nat.pow_add]
    refine Nat.lt_of_le_of_lt hab (Nat.mul_lt_mul_of_pos_right ?_ hpos)
    omega)
  have hn := h4.near hpos
  have hr : Rep ((72057594037927936 * oneV : Nat) : Int) := ⟨1, 56 + fixE, by omega, by rw [Int.natAbs_natCast, Nat.pow_add, Nat.one_mul]; rfl⟩
  have r1 := (hn _ hr).2
  have r2 := (hn _ (rep_neg hr)).1
  rw [← Int.natCast_mul] at r1
  rw [Int.neg_mul, ← Int.natCast_mul] at r2
  have b1 := r1 (by omega)
  have b2 := r2 (by omega)
  exact ⟨p, h1, h2, by omega⟩
theorem dist_ex {Z : Stn} {a b : Nat} (hz : okP Z.a ∧ okP Z.b) (ha : okP a) (hb : okP b) : ∃ s, DistIs Z a b s := by
  have hbd := oneV_bound
  obtain ⟨dx, x1, x2, x3⟩ := sub_part hz.1 ha
  obtain ⟨dy, y1, y2, y3⟩ := sub_part hz.2 hb
  obtain ⟨p, p1, p2, p3⟩ := sq_part x2 x3
  obtain ⟨q, q1, q2, q3⟩ := sq_part y2 y3
  obtain ⟨s, s1, _⟩ := add_op p2 q2 (by omega)
  exact ⟨s, dx, dy, p, q, x1, y1, p1, q1, s1⟩

def NrOk (T : Tid) (a b : Nat) (ds : Nat → Nat) : Prop := ∀ i, i < T.ns → DistIs (T.st i) a b (ds i)
def ltD (ds : Nat → Nat) (i j : Nat) : Bool := FloatKind.f64.format.order (ds i) (ds j) == some .lt
/-- The station that is told. -/
def nr (T : Tid) (ds : Nat → Nat) : Nat := fstR (ltD ds) T.ns
theorem nr_ex {T : Tid} {a b : Nat} (h : StsOk T) (ha : okP a) (hb : okP b) : ∃ ds, NrOk T a b ds :=
  Go.Deep.choose_lt (α := Nat) (n := T.ns) (p := fun i s => DistIs (T.st i) a b s) (fun i hi => dist_ex (h.2 i hi).1 ha hb)

/-- The stream at each time. -/
def StrmIs (T : Tid) (ds : Nat → Nat) (f : Int → Nat × Nat) : Prop :=
  ∀ t, 0 ≤ t → t ≤ 10000000 → FlowIs (T.st (nr T ds)) (t - T.hi (fst (far T t) T.nh)) (f t).1 (f t).2 ∧ ((f t).1 < 4294967296 ∧ (f t).2 < 4294967296) ∧ S.isNum (f t).1 ∧ S.isNum (f t).2
theorem flow_num {Z : Stn} (h : FlOk Z.x Z.y) (o : Int) : ∃ u v, FlowIs Z o u v ∧ (u < 4294967296 ∧ v < 4294967296) ∧ S.isNum u ∧ S.isNum v := by
  obtain ⟨n0, n1⟩ := nOf_le o
  by_cases hr : nOf o % 3600 = 0
  · have hk := h (nOf o / 3600).toNat (by omega)
    exact ⟨_, _, .inl ⟨hr, rfl, rfl⟩, hk.1, hk.2.1.1, hk.2.2.1⟩
  · obtain ⟨q, q1, q2, q3⟩ := ratio_ok (n := nOf o % 3600) (by omega) (by omega)
    have hk := h (nOf o / 3600).toNat (by omega)
    have hl := h ((nOf o / 3600).toNat + 1) (by omega)
    obtain ⟨u, u1, u2, u3⟩ := damp_is hk.2.1 hl.2.1 q3
    obtain ⟨v, v1, v2, v3⟩ := damp_is hk.2.2 hl.2.2 q3
    exact ⟨u, v, .inr ⟨by omega, q, q1, q2, q3, u1, v1⟩, ⟨u2, v2⟩, u3, v3⟩
theorem strm_ex {T : Tid} {ds : Nat → Nat} (h : TidOk T) : ∃ f, StrmIs T ds f := by
  have hk : nr T ds < T.ns := fstR_lt _ (by have := h.1.1.1; omega)
  have hf := (h.1.2 _ hk).2
  have key : ∀ t : Int, ∃ p : Nat × Nat, FlowIs (T.st (nr T ds)) (t - T.hi (fst (far T t) T.nh)) p.1 p.2 ∧ (p.1 < 4294967296 ∧ p.2 < 4294967296) ∧ S.isNum p.1 ∧ S.isNum p.2 := fun t => by
    obtain ⟨u, v, h⟩ := flow_num hf (t - T.hi (fst (far T t) T.nh))
    exact ⟨(u, v), h⟩
  exact ⟨fun t => (key t).choose, fun t _ _ => (key t).choose_spec⟩

/-! ### Slack -/
theorem amt_num {x : Nat} (hx : x < 18446744073709551616) (h : isNum x) : isNum (amtW x) ∧ fval (amtW x) = ((fval x).natAbs : Int) := by
  obtain ⟨an, av⟩ := abs_num hx h
  unfold amtW
  rw [order_val h (isNum_of nought_num), nought_val]
  rcases Int.lt_or_le (fval x) 0 with k | k
  · rw [if_pos (congrArg some (Int.compare_eq_lt.2 k))]; exact ⟨an, av⟩
  · rw [if_neg (fun he => by injection he with he; have := Int.compare_eq_lt.1 he; omega)]; exact ⟨h, by omega⟩
theorem amt_numS {x : Nat} (hx : x < 4294967296) (h : S.isNum x) : S.isNum (S.amtW x) ∧ S.fval (S.amtW x) = ((S.fval x).natAbs : Int) := by
  obtain ⟨an, av⟩ := S.abs_num hx h
  unfold S.amtW
  rw [S.order_val h (S.isNum_of S.nought_num), S.nought_val]
  rcases Int.lt_or_le (S.fval x) 0 with k | k
  · rw [if_pos (congrArg some (Int.compare_eq_lt.2 k))]; exact ⟨an, av⟩
  · rw [if_neg (fun he => by injection he with he; have := Int.compare_eq_lt.1 he; omega)]; exact ⟨h, by omega⟩
theorem cmp_gt (v c : Int) : ((some (compare v c) == some Ordering.gt) = true) ↔ c < v := by
  rcases Int.lt_trichotomy v c with h | h | h
  · rw [Int.compare_eq_lt.2 h]; simp; omega
  · rw [Int.compare_eq_eq.2 h]; simp; omega
  · rw [Int.compare_eq_gt.2 h]; simp; omega
/-- A part of a stream is slack. -/
def Slk (u m : Nat) : Prop := ((S.fval u).natAbs : Int) ≤ S.fval m
instance (u m : Nat) : Decidable (Slk u m) := Int.decLe _ _
theorem slk_flag {u m : Nat} (hu : u < 4294967296) (nu : S.isNum u) (hm : m < 4294967296) (nm : S.isNum m) : ∃ t : Bool, (t = true ↔ Slk u m) ∧
    (FloatKind.f64.format.order (wid u % 9223372036854775808) (wid m) == some .lt || FloatKind.f64.format.order (wid u % 9223372036854775808) (wid m) == some .eq) = t ∧
    (FloatKind.f32.format.order (S.amtW u) m == some .lt || FloatKind.f32.format.order (S.amtW u) m == some .eq) = t ∧
    (FloatKind.f64.format.order (amtW (wid u)) (wid m) == some .gt) = !t := by
  obtain ⟨_, wn, wv⟩ := wid_num hu nu
  obtain ⟨_, mn, mv⟩ := wid_num hm nm
  obtain ⟨an, av⟩ := abs_num (wid_lt u) wn
  obtain ⟨bn, bv⟩ := amt_num (wid_lt u) wn
  obtain ⟨cn, cv⟩ := amt_numS hu nu
  have hp : (0 : Int) < (widV : Int) := by have := widV_pos; omega
  have e : ((fval (wid u)).natAbs : Int) = ((S.fval u).natAbs : Int) * (widV : Int) := by
    rw [wv, Int.natAbs_mul, Int.natAbs_natCast, Int.natCast_mul]
  have e1 : FloatKind.f64.format.order (wid u % 9223372036854775808) (wid m) = some (compare (((S.fval u).natAbs : Int) * (widV : Int)) (S.fval m * (widV : Int))) := (order_val an mn).trans (by rw [av, mv, e])
  have e2 : FloatKind.f32.format.order (S.amtW u) m = some (compare ((S.fval u).natAbs : Int) (S.fval m)) := (S.order_val cn nm).trans (by rw [cv])
  have e3 : FloatKind.f64.format.order (amtW (wid u)) (wid m) = some (compare (((S.fval u).natAbs : Int) * (widV : Int)) (S.fval m * (widV : Int))) := (order_val bn mn).trans (by rw [bv, mv, e])
  have hle : ((S.fval u).natAbs : Int) * (widV : Int) ≤ S.fval m * (widV : Int) ↔ ((S.fval u).natAbs : Int) ≤ S.fval m := Int.mul_le_mul_right hp
  have hd : (decide (Slk u m) = true) ↔ ((S.fval u).natAbs : Int) ≤ S.fval m := decide_eq_true_iff
  refine ⟨decide (Slk u m), hd, ?_, ?_, ?_⟩
  · rw [e1]
    exact Bool.eq_iff_iff.2 ((cmp_flag _ _).trans (hle.trans hd.symm))
  · rw [e2]
    exact Bool.eq_iff_iff.2 ((cmp_flag _ _).trans hd.symm)
  · rw [e3]
    refine Bool.eq_iff_iff.2 ((cmp_gt _ _).trans ?_)
    have h1 : (S.fval m * (widV : Int) < ((S.fval u).natAbs : Int) * (widV : Int)) ↔ ¬ (((S.fval u).natAbs : Int) * (widV : Int) ≤ S.fval m * (widV : Int)) := by
      generalize S.fval m * (widV : Int) = x
      generalize ((S.fval u).natAbs : Int) * (widV : Int) = y
      omega
    rw [h1, hle, ← hd]
    cases decide (Slk u m) <;> simp
end Go.Proofs.Ytbklmfchbojboaa
