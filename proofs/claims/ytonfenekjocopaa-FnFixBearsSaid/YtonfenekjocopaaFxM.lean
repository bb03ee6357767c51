/- FixOf (spec); what the marks bear from a fix. -/
import Derived.Test.YtonfenekjocopaaFxI
namespace Go.Proofs.Ytonfenekjocopaa
open Go.RowKit Ieee
set_option linter.unusedVariables false
set_option linter.unusedSimpArgs false

set_option maxRecDepth 100000 in
set_option maxHeartbeats 2000000 in
theorem s_fix_no (a b : Nat × Nat) (ka kb : Int) (w : World) (ha : W64 a) (hb : W64 b) (hno : (vcB a && vcB b && spanB ka kb) = false) :
    Calls Try.prog 23 #[.complex .f64 a.1 a.2, .int .i64 ka, .complex .f64 b.1 b.2, .int .i64 kb] w fun e w' => e = .returned (.tuple #[.complex .f64 0 0, .bool false]) ∧ w = w' := by
  have ca := fun w => s_vecB a w ha
  have cb := fun w => s_vecB b w hb
  have cc := fun w => s_btw ka kb w
  have ci := fun w => s_in (btw ka kb) 20 160 (spanB ka kb) w (by unfold spanB; rfl)
  generalize vcB a = t1 at *
  generalize vcB b = t2 at *
  generalize spanB ka kb = t3 at *
  generalize btw ka kb = c at *
  obtain ⟨a1, a2⟩ := a
  obtain ⟨b1, b2⟩ := b
  dsimp only at *
  clear ha hb
  have hq : t1 = false ∨ (t1 = true ∧ t2 = false) ∨ (t1 = true ∧ t2 = true ∧ t3 = false) := by
    cases t1 <;> cases t2 <;> cases t3 <;> simp_all
  clear hno
  rcases hq with rfl | ⟨rfl, rfl⟩ | ⟨rfl, rfl, rfl⟩
  all_goals
    go_enter Try.func23, Try.ntmps23
    go_wp2_with (first
      | (go_at_call 63; ((with_reducible refine (cc _).mono ?_); rintro e w' ⟨rfl, rfl⟩))
      | (go_at_call 56; ((with_reducible refine (ci _).mono ?_); rintro e w' ⟨rfl, rfl⟩))
      | (go_at_call 19; ((with_reducible refine (ca _).mono ?_); rintro e w' ⟨rfl, rfl⟩))
      | (go_at_call 19; ((with_reducible refine (cb _).mono ?_); rintro e w' ⟨rfl, rfl⟩)))
    go_ret2
    exact ⟨rfl, rfl⟩
set_option maxRecDepth 100000 in
set_option maxHeartbeats 2000000 in
theorem s_fix_yes (a b : Nat × Nat) (ka kb : Int) (w : World) (ha : W64 a) (hb : W64 b) (h1 : vcB a = true) (h2 : vcB b = true) (h3 : spanB ka kb = true) :
    Calls Try.prog 23 #[.complex .f64 a.1 a.2, .int .i64 ka, .complex .f64 b.1 b.2, .int .i64 kb] w fun e w' => e = .returned (.tuple #[.complex .f64 (fxF a b ka kb).1 (fxF a b ka kb).2, .bool (fxB a b ka kb)]) ∧ w = w' := by
  obtain ⟨u1, u2, hu⟩ := tnR_ex (dgn_lt ka)
  obtain ⟨w1, w2, hw⟩ := tnR_ex (dgn_lt kb)
  obtain ⟨K, _⟩ := fix_ok (vcB_iff.1 h1) (vcB_iff.1 h2) (dgn_lt ka) (dgn_lt kb) (cut_in h3) hu hw
  obtain ⟨_, o1⟩ := ge_ord K.mn
  obtain ⟨_, o2⟩ := ge_ord K.nn
  have ca := fun w => s_vecB a w ha
  have cb := fun w => s_vecB b w hb
  have cc := fun w => s_btw ka kb w
  have ci := fun w => s_in (btw ka kb) 20 160 (spanB ka kb) w (by unfold spanB; rfl)
  have cp := fun w => s_vecB _ w K.pl
  have ct : ∀ (n : Int) (w : World), Calls Try.prog 64 #[.int .i64 n] w fun e w' => e = .returned (.complex .f64 (trn (dgn n)).1 (trn (dgn n)).2) ∧ w = w' := fun n w => s_turn n w
  have k1 := fun w => s_cross _ _ _ _ _ _ _ w K.e1 K.e2 K.e3
  have k2 := fun w => s_cross _ _ _ _ _ _ _ w K.c1 K.c2 K.c3
  have k3 := fun w => s_cross _ _ _ _ _ _ _ w K.c4 K.c5 K.c6
  have f0 := fun w => run_complex_sum (P := Try.prog) w .sub (Or.inr rfl) 24 .f64 a.1 a.2 b.1 b.2 _ _ (by unfold cSumBits; rw [K.d1, K.d2]; rfl)
  have f1 := fun w => run_float_arith (P := Try.prog) w .quo 34 .f64 _ _ _ K.m1
  have f2 := fun w => run_float_arith (P := Try.prog) w .quo 34 .f64 _ _ _ K.n1
  have f3 := fun w => run_float_arith (P := Try.prog) w .mul 34 .f64 _ _ _ K.g1
  have f4 := fun w => run_float_arith (P := Try.prog) w .mul 34 .f64 _ _ _ K.g2
  have f5 := fun w => run_float_arith (P := Try.prog) w .sub 34 .f64 _ _ _ K.p1
  have f6 := fun w => run_float_arith (P := Try.prog) w .sub 34 .f64 _ _ _ K.p2
  have ct1 := ct ka
  have ct2 := ct kb
  have e1 : fxB a b ka kb = (geB (fxM a b (dgn ka) (dgn kb)) && geB (fxN a b (dgn ka) (dgn kb)) && vcB (fxP a b (dgn ka) (dgn kb))) := by unfold fxB; rw [h1, h2, h3]; rfl
  unfold fxF
  rw [e1]
  rw [h1] at ca
  rw [h2] at cb
  rw [h3] at ci
  clear K e1 h1 h2 h3 ha hb hu hw ct
  generalize hr : fxP a b (dgn ka) (dgn kb) = r at *
  generalize ml (fxM a b (dgn ka) (dgn kb)) (trn (dgn ka)).1 = y1 at *
  generalize ml (fxM a b (dgn ka) (dgn kb)) (trn (dgn ka)).2 = y2 at *
  generalize fxM a b (dgn ka) (dgn kb) = m at *
  generalize fxN a b (dgn ka) (dgn kb) = n at *
  generalize fxE (dgn ka) (dgn kb) = e at *
  generalize crsW (subW a b) (trn (dgn kb)) = x1 at *
  generalize crsW (subW a b) (trn (dgn ka)) = x2 at *
  generalize subW a b = d at *
  generalize trn (dgn ka) = u at *
  generalize trn (dgn kb) = v at *
  generalize geB m = t1 at *
  generalize geB n = t2 at *
  generalize vcB r = t3 at *
  generalize btw ka kb = c at *
  clear hr
  obtain ⟨r1, r2⟩ := r
  obtain ⟨d1, d2⟩ := d
  obtain ⟨u1', u2'⟩ := u
  obtain ⟨v1, v2⟩ := v
  obtain ⟨a1, a2⟩ := a
  obtain ⟨b1, b2⟩ := b
  dsimp only at *
  have hq : t1 = false ∨ (t1 = true ∧ t2 = false) ∨ (t1 = true ∧ t2 = true ∧ t3 = false) ∨ (t1 = true ∧ t2 = true ∧ t3 = true) := by
    cases t1 <;> cases t2 <;> cases t3 <;> simp
  rcases hq with rfl | ⟨rfl, rfl⟩ | ⟨rfl, rfl, rfl⟩ | ⟨rfl, rfl, rfl⟩
  all_goals
    go_enter Try.func23, Try.ntmps23
    go_wp2_with (first
      | (go_at_call 63; ((with_reducible refine (cc _).mono ?_); rintro e w' ⟨rfl, rfl⟩))
      | (go_at_call 56; ((with_reducible refine (ci _).mono ?_); rintro e w' ⟨rfl, rfl⟩))
      | (go_at_call 19; ((with_reducible refine (ca _).mono ?_); rintro e w' ⟨rfl, rfl⟩))
      | (go_at_call 19; ((with_reducible refine (cb _).mono ?_); rintro e w' ⟨rfl, rfl⟩))
      | (go_at_call 19; ((with_reducible refine (cp _).mono ?_); rintro e w' ⟨rfl, rfl⟩))
      | (go_at_call 64; ((with_reducible refine (ct1 _).mono ?_); rintro e w' ⟨rfl, rfl⟩))
      | (go_at_call 64; ((with_reducible refine (ct2 _).mono ?_); rintro e w' ⟨rfl, rfl⟩))
      | (go_at_call 65; ((with_reducible refine (k1 _).mono ?_); rintro e w' ⟨rfl, rfl⟩))
      | (go_at_call 65; ((with_reducible refine (k2 _).mono ?_); rintro e w' ⟨rfl, rfl⟩))
      | (go_at_call 65; ((with_reducible refine (k3 _).mono ?_); rintro e w' ⟨rfl, rfl⟩)))
    go_ret2
    exact ⟨rfl, rfl⟩
theorem s_fix (a b : Nat × Nat) (ka kb : Int) (w : World) (ha : W64 a) (hb : W64 b) :
    Calls Try.prog 23 #[.complex .f64 a.1 a.2, .int .i64 ka, .complex .f64 b.1 b.2, .int .i64 kb] w fun e w' => e = .returned (.tuple #[.complex .f64 (fxF a b ka kb).1 (fxF a b ka kb).2, .bool (fxB a b ka kb)]) ∧ w = w' := by
  cases h : (vcB a && vcB b && spanB ka kb)
  · have e1 : fxB a b ka kb = false := by unfold fxB; rw [h]; rfl
    have e2 : fxF a b ka kb = (0, 0) := by unfold fxF; rw [e1]; rfl
    rw [e1, e2]
    exact s_fix_no a b ka kb w ha hb h
  · simp only [Bool.and_eq_true] at h
    exact s_fix_yes a b ka kb w ha hb h.1.1 h.1.2 h.2

theorem nn_rv {m : Nat} (h : geB m = true) : 0 ≤ rv m := by
  have h0 : 0 ≤ fval m := by unfold geB at h; exact of_decide_eq_true h
  have := rv_le (x := 0) (y := m) (by rw [nought_val]; exact h0)
  have hz : rv 0 = 0 := by unfold rv; rw [nought_val]; grind
  rw [hz] at this
  exact this
/-- A difference of positions, in numbers. -/
theorem sub_num {a p : Nat × Nat} (ha : okP a.1 ∧ okP a.2) (hp : okP p.1 ∧ okP p.2) :
    rv (subW a p).1 - (rv a.1 - rv p.1) ≤ 1 / 20000000 ∧ (rv a.1 - rv p.1) - rv (subW a p).1 ≤ 1 / 20000000 ∧ rv (subW a p).2 - (rv a.2 - rv p.2) ≤ 1 / 20000000 ∧ (rv a.2 - rv p.2) - rv (subW a p).2 ≤ 1 / 20000000 := by
  obtain ⟨et1, et2⟩ := eta_bd
  obtain ⟨d1, d2, d3, d4⟩ := sub_r ha.1.bd hp.1.bd (G := 200000000) (by omega) (by omega)
  obtain ⟨f1, f2, f3, f4⟩ := sub_r ha.2.bd hp.2.bd (G := 200000000) (by omega) (by omega)
  have A1 := ha.1.bd.rat
  have A2 := ha.2.bd.rat
  have B1 := hp.1.bd.rat
  have B2 := hp.2.bd.rat
  have c8' : (((100000000 : Nat) : Int) : Rat) = 100000000 := rfl
  rw [c8'] at A1 A2 B1 B2
  have D1 := d4 200000000 (by grind) (by grind)
  have D2 := f4 200000000 (by grind) (by grind)
  rw [e52_lt] at D1 D2
  have s1 := dd_of rfl D1.1 D1.2 et2
  have s2 := dd_of rfl D2.1 D2.2 et2
  exact ⟨s1.1, s1.2, s2.1, s2.2⟩
/-- From a fix both marks bear as said, if they lie a metre away. -/
theorem fix_bears {a b : Nat × Nat} {ka kb : Int} (h : fxB a b ka kb = true) :
    okP (fxP a b (dgn ka) (dgn kb)).1 ∧ okP (fxP a b (dgn ka) (dgn kb)).2 ∧ okP a.1 ∧ okP a.2 ∧ okP b.1 ∧ okP b.2 ∧
    (1 ≤ rv (lenW (subW a (fxP a b (dgn ka) (dgn kb)))) → okP (subW a (fxP a b (dgn ka) (dgn kb))).1 ∧ okP (subW a (fxP a b (dgn ka) (dgn kb))).2 ∧ 98 / 100 ≤ rv (subW a (fxP a b (dgn ka) (dgn kb))).1 * rv (subW a (fxP a b (dgn ka) (dgn kb))).1 + rv (subW a (fxP a b (dgn ka) (dgn kb))).2 * rv (subW a (fxP a b (dgn ka) (dgn kb))).2 ∧ (bst (subW a (fxP a b (dgn ka) (dgn kb))) 359).1 = dgn ka) ∧
    (1 ≤ rv (lenW (subW b (fxP a b (dgn ka) (dgn kb)))) → okP (subW b (fxP a b (dgn ka) (dgn kb))).1 ∧ okP (subW b (fxP a b (dgn ka) (dgn kb))).2 ∧ 98 / 100 ≤ rv (subW b (fxP a b (dgn ka) (dgn kb))).1 * rv (subW b (fxP a b (dgn ka) (dgn kb))).1 + rv (subW b (fxP a b (dgn ka) (dgn kb))).2 * rv (subW b (fxP a b (dgn ka) (dgn kb))).2 ∧ (bst (subW b (fxP a b (dgn ka) (dgn kb))) 359).1 = dgn kb) := by
  unfold fxB at h
  simp only [Bool.and_eq_true] at h
  obtain ⟨⟨⟨h1, h2⟩, h3⟩, ⟨h4, h5⟩, h6⟩ := h
  obtain ⟨u1, u2, hu⟩ := tnR_ex (dgn_lt ka)
  obtain ⟨w1, w2, hw⟩ := tnR_ex (dgn_lt kb)
  have ha := vcB_iff.1 h1
  have hb := vcB_iff.1 h2
  have hp := vcB_iff.1 h6
  have hd := cut_in h3
  obtain ⟨_, F⟩ := fix_ok ha hb (dgn_lt ka) (dgn_lt kb) hd hu hw
  refine ⟨hp.1, hp.2, ha.1, ha.2, hb.1, hb.2, fun hl => ?_, fun hl => ?_⟩
  · obtain ⟨l1, l2, l3⟩ := len_one hl
    obtain ⟨x1, x2, x3, x4⟩ := sub_num ha hp
    obtain ⟨g1, g2, g3⟩ := fix_a F hu (nn_rv h4) x1 x2 x3 x4 l3
    exact ⟨l1, l2, l3, bears l1 l2 (dgn_lt ka) hu g1 g2 g3⟩
  · obtain ⟨l1, l2, l3⟩ := len_one hl
    obtain ⟨x1, x2, x3, x4⟩ := sub_num hb hp
    obtain ⟨g1, g2, g3⟩ := fix_b F hu hw (nn_rv h5) (cross_any (dgn_lt ka) (dgn_lt kb) hd hu hw) x1 x2 x3 x4 l3
    exact ⟨l1, l2, l3, bears l1 l2 (dgn_lt kb) hw g1 g2 g3⟩
end Go.Proofs.Ytonfenekjocopaa
