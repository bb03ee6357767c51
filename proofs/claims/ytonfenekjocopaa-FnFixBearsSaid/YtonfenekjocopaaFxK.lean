/- FixOf (impl) where the marks lie ahead. -/
import Derived.Test.YtonfenekjocopaaFxI
namespace Go.Proofs.Ytonfenekjocopaa
open Go.RowKit Ieee
set_option linter.unusedVariables false
set_option linter.unusedSimpArgs false
attribute [local go_sem] st_cplx

set_option maxRecDepth 100000 in
set_option maxHeartbeats 8000000 in
theorem i_fix_r (a b : Nat × Nat) (ka kb : Int) (w : World) (ha : W64 a) (hb : W64 b) (h1 : vcB a = true) (h2 : vcB b = true) (h3 : spanB ka kb = true) (h4 : geB (fxM a b (dgn ka) (dgn kb)) = true) (h5 : geB (fxN a b (dgn ka) (dgn kb)) = true) :
    Calls Try.prog 22 #[.complex .f64 a.1 a.2, .int .i64 ka, .complex .f64 b.1 b.2, .int .i64 kb] w fun e w' => e = .returned (.tuple #[.complex .f64 (fxF a b ka kb).1 (fxF a b ka kb).2, .bool (fxB a b ka kb)]) ∧ Below w.heap.size w w' := by
  obtain ⟨u1, u2, hu⟩ := tnR_ex (dgn_lt ka)
  obtain ⟨w1, w2, hw⟩ := tnR_ex (dgn_lt kb)
  obtain ⟨K, _⟩ := fix_ok (vcB_iff.1 h1) (vcB_iff.1 h2) (dgn_lt ka) (dgn_lt kb) (cut_in h3) hu hw
  obtain ⟨o1, _⟩ := ge_ord K.mn
  obtain ⟨o2, _⟩ := ge_ord K.nn
  have hc : 20 ≤ btw ka kb ∧ btw ka kb ≤ 160 := by unfold spanB at h3; exact of_decide_eq_true h3
  have ca := fun w => i_vecB a w ha
  have cb := fun w => i_vecB b w hb
  have cc := fun w => i_btw ka kb w
  have cp := fun w => i_vecB _ w K.pl
  have ct : ∀ (n : Int) (w : World), Calls Try.prog 61 #[.int .i64 n] w fun e w' => e = .returned (.complex .f64 (trn (dgn n)).1 (trn (dgn n)).2) ∧ Below w.heap.size w w' := fun n w => i_turn n w
  have k1 := fun w => i_cross _ _ _ _ _ _ _ w K.e1 K.e2 K.e3
  have k2 := fun w => i_cross _ _ _ _ _ _ _ w K.c1 K.c2 K.c3
  have k3 := fun w => i_cross _ _ _ _ _ _ _ w K.c4 K.c5 K.c6
  have f0 := fun w => run_complex_sum (P := Try.prog) w .sub (Or.inr rfl) 24 .f64 a.1 a.2 b.1 b.2 _ _ (by unfold cSumBits; rw [K.d1, K.d2]; rfl)
  have f1 := fun w => run_float_arith (P := Try.prog) w .quo 34 .f64 _ _ _ K.m1
  have f2 := fun w => run_float_arith (P := Try.prog) w .quo 34 .f64 _ _ _ K.n1
  have f3 := fun w => run_float_arith (P := Try.prog) w .mul 34 .f64 _ _ _ K.g1
  have f4 := fun w => run_float_arith (P := Try.prog) w .mul 34 .f64 _ _ _ K.g2
  have f5 := fun w => run_float_arith (P := Try.prog) w .sub 34 .f64 _ _ _ K.p1
  have f6 := fun w => run_float_arith (P := Try.prog) w .sub 34 .f64 _ _ _ K.p2
  have ct1 := ct ka
  have ct2 := ct kb
  have HP := Lib.hid (PosX.new w (0, 0) false)
  have e1 : fxB a b ka kb = (geB (fxM a b (dgn ka) (dgn kb)) && geB (fxN a b (dgn ka) (dgn kb)) && vcB (fxP a b (dgn ka) (dgn kb))) := by unfold fxB; rw [h1, h2, h3]; rfl
  unfold fxF
  rw [e1]
  rw [h1] at ca
  rw [h2] at cb
  have c1 : (btw ka kb < 20) = False := eq_false (by omega)
  have c2 : (160 < btw ka kb) = False := eq_false (by omega)
  clear K e1 h1 h2 h3 ha hb hu hw ct hc
  generalize hr : fxP a b (dgn ka) (dgn kb) = r at *
  generalize ml (fxM a b (dgn ka) (dgn kb)) (trn (dgn ka)).1 = y1 at *
  generalize ml (fxM a b (dgn ka) (dgn kb)) (trn (dgn ka)).2 = y2 at *
  generalize fxM a b (dgn ka) (dgn kb) = m at *
  generalize fxN a b (dgn ka) (dgn kb) = n at *
  generalize fxE (dgn ka) (dgn kb) = e at *
  generalize crsW (subW a b) (trn (dgn kb)) = x1 at *
  generalize crsW (subW a b) (trn (dgn ka)) = x2 at *
  generalize subW a b = d at *
  generalize trn (dgn ka) = u at *
  generalize trn (dgn kb) = v at *
  generalize geB m = t1 at *
  generalize geB n = t2 at *
  generalize vcB r = t3 at *
  generalize btw ka kb = c at *
  clear hr
  subst h4 h5
  simp only [Bool.true_and]
  obtain ⟨r1, r2⟩ := r
  obtain ⟨d1, d2⟩ := d
  obtain ⟨u1', u2'⟩ := u
  obtain ⟨v1, v2⟩ := v
  obtain ⟨a1, a2⟩ := a
  obtain ⟨b1, b2⟩ := b
  dsimp only at *
  go_enter_defers Try.func22, Try.ntmps22
  go_wp2_with (first
    | (go_at_call 60; ((with_reducible refine (cc _).mono ?_); rintro e w' ⟨rfl, rfl⟩))
    | (go_at_call 37; ((with_reducible refine (ca _).mono ?_); rintro e w' ⟨rfl, rfl⟩))
    | (go_at_call 37; ((with_reducible refine (cb _).mono ?_); rintro e w' ⟨rfl, rfl⟩)))
  refine (ct1 _).mono ?_
  rintro _ w2 ⟨rfl, b2⟩
  have HP2 := Lib.hid (HP.out.step b2)
  clear HP b2
  go_wp2_with fail
  refine (ct2 _).mono ?_
  rintro _ w3 ⟨rfl, b3⟩
  have HP3 := Lib.hid (HP2.out.step b3)
  obtain ⟨z0, z1, z2, z3⟩ := HP3.out.cells
  clear HP2 b3 ca cb cc ct1 ct2
  go_wp2_with (first
    | (go_at_call 62; ((with_reducible refine (k1 _).mono ?_); rintro e w' ⟨rfl, rfl⟩))
    | (go_at_call 62; ((with_reducible refine (k2 _).mono ?_); rintro e w' ⟨rfl, rfl⟩))
    | (go_at_call 62; ((with_reducible refine (k3 _).mono ?_); rintro e w' ⟨rfl, rfl⟩)))
  have HP4 := Lib.hid (HP3.out.set0 (r1, r2))
  clear HP3 z0 z1 z2 z3 k1 k2 k3 f0 f1 f2 f3 f4 f5 f6 c1 c2
  dsimp only at HP4
  generalize w3.setCell ⟨w.heap.size, 0, none⟩ (.complex .f64 r1 r2) = W at *
  obtain ⟨z0, z1, z2, z3⟩ := HP4.out.cells
  have g1 : ∀ t, binOp .geq t (.float .f64 m) (.float .f64 0) = pure (.bool true) := fun t => by rw [binOp_float_cmp_geq, o1]
  have g2 : ∀ t, binOp .geq t (.float .f64 n) (.float .f64 0) = pure (.bool true) := fun t => by rw [binOp_float_cmp_geq, o2]
  clear o1 o2
  first | go_region_with (go_at_call 37; ((with_reducible refine (cp _).mono ?_); rintro e w' ⟨rfl, rfl⟩)) | fail
  all_goals
    clear cp
    cases t3
    · go_wp2_with fail
      exact doorX (c := (r1, r2)) (t := false) (by rfl) (by rfl) (by rfl) ((HP4.out.set0 (r1, r2)).set1 false).drew
    · go_wp2_with fail
      exact doorX (c := (r1, r2)) (t := true) (by rfl) (by rfl) (by rfl) ((HP4.out.set0 (r1, r2)).set1 true).drew
end Go.Proofs.Ytonfenekjocopaa
