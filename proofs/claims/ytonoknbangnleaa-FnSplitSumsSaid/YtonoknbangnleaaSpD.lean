/- SplitWay (impl and spec), its drawing, laws.amount; the walk of the law FnSplitSums. -/
import Derived.Test.YtonoknbangnleaaSpC
import Derived.Test.YtonoknbangnleaaRkC
import Derived.Test.YtonoknbangnleaaGvC
import Derived.Test.YtonoknbangnleaaLwA
import Derived.Test.YtonoknbangnleaaDrG
import Derived.Test.YtonoknbangnleaaDrR
import Derived.Test.YtonoknbangnleaaTnA
namespace Go.Proofs.Ytonoknbangnleaa
open Go.RowKit Ieee
set_option linter.unusedVariables false
set_option linter.unusedSimpArgs false

noncomputable def spanS (ka kb : Int) : Bool := decide (5 ≤ btw ka kb ∧ btw ka kb ≤ 175)
theorem cut_inS {ka kb : Int} (h : spanS ka kb = true) : (dg ka < dg kb ∧ inDS (dg kb - dg ka) = true) ∨ (dg kb < dg ka ∧ inDS (dg ka - dg kb) = true) := by
  have h2 : 5 ≤ btw ka kb ∧ btw ka kb ≤ 175 := by unfold spanS at h; exact of_decide_eq_true h
  unfold btw at h2
  unfold dg
  rcases Nat.lt_or_ge (ka % 360).toNat (kb % 360).toNat with g | g
  · left; refine ⟨g, inD_ofS ?_⟩; split at h2 <;> omega
  · right; refine ⟨by split at h2 <;> omega, inD_ofS ?_⟩; split at h2 <;> omega
theorem tnR_exS {k : Nat} (hk : k < 360) : ∃ a b, TnR k a b := by
  obtain ⟨_, X, Y, _, hT, _⟩ := turn_cutC k hk
  exact ⟨_, _, turn_rat hT⟩
theorem split_at {z : Nat × Nat} {ka kb : Int} (h1 : vcB z = true) (h3 : spanS ka kb = true) : SplitOk z (dg ka) (dg kb) := by
  obtain ⟨u1, u2, hu⟩ := tnR_exS (dg_lt ka)
  obtain ⟨w1, w2, hw⟩ := tnR_exS (dg_lt kb)
  exact split_ok (vcB_iff.1 h1) (dg_lt ka) (dg_lt kb) (cut_inS h3) hu hw
/-- Three results. -/
theorem results_sp {P : Program} {fn : Func} {t u v : Tmp} (h : fn.results = #[.tmp t, .tmp u, .tmp v]) (tmps : Array Value) (w : World) :
    (results fn tmps).run P w = .ok (.tuple #[tmps.getD t undef, tmps.getD u undef, tmps.getD v undef]) w := by
  simp [results, h]

theorem tt_num : f64.read 4547007122018943789 = .number false 7378697629483821 (-66) := by kernel_rfl
theorem tt_val : 95 * ((oneV : Nat) : Int) < 1000000 * fval 4547007122018943789 := by
  have hf := fixE_eq
  unfold fval; rw [tt_num]; show _ < 1000000 * signed false 7378697629483821 (-66 + 1074 : Int).toNat
  rw [show (-66 + 1074 : Int).toNat = fixE - 66 by omega, signed_eq]
  have e : 73786976294838206464 * 2 ^ (fixE - 66) = oneV := pow_exp 66 (fixE - 66) (by omega)
  have h0 : 0 < 2 ^ (fixE - 66) := Nat.two_pow_pos _
  show 95 * ((oneV : Nat) : Int) < 1000000 * ((7378697629483821 * 2 ^ (fixE - 66) : Nat) : Int)
  rw [← e]
  clear e
  generalize 2 ^ (fixE - 66) = q at *
  omega
theorem tt_isNum : isNum 4547007122018943789 := isNum_of tt_num
/-- What lies that near is less than a ten thousandth. -/
theorem amt_tt {x : Nat} (hx : isNum x ∧ x < 18446744073709551616) (h : -(95 / 1000000) ≤ rv x ∧ rv x ≤ 95 / 1000000) :
    (FloatKind.f64.format.order (amtW x) 4547007122018943789 == some .lt) = true := by
  obtain ⟨an, av⟩ : isNum (amtW x) ∧ fval (amtW x) = ((fval x).natAbs : Int) := by
    obtain ⟨an, av⟩ := abs_num hx.2 hx.1
    unfold amtW
    rw [order_val hx.1 (isNum_of nought_num), nought_val]
    rcases Int.lt_or_le (fval x) 0 with k | k
    · rw [if_pos (congrArg some (Int.compare_eq_lt.2 k))]; exact ⟨an, av⟩
    · rw [if_neg (fun he => by injection he with he; have := Int.compare_eq_lt.1 he; omega)]; exact ⟨hx.1, by omega⟩
  have e : FloatKind.f64.format.order (amtW x) 4547007122018943789 = some (compare (fval (amtW x)) (fval 4547007122018943789)) := order_val an tt_isNum
  have hU := uR_pos
  have m1 : ((1000000 * fval x : Int) : Rat) ≤ ((95 * (oneV : Int) : Int) : Rat) := by
    simp only [Rat.intCast_mul]
    have e2 : ((oneV : Int) : Rat) = uR := rfl
    rw [rv_mul, e2, show ((1000000 : Int) : Rat) = 1000000 from rfl, show ((95 : Int) : Rat) = 95 from rfl]
    have := Rat.mul_nonneg (a := 95 / 1000000 - rv x) (b := uR) (by grind) (by grind)
    grind
  have m2 : ((-(95 * (oneV : Int)) : Int) : Rat) ≤ ((1000000 * fval x : Int) : Rat) := by
    simp only [Rat.intCast_mul, Rat.intCast_neg]
    have e2 : ((oneV : Int) : Rat) = uR := rfl
    rw [rv_mul, e2, show ((1000000 : Int) : Rat) = 1000000 from rfl, show ((95 : Int) : Rat) = 95 from rfl]
    have := Rat.mul_nonneg (a := rv x + 95 / 1000000) (b := uR) (by grind) (by grind)
    grind
  have n1 := Rat.intCast_le_intCast.1 m1
  have n2 := Rat.intCast_le_intCast.1 m2
  have t := tt_val
  rw [e, av, Int.compare_eq_lt.2 (by omega)]
  rfl
theorem l_amountS (x : Nat) (w : World) (hx : x < 18446744073709551616) :
    Calls Try.prog 22 #[.float .f64 x] w fun e w' => e = .returned (.float .f64 (amtW x)) ∧ w = w' := by
  unfold amtW
  by_cases h : f64.order x 0 = some .lt
  · have hneg : ∀ w, (Op.unary .neg (.float .f64 x)).run Try.prog w = .ok (.float .f64 (x % 9223372036854775808)) w := fun w => by
      show (pure (.float .f64 (Op.negFloat .f64 x)) : Sem Value).run Try.prog w = _
      rw [neg_word hx h]; rfl
    rw [if_pos h]
    have h' : FloatKind.f64.format.order x 0 = some .lt := h
    clear h
    go_enter Try.func22, Try.ntmps22
    go_wp2
    go_ret
    exact ⟨rfl, rfl⟩
  · rw [if_neg h]
    have h' : (FloatKind.f64.format.order x 0 == some .lt) = false := by simpa using h
    clear h
    go_enter Try.func22, Try.ntmps22
    go_wp2
    go_ret
    exact ⟨rfl, rfl⟩
set_option maxRecDepth 100000 in
set_option maxHeartbeats 2000000 in
theorem i_split_no (z : Nat × Nat) (ka kb : Int) (w : World) (hz : W64 z) (hno : (vcB z && spanS ka kb) = false) :
    Calls Try.prog 18 #[.complex .f64 z.1 z.2, .int .i64 ka, .int .i64 kb] w fun e w' => e = .returned (.tuple #[.float .f64 0, .float .f64 0, .bool false]) ∧ w = w' := by
  have ca := fun w => i_vecB z w hz
  have cc := fun w => i_btw ka kb w
  have hq : vcB z = false ∨ (vcB z = true ∧ btw ka kb < 5) ∨ (vcB z = true ∧ ¬ btw ka kb < 5 ∧ 175 < btw ka kb) := by
    cases h : vcB z
    · left; rfl
    · right
      rw [h] at hno
      have h3 : ¬ (5 ≤ btw ka kb ∧ btw ka kb ≤ 175) := by unfold spanS at hno; simpa using hno
      rcases Int.lt_or_le (btw ka kb) 5 with g | g
      · left; exact ⟨rfl, g⟩
      · right; exact ⟨rfl, by omega, by omega⟩
  generalize vcB z = t1 at *
  obtain ⟨z1, z2⟩ := z
  dsimp only at *
  clear hz hno
  generalize btw ka kb = c at *
  rcases hq with rfl | ⟨rfl, hc⟩ | ⟨rfl, hc, hc2⟩
  all_goals
    go_enter Try.func18, Try.ntmps18
    go_wp2_with (first
      | (go_at_call 13; ((with_reducible refine (cc _).mono ?_); rintro e w' ⟨rfl, rfl⟩))
      | (go_at_call 46; ((with_reducible refine (ca _).mono ?_); rintro e w' ⟨rfl, rfl⟩)))
    (try simp only [Exit.inBlock, Exit.then])
    refine bodyPost_ret (results_sp rfl _ _) rfl ?_
    exact ⟨rfl, rfl⟩
set_option maxRecDepth 100000 in
set_option maxHeartbeats 2000000 in
theorem s_split_no (z : Nat × Nat) (ka kb : Int) (w : World) (hz : W64 z) (hno : (vcB z && spanS ka kb) = false) :
    Calls Try.prog 19 #[.complex .f64 z.1 z.2, .int .i64 ka, .int .i64 kb] w fun e w' => e = .returned (.tuple #[.float .f64 0, .float .f64 0, .bool false]) ∧ w = w' := by
  have ca := fun w => s_vecB z w hz
  have cc := fun w => s_btw ka kb w
  have ci := fun w => s_in (btw ka kb) 5 175 (spanS ka kb) w (by unfold spanS; rfl)
  generalize vcB z = t1 at *
  generalize spanS ka kb = t2 at *
  obtain ⟨z1, z2⟩ := z
  dsimp only at *
  clear hz
  generalize btw ka kb = c at *
  have hq : t1 = false ∨ (t1 = true ∧ t2 = false) := by cases t1 <;> cases t2 <;> simp_all
  clear hno
  rcases hq with rfl | ⟨rfl, rfl⟩
  all_goals
    go_enter Try.func19, Try.ntmps19
    go_wp2_with (first
      | (go_at_call 50; ((with_reducible refine (cc _).mono ?_); rintro e w' ⟨rfl, rfl⟩))
      | (go_at_call 49; ((with_reducible refine (ci _).mono ?_); rintro e w' ⟨rfl, rfl⟩))
      | (go_at_call 48; ((with_reducible refine (ca _).mono ?_); rintro e w' ⟨rfl, rfl⟩)))
    (try simp only [Exit.inBlock, Exit.then])
    refine bodyPost_ret (results_sp rfl _ _) rfl ?_
    exact ⟨rfl, rfl⟩
set_option maxRecDepth 100000 in
set_option maxHeartbeats 2000000 in
theorem s_split_yes (z : Nat × Nat) (ka kb : Int) (w : World) (hz : W64 z) (h1 : vcB z = true) (h2 : spanS ka kb = true) :
    Calls Try.prog 19 #[.complex .f64 z.1 z.2, .int .i64 ka, .int .i64 kb] w fun e w' => e = .returned (.tuple #[.float .f64 (spM z (dg ka) (dg kb)), .float .f64 (spN z (dg ka) (dg kb)), .bool true]) ∧ w = w' := by
  have K := split_at h1 h2
  have ca := fun w => s_vecB z w hz
  have cc := fun w => s_btw ka kb w
  have ci := fun w => s_in (btw ka kb) 5 175 (spanS ka kb) w (by unfold spanS; rfl)
  have ct : ∀ (n : Int) (w : World), Calls Try.prog 51 #[.int .i64 n] w fun e w' => e = .returned (.complex .f64 (trn (dg n)).1 (trn (dg n)).2) ∧ w = w' := fun n w => s_turn n w
  have k1 := fun w => s_cross _ _ _ _ _ _ _ w K.e1 K.e2 K.e3
  have k2 := fun w => s_cross _ _ _ _ _ _ _ w K.c1 K.c2 K.c3
  have k3 := fun w => s_cross _ _ _ _ _ _ _ w K.c4 K.c5 K.c6
  have f1 := fun w => run_float_arith (P := Try.prog) w .quo 43 .f64 _ _ _ K.m1
  have f2 := fun w => run_float_arith (P := Try.prog) w .quo 43 .f64 _ _ _ K.n1
  have ct1 := ct ka
  have ct2 := ct kb
  rw [h1] at ca
  rw [h2] at ci
  clear K h1 h2 hz ct
  generalize spM z (dg ka) (dg kb) = m at *
  generalize spN z (dg ka) (dg kb) = n at *
  generalize fxE (dg ka) (dg kb) = e at *
  generalize crsW z (trn (dg kb)) = x1 at *
  generalize crsW (trn (dg ka)) z = x2 at *
  generalize trn (dg ka) = u at *
  generalize trn (dg kb) = v at *
  generalize btw ka kb = c at *
  obtain ⟨u1', u2'⟩ := u
  obtain ⟨v1, v2⟩ := v
  obtain ⟨z1, z2⟩ := z
  dsimp only at *
  go_enter Try.func19, Try.ntmps19
  go_wp2_with (first
    | (go_at_call 50; ((with_reducible refine (cc _).mono ?_); rintro e w' ⟨rfl, rfl⟩))
    | (go_at_call 49; ((with_reducible refine (ci _).mono ?_); rintro e w' ⟨rfl, rfl⟩))
    | (go_at_call 48; ((with_reducible refine (ca _).mono ?_); rintro e w' ⟨rfl, rfl⟩))
    | (go_at_call 51; ((with_reducible refine (ct1 _).mono ?_); rintro e w' ⟨rfl, rfl⟩))
    | (go_at_call 51; ((with_reducible refine (ct2 _).mono ?_); rintro e w' ⟨rfl, rfl⟩))
    | (go_at_call 52; ((with_reducible refine (k1 _).mono ?_); rintro e w' ⟨rfl, rfl⟩))
    | (go_at_call 52; ((with_reducible refine (k2 _).mono ?_); rintro e w' ⟨rfl, rfl⟩))
    | (go_at_call 52; ((with_reducible refine (k3 _).mono ?_); rintro e w' ⟨rfl, rfl⟩)))
  (try simp only [Exit.inBlock, Exit.then])
  refine bodyPost_ret (results_sp rfl _ _) rfl ?_
  exact ⟨rfl, rfl⟩
set_option maxRecDepth 100000 in
set_option maxHeartbeats 2000000 in
theorem i_split_yes (z : Nat × Nat) (ka kb : Int) (w : World) (hz : W64 z) (h1 : vcB z = true) (h2 : spanS ka kb = true) :
    Calls Try.prog 18 #[.complex .f64 z.1 z.2, .int .i64 ka, .int .i64 kb] w fun e w' => e = .returned (.tuple #[.float .f64 (spM z (dg ka) (dg kb)), .float .f64 (spN z (dg ka) (dg kb)), .bool true]) ∧ Below w.heap.size w w' := by
  have K := split_at h1 h2
  have ca := fun w => i_vecB z w hz
  have cc := fun w => i_btw ka kb w
  have hc : 5 ≤ btw ka kb ∧ btw ka kb ≤ 175 := by unfold spanS at h2; exact of_decide_eq_true h2
  have hc1 : ¬ btw ka kb < 5 := by omega
  have hc2 : ¬ 175 < btw ka kb := by omega
  have ct : ∀ (n : Int) (w : World), Calls Try.prog 21 #[.int .i64 n] w fun e w' => e = .returned (.complex .f64 (trn (dg n)).1 (trn (dg n)).2) ∧ Below w.heap.size w w' := fun n w => i_turn n w
  have k1 := fun w => i_cross _ _ _ _ _ _ _ w K.e1 K.e2 K.e3
  have k2 := fun w => i_cross _ _ _ _ _ _ _ w K.c1 K.c2 K.c3
  have k3 := fun w => i_cross _ _ _ _ _ _ _ w K.c4 K.c5 K.c6
  have f1 := fun w => run_float_arith (P := Try.prog) w .quo 43 .f64 _ _ _ K.m1
  have f2 := fun w => run_float_arith (P := Try.prog) w .quo 43 .f64 _ _ _ K.n1
  have ct1 := ct ka
  have ct2 := ct kb
  rw [h1] at ca
  clear K h1 h2 hz ct hc
  generalize spM z (dg ka) (dg kb) = m at *
  generalize spN z (dg ka) (dg kb) = n at *
  generalize fxE (dg ka) (dg kb) = e at *
  generalize crsW z (trn (dg kb)) = x1 at *
  generalize crsW (trn (dg ka)) z = x2 at *
  generalize trn (dg ka) = u at *
  generalize trn (dg kb) = v at *
  generalize btw ka kb = c at *
  obtain ⟨u1', u2'⟩ := u
  obtain ⟨v1, v2⟩ := v
  obtain ⟨z1, z2⟩ := z
  dsimp only at *
  go_enter Try.func18, Try.ntmps18
  go_wp2_with (first
    | (go_at_call 13; ((with_reducible refine (cc _).mono ?_); rintro e w' ⟨rfl, rfl⟩))
    | (go_at_call 46; ((with_reducible refine (ca _).mono ?_); rintro e w' ⟨rfl, rfl⟩)))
  refine (ct1 _).mono ?_
  rintro e w1 ⟨rfl, b1⟩
  go_wp2_with fail
  refine (ct2 _).mono ?_
  rintro e w2 ⟨rfl, b2⟩
  have b := b1.trans (b2.mono b1.size)
  clear b1 b2
  go_wp2_with (first
    | (go_at_call 47; ((with_reducible refine (k1 _).mono ?_); rintro e w' ⟨rfl, rfl⟩))
    | (go_at_call 47; ((with_reducible refine (k2 _).mono ?_); rintro e w' ⟨rfl, rfl⟩))
    | (go_at_call 47; ((with_reducible refine (k3 _).mono ?_); rintro e w' ⟨rfl, rfl⟩)))
  (try simp only [Exit.inBlock, Exit.then])
  refine bodyPost_ret (results_sp rfl _ _) rfl ?_
  exact ⟨rfl, b⟩
set_option maxRecDepth 100000 in
set_option maxHeartbeats 2000000 in
theorem d_split (w : World) (len cap : Nat) (A : Option Addr) (hcode : Code w w.heap.size A len) :
    Calls Try.prog 17 #[.slice A len cap] w fun e w' => ∃ (a : Nat × Nat) (ka kb : Int), W64 a ∧ e = .returned (.tuple #[.complex .f64 a.1 a.2, .int .i64 ka, .int .i64 kb]) ∧ Below w.heap.size w w' := by
  go_enter Try.func17, Try.ntmps17
  go_wp2_with fail
  refine (d_new w w.heap.size len cap A (Nat.le_refl _) hcode).mono ?_
  rintro e w1 ⟨g, rfl, cur1, b1⟩
  go_wp2_with fail
  refine (d_vector 3000 _ _ g len cap A cur1 (by omega) (by omega)).mono ?_
  rintro e w2 ⟨a1, a2, al1, al2, rfl, cur2, gr2⟩
  have b2 := below_cur b1 (Nat.le_refl _) gr2 cur1.1
  clear b1 gr2 cur1
  go_wp2_with fail
  refine (d_degrees _ _ g len cap A cur2).mono ?_
  rintro e w3 ⟨ka, k1, k2, rfl, cur3, gr3⟩
  have b3 := below_cur b2 (Nat.le_refl _) gr3 cur2.1
  clear b2 gr3 cur2
  go_wp2_with fail
  refine (d_once 4 _ _ g len cap A cur3 (by omega)).mono ?_
  rintro e w4 ⟨t, rfl, cur4, gr4⟩
  have b4 := below_cur b3 (Nat.le_refl _) gr4 cur3.1
  have hgl := cur4.lt
  clear b3 gr4 cur3 k1 k2
  cases t
  · go_wp2_with fail
    refine (d_degrees _ _ g len cap A cur4).mono ?_
    rintro e w5 ⟨kb, _, _, rfl, cur5, gr5⟩
    have b5 := below_cur b4 (Nat.le_refl _) gr5 cur4.1
    clear b4 gr5 cur4
    go_wp2
    (try simp only [Exit.inBlock, Exit.then])
    refine bodyPost_ret (results_sp rfl _ _) rfl ?_
    exact ⟨(a1, a2), ka, kb, ⟨al1, al2⟩, rfl, b5⟩
  · have cm := fun w => s_deg ka w
    go_wp2_with (go_at_call 31; ((with_reducible refine (cm _).mono ?_); rintro e w' ⟨rfl, rfl⟩))
    refine (d_pickint _ _ g len cap w4.heap.size 9 9 A 3 [4, 5, 6, -5, -4, 175, 176, 180, 0] (cur4.alloc _) rfl (by omega) (by omega) (by omega) (by intro x hx; simp at hx; omega) (heap_alloc_new w4 _)).mono ?_
    rintro e w5 ⟨x, x0, x1, rfl, cur5, gr5⟩
    have b5 := below_cur (b4.alloc b4.size (.cells #[.int .i64 4, .int .i64 5, .int .i64 6, .int .i64 (-5), .int .i64 (-4), .int .i64 175, .int .i64 176, .int .i64 180, .int .i64 0] 3)) (Nat.le_refl _) gr5 cur4.1
    clear b4 gr5 cur4 cm
    have m0 := Int.emod_nonneg ka (b := 360) (by omega)
    have m1 := Int.emod_lt_of_pos ka (b := 360) (by omega)
    generalize ka % 360 = m at *
    go_wp2
    (try simp only [Exit.inBlock, Exit.then])
    refine bodyPost_ret (results_sp rfl _ _) rfl ?_
    exact ⟨(a1, a2), ka, _, ⟨al1, al2⟩, rfl, b5⟩
set_option maxRecDepth 100000 in
set_option maxHeartbeats 4000000 in
theorem w_FnSplitSums (a0 : Option Addr) (len cap : Nat) (zs : List Int) (w : World) (hr : IsRow .u8 w a0 len cap zs) :
    Calls Try.prog 4 #[.slice a0 len cap] w fun e w' => e = .returned (.bool true) ∧ Below w.heap.size w w' := by
  by_cases hbig : len ≤ 1048576
  · have hcode := code_of_row hr hbig
    go_enter Try.func4, Try.ntmps4
    go_wp2_with (go_at_call 5; go_in)
    go_wp2_with fail
    refine (d_split _ len cap a0 hcode).mono ?_
    rintro e w1 ⟨z, ka, kb, hz, rfl, b1⟩
    clear hcode
    cases hB : (vcB z && spanS ka kb)
    · have F1 := fun w => i_split_no z ka kb w hz hB
      have F2 := fun w => s_split_no z ka kb w hz hB
      have o : FloatKind.f64.format.order 0 0 = some .eq := by kernel_rfl
      clear hB hz
      obtain ⟨z1, z2⟩ := z
      dsimp only at *
      go_wp2_with (first
        | (go_at_call 18; ((with_reducible refine (F1 _).mono ?_); rintro e w' ⟨rfl, rfl⟩))
        | (go_at_call 19; ((with_reducible refine (F2 _).mono ?_); rintro e w' ⟨rfl, rfl⟩)))
      go_ret
      exact ⟨rfl, b1⟩
    · simp only [Bool.and_eq_true] at hB
      have K := split_at hB.1 hB.2
      have F1 := fun w => i_split_yes z ka kb w hz hB.1 hB.2
      have F2 := fun w => s_split_yes z ka kb w hz hB.1 hB.2
      have ca := fun w => i_len z _ w hz.1 hz.2 (lenW_is z)
      have ct1 : ∀ w : World, Calls Try.prog 21 #[.int .i64 ka] w fun e w' => e = .returned (.complex .f64 (trn (dg ka)).1 (trn (dg ka)).2) ∧ Below w.heap.size w w' := fun w => i_turn ka w
      have ct2 : ∀ w : World, Calls Try.prog 21 #[.int .i64 kb] w fun e w' => e = .returned (.complex .f64 (trn (dg kb)).1 (trn (dg kb)).2) ∧ Below w.heap.size w w' := fun w => i_turn kb w
      have x1 := fun w => run_float_arith (P := Try.prog) w .mul 43 .f64 _ _ _ K.x1
      have x2 := fun w => run_float_arith (P := Try.prog) w .mul 43 .f64 _ _ _ K.x2
      have x3 := fun w => run_float_arith (P := Try.prog) w .sub 43 .f64 _ _ _ K.x3
      have x4 := fun w => run_float_arith (P := Try.prog) w .sub 43 .f64 _ _ _ K.x4
      have y1 := fun w => run_float_arith (P := Try.prog) w .mul 43 .f64 _ _ _ K.y1
      have y2 := fun w => run_float_arith (P := Try.prog) w .mul 43 .f64 _ _ _ K.y2
      have y3 := fun w => run_float_arith (P := Try.prog) w .sub 43 .f64 _ _ _ K.y3
      have y4 := fun w => run_float_arith (P := Try.prog) w .sub 43 .f64 _ _ _ K.y4
      have ox := amt_tt K.xl K.xb
      have oy := amt_tt K.yl K.yb
      have ax := fun w => l_amountS _ w K.xl.2
      have ay := fun w => l_amountS _ w K.yl.2
      obtain ⟨tl, htl⟩ : ∃ t, (FloatKind.f64.format.order (lenW z) 4681608360884174848 == some .gt) = t := ⟨_, rfl⟩
      clear K hB hz
      generalize amtW (spX z (dg ka) (dg kb)) = axx at *
      generalize amtW (spY z (dg ka) (dg kb)) = ayy at *
      generalize spX z (dg ka) (dg kb) = xx at *
      generalize spY z (dg ka) (dg kb) = yy at *
      generalize sb z.1 (ml (spM z (dg ka) (dg kb)) (trn (dg ka)).1) = q1 at *
      generalize sb z.2 (ml (spM z (dg ka) (dg kb)) (trn (dg ka)).2) = q2 at *
      generalize ml (spM z (dg ka) (dg kb)) (trn (dg ka)).1 = p1 at *
      generalize ml (spM z (dg ka) (dg kb)) (trn (dg ka)).2 = p2 at *
      generalize ml (spN z (dg ka) (dg kb)) (trn (dg kb)).1 = p3 at *
      generalize ml (spN z (dg ka) (dg kb)) (trn (dg kb)).2 = p4 at *
      generalize spM z (dg ka) (dg kb) = m at *
      generalize spN z (dg ka) (dg kb) = n at *
      generalize trn (dg ka) = u at *
      generalize trn (dg kb) = v at *
      generalize lenW z = l at *
      obtain ⟨u1', u2'⟩ := u
      obtain ⟨v1, v2⟩ := v
      obtain ⟨z1, z2⟩ := z
      dsimp only at *
      go_wp2_with fail
      refine (F1 _).mono ?_
      rintro e w2 ⟨rfl, k2⟩
      have b2 := b1.trans (k2.mono b1.size)
      clear b1 k2 F1
      cases tl
      · go_wp2_with (first
          | (go_at_call 19; ((with_reducible refine (F2 _).mono ?_); rintro e w' ⟨rfl, rfl⟩))
          | (go_at_call 20; ((with_reducible refine (ca _).mono ?_); rintro e w' ⟨rfl, rfl⟩)))
        refine (ct1 _).mono ?_
        rintro e w3 ⟨rfl, k3⟩
        have b3 := b2.trans (k3.mono b2.size)
        clear b2 k3 ct1
        go_wp2_with fail
        refine (ct2 _).mono ?_
        rintro e w4 ⟨rfl, k4⟩
        have b4 := b3.trans (k4.mono b3.size)
        clear b3 k4 ct2
        go_wp2_with (first
          | (go_at_call 22; ((with_reducible refine (ax _).mono ?_); rintro e w' ⟨rfl, rfl⟩))
          | (go_at_call 22; ((with_reducible refine (ay _).mono ?_); rintro e w' ⟨rfl, rfl⟩)))
        go_ret
        exact ⟨rfl, b4⟩
      · go_wp2_with (first
          | (go_at_call 19; ((with_reducible refine (F2 _).mono ?_); rintro e w' ⟨rfl, rfl⟩))
          | (go_at_call 20; ((with_reducible refine (ca _).mono ?_); rintro e w' ⟨rfl, rfl⟩)))
        go_ret
        exact ⟨rfl, b2⟩
  · go_enter Try.func4, Try.ntmps4
    go_wp2
    go_ret
    exact ⟨rfl, Below.refl _ _⟩
end Go.Proofs.Ytonoknbangnleaa
