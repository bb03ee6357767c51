/- The mean of four winds that are alike: the walk of MeanWind there, and of the law FnMeanAlike. -/
import Derived.Test.YtgohekdikgfcnaaWnL
import Derived.Test.YtgohekdikgfcnaaDmM
import Derived.Test.YtgohekdikgfcnaaDrW
namespace Go.Proofs.Ytgohekdikgfcnaa
open Go.RowKit Ieee

theorem z64_num : f64.read 0 = .number false 0 (-1074) := by kernel_rfl
theorem z64_val : fval 0 = 0 := by unfold fval; rw [z64_num]; exact fl_signed_zero _ _
theorem rep_wid (k : Nat) (hk : k ≤ 8) {v : Int} (h : S.Rep v) : Rep ((k : Int) * (v * (widV : Int))) := by
  obtain ⟨q, e, hq, hv⟩ := h
  refine ⟨k * q, e + fixW, ?_, ?_⟩
  · have := Nat.mul_le_mul hk hq
    omega
  · rw [Int.natAbs_mul, Int.natAbs_mul, hv, Int.natAbs_natCast, Int.natAbs_natCast, Nat.pow_add]
    unfold widV
    rw [Nat.mul_assoc, Nat.mul_assoc]
theorem wid_bd {x : Nat} (h : S.okP x) : (S.fval x * (widV : Int)).natAbs ≤ 100 * oneV := by
  rw [Int.natAbs_mul, oneV_wid, ← Nat.mul_assoc]
  exact Nat.mul_le_mul_right _ h.2
theorem one_lt (c : Nat) (hc : c < 2 ^ 100) : c * oneV < 2 ^ fixB := by
  have h1 := fixB_eq
  have h2 := fixE_eq
  have h0 : 0 < oneV := Nat.two_pow_pos _
  have h3 : c * oneV < 2 ^ 100 * oneV := Nat.mul_lt_mul_of_pos_right hc h0
  refine Nat.lt_of_lt_of_le h3 ?_
  unfold oneV
  rw [← Nat.pow_add]
  exact Nat.pow_le_pow_right (by omega) (by omega)
/-- One more of the same. -/
theorem sum_step {x s k : Nat} (hx : x < 4294967296) (h : S.okP x) (hs : isNum s) (hv : fval s = (k : Int) * (S.fval x * (widV : Int))) (hk : k < 4) :
    ∃ r, floatBits .add .f64 s (wid x) = some r ∧ isNum r ∧ fval r = ((k + 1 : Nat) : Int) * (S.fval x * (widV : Int)) := by
  obtain ⟨_, w2, w3⟩ := wid_num hx h.1
  have hb := wid_bd h
  have hl := one_lt 400 (by decide)
  have he : fval s + fval (wid x) = ((k + 1 : Nat) : Int) * (S.fval x * (widV : Int)) := by
    rw [hv, w3, Int.natCast_add, Int.add_mul]; simp
  obtain ⟨r, r1, r2, _, r4⟩ := add_op hs w2 (by
    rw [he, Int.natAbs_mul, Int.natAbs_natCast]
    have := Nat.mul_le_mul (show k + 1 ≤ 4 by omega) hb
    omega)
  refine ⟨r, r1, r2, ?_⟩
  have hn := r4.near (by omega)
  rw [he] at hn
  exact NearI.exact (g := ((k + 1 : Nat) : Int) * (S.fval x * (widV : Int))) (by rw [Int.natCast_one, Int.mul_one]; exact hn) (rep_wid (k + 1) (by omega) (S.rep_num h.1))
/-- The words on the way to the mean of four winds that are alike. -/
structure Four (x : Nat) (s : Nat → Nat) (q r : Nat) : Prop where
  zero : s 0 = 0
  add : ∀ k, k < 4 → floatBits .add .f64 (s k) (wid x) = some (s (k + 1))
  quo : floatBits .quo .f64 (s 4) (floatOfInt .f64 4) = some q
  nar : floatToFloatBits .f64 q .f32 = some r
  same : FloatKind.f32.format.order r x = some .eq
theorem four_ex {x : Nat} (hx : x < 4294967296) (h : S.okP x) : ∃ s q r, Four x s q r := by
  have hO : 0 < oneV := Nat.two_pow_pos _
  have hE := fixE_eq
  have hW := widV_pos
  obtain ⟨s1, a1, n1, v1⟩ := sum_step (s := 0) (k := 0) hx h (isNum_of z64_num) (by rw [z64_val]; simp) (by omega)
  obtain ⟨s2, a2, n2, v2⟩ := sum_step hx h n1 v1 (by omega)
  obtain ⟨s3, a3, n3, v3⟩ := sum_step hx h n2 v2 (by omega)
  obtain ⟨s4, a4, n4, v4⟩ := sum_step hx h n3 v3 (by omega)
  obtain ⟨f1, f2⟩ := ofInt_val 4 (by omega) (by omega)
  have hb := wid_bd h
  obtain ⟨A, hA⟩ : ∃ A, A = (S.fval x * (widV : Int)).natAbs := ⟨_, rfl⟩
  have ab : (fval s4).natAbs = 4 * A := by rw [v4, Int.natAbs_mul, hA]; rfl
  have af : (fval (floatOfInt .f64 4)).natAbs = 4 * oneV := by rw [f2, Int.natAbs_mul, Int.natAbs_natCast]; rfl
  obtain ⟨q, q1, q2, _, s, t, R, e1, e2, e3, hn⟩ := div_op n4 f1 (by
      rw [ab, Nat.pow_add]
      show 4 * A < oneV * 2 ^ 200
      have h4 : 4 * A ≤ oneV * 400 := by omega
      have h5 : oneV * 400 < oneV * 2 ^ 200 := Nat.mul_lt_mul_of_pos_left (by decide) hO
      omega) (by
      rw [af]
      have : 2 ^ (fixE - 200) ≤ oneV := by unfold oneV; exact Nat.pow_le_pow_right (by omega) (by omega)
      omega)
  have hR : R = A := by
    obtain ⟨g, e, hg, hge⟩ := rep_wid 1 (by omega) (S.rep_num h.1)
    rw [Int.natCast_one, Int.one_mul, ← hA] at hge
    have hq := hn g e hg
    rw [← hge, ab, af] at hq
    have hk : A * (4 * oneV) = 4 * A * oneV := by rw [← Nat.mul_assoc, Nat.mul_comm A 4]
    exact Nat.le_antisymm (hq.2.1 (by rw [hk]; exact Nat.le_refl _)) (hq.1 (by rw [hk]; exact Nat.le_refl _))
  have ht : t = false := by
    rw [af, f2] at e3
    cases t
    · rfl
    · simp only [if_true] at e3; omega
  subst ht
  have hqv : fval q = S.fval x * (widV : Int) := by
    rw [e1, hR]
    rw [ab, v4] at e2
    cases s
    · simp only [Bool.xor_false, Bool.false_eq_true, if_false] at e2 ⊢
      push_cast at e2; omega
    · simp only [Bool.xor_false, if_true] at e2 ⊢
      push_cast at e2; omega
  obtain ⟨r, r1, r2, r3, _⟩ := nar_num q2 hqv (S.rep_num h.1) (Nat.lt_of_le_of_lt h.2 (oneS_lt 100 (by decide)))
  refine ⟨fun k => match k with | 0 => 0 | 1 => s1 | 2 => s2 | 3 => s3 | _ => s4, q, r, rfl, fun k hk => ?_, q1, r1, order_same r2 h.1 r3⟩
  match k, hk with
  | 0, _ => exact a1
  | 1, _ => exact a2
  | 2, _ => exact a3
  | 3, _ => exact a4

set_option maxRecDepth 100000 in
set_option maxHeartbeats 1000000 in
theorem i_mean4 (x y g cap : Nat) (s t : Nat → Nat) (q1 q2 r1 r2 : Nat) (w : World) (h : okV x y) (hx : Four x s q1 r1) (hy : Four y t q2 r2) (hw : ∀ j, j < 4 → w.cell? ⟨g, j, none⟩ = some (.complex .f32 x y)) :
    Calls Try.prog 17 #[.slice (some ⟨g, 0, none⟩) 4 cap] w fun e w' => e = .returned (.tuple #[.complex .f32 r1 r2, .bool true]) ∧ w = w' := by
  have hs : (Try.prog.underlying 47).isSome = true := by rw [Try.underlying47]; rfl
  have hs2 : (Try.prog.underlying 57).isSome = true := by rw [Try.underlying57]; rfl
  have hok : WindsOk 4 (fun _ => (x, y)) := ⟨by omega, fun _ _ => h⟩
  have hW : Winds w g 4 (fun _ => (x, y)) := fun j hj => ⟨hw j hj, h.1.1, h.1.2⟩
  have qc := fun w => run_convert_complex (P := Try.prog) w 47 55 .f32 .f64 x y (wid x) (wid y) hs Try.underlying55 (by unfold cConvBits; rw [(wid_num h.1.1 h.2.1.1).1, (wid_num h.1.2 h.2.2.1).1]; rfl)
  have d1 := fun w => run_float_arith (P := Try.prog) w .quo 57 .f64 _ _ _ hx.quo
  have d2 := fun w => run_float_arith (P := Try.prog) w .quo 57 .f64 _ _ _ hy.quo
  have n1 := fun w => run_convert_float_float (P := Try.prog) w 57 27 .f64 .f32 _ _ hs2 Try.underlying27 hx.nar
  have n2 := fun w => run_convert_float_float (P := Try.prog) w 57 27 .f64 .f32 _ _ hs2 Try.underlying27 hy.nar
  have HA := Lib.hid (And.intro hx.add hy.add)
  have HZ := Lib.hid (And.intro hx.zero hy.zero)
  have HW := Lib.hid hW
  have HC := Lib.hid hw
  have HO := Lib.hid hok
  clear hx hy hw hW h hok hs hs2
  go_enter Try.func17, Try.ntmps17
  go_wp2_with fail
  refine (i_winds (fun _ => (x, y)) g 4 cap _ (by omega) HW.out).mono ?_
  rintro e w1 ⟨t0, ht, rfl, e1, g1⟩
  obtain rfl : t0 = true := ht.2 HO.out
  obtain rfl := e1 rfl
  clear ht e1 g1
  go_wp2
  go_loop [4, 6, 18] (fun a v i => ∃ k : Nat, k ≤ 4 ∧ i = .int .i64 k ∧ a = .complex .f64 (s k) (t k)) (fun _ _ i => 4 - (intOf i).toNat)
  case atStart => exact ⟨0, by omega, rfl, by rw [HZ.out.1, HZ.out.2]⟩
  case round =>
    obtain ⟨k, hk, rfl, rfl⟩ := hrel
    by_cases hlt : k < 4
    · have hc := HC.out k hlt
      have qs := fun w => run_complex_sum (P := Try.prog) w .add (Or.inl rfl) 55 .f64 (s k) (t k) (wid x) (wid y) (s (k + 1)) (t (k + 1)) (by unfold cSumBits; rw [HA.out.1 k hlt, HA.out.2 k hlt]; rfl)
      have k1 : (k : Int) < 4 := by omega
      generalize hsk : s (k + 1) = sk at *
      generalize htk : t (k + 1) = tk at *
      generalize s k = s0 at *
      generalize t k = t0 at *
      have HK := Lib.hid (And.intro hsk htk)
      clear hsk htk
      go_wp2_with (go_at_call 34; go_in)
      go_round
      case rel => exact ⟨k + 1, by omega, by go_num, by rw [HK.out.1, HK.out.2]⟩
      case measure => simp [intOf]; omega
    · have hk4 : k = 4 := by omega
      subst hk4
      go_wp2
      go_ret2
      exact ⟨rfl, rfl⟩
set_option maxRecDepth 100000 in
set_option maxHeartbeats 1000000 in
theorem i_mean_no (x y g cap : Nat) (w : World) (hx : x < 4294967296) (hy : y < 4294967296) (h : ¬ okV x y) (hw : ∀ j, j < 4 → w.cell? ⟨g, j, none⟩ = some (.complex .f32 x y)) :
    Calls Try.prog 17 #[.slice (some ⟨g, 0, none⟩) 4 cap] w fun e w' => e = .returned (.tuple #[.complex .f32 0 0, .bool false]) ∧ w.grownBy w' none := by
  have hW : Winds w g 4 (fun _ => (x, y)) := fun j hj => ⟨hw j hj, hx, hy⟩
  have hno : ¬ WindsOk 4 (fun _ => (x, y)) := fun o => h (o.2 0 (by omega))
  clear hw
  go_enter Try.func17, Try.ntmps17
  go_wp2_with fail
  refine (i_winds (fun _ => (x, y)) g 4 cap _ (by omega) hW).mono ?_
  rintro e w1 ⟨t0, ht, rfl, e1, g1⟩
  cases t0
  · clear ht e1 hW
    go_wp2
    go_ret2
    exact ⟨rfl, g1⟩
  · exact absurd (ht.1 rfl) hno
set_option maxRecDepth 100000 in
set_option maxHeartbeats 2000000 in
theorem w_FnMeanAlike (a0 : Option Addr) (len cap : Nat) (zs : List Int) (w : World) (hr : IsRow .u8 w a0 len cap zs) :
    Calls Try.prog 5 #[.slice a0 len cap] w fun e w' => e = .returned (.bool true) ∧ Below w.heap.size w w' := by
  by_cases hbig : len ≤ 1048576
  · have hcode := code_of_row hr hbig
    go_enter Try.func5, Try.ntmps5
    go_wp2_with (first
      | (go_at_call 8; go_in)
      | fail)
    refine (d_fromof _ len cap a0 hcode).mono ?_
    rintro e w1 ⟨x, y, hx, hy, rfl, b1⟩
    have hcell : ∀ t : TypeId, ∀ j, j < 4 → (w1.alloc (.cells #[.complex .f32 x y, .complex .f32 x y, .complex .f32 x y, .complex .f32 x y] t)).cell? ⟨w1.heap.size, j, none⟩ = some (.complex .f32 x y) := fun t j hj => by
      rw [cell_of_row _ _ j _ _ _ (heap_alloc_new w1 _)]
      match j, hj with
      | 0, _ => rfl
      | 1, _ => rfl
      | 2, _ => rfl
      | 3, _ => rfl
    have HC := Lib.hid hcell
    clear hcell
    by_cases o : okV x y
    · obtain ⟨s, q1, r1, f1⟩ := four_ex hx o.2.1
      obtain ⟨t, q2, r2, f2⟩ := four_ex hy o.2.2
      have D1 := fun cap w hw => i_mean4 x y w1.heap.size cap s t q1 q2 r1 r2 w o f1 f2 hw
      have j1 := f1.same
      have j2 := f2.same
      clear f1 f2
      go_wp2_with fail
      refine (D1 _ _ (HC.out _)).mono ?_
      rintro e w2 ⟨rfl, rfl⟩
      have b2 := b1.alloc b1.size (.cells #[.complex .f32 x y, .complex .f32 x y, .complex .f32 x y, .complex .f32 x y] 26)
      go_wp2_with (go_at_call 18; ((with_reducible refine (s_velok_yes x y _ o).mono ?_); rintro e w' ⟨rfl, rfl⟩))
      go_ret
      exact ⟨rfl, b2⟩
    · have D1 := fun cap w hw => i_mean_no x y w1.heap.size cap w hx hy o hw
      go_wp2_with fail
      refine (D1 _ _ (HC.out _)).mono ?_
      rintro e w2 ⟨rfl, g2⟩
      have b2 := (b1.alloc b1.size (.cells #[.complex .f32 x y, .complex .f32 x y, .complex .f32 x y, .complex .f32 x y] 26)).grown g2 (b1.alloc b1.size _).size (fun _ h => by cases h)
      clear g2
      go_wp2_with fail
      refine (S.s_vok x y _ hx hy).mono ?_
      rintro e w3 ⟨t, ht, rfl, rfl⟩
      cases t
      · go_wp2
        go_ret
        exact ⟨rfl, b2⟩
      · exact absurd ⟨⟨hx, hy⟩, ht.1 rfl⟩ o
  · go_enter Try.func5, Try.ntmps5
    go_wp2
    go_ret
    exact ⟨rfl, Below.refl _ _⟩
end Go.Proofs.Ytgohekdikgfcnaa
