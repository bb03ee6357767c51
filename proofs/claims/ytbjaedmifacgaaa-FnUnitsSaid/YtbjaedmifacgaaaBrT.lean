/- DrawBearing; the walk of the law FnBearingTwice. -/
import Derived.Test.YtbjaedmifacgaaaLnW
import Derived.Test.YtbjaedmifacgaaaDrR
namespace Go.Proofs.Ytbjaedmifacgaaa
open Go.RowKit Ieee

theorem code_below {w w' : World} {A : Option Addr} {len : Nat} (h : Code w w.heap.size A len) (hb : Below w.heap.size w w') : Code w' w'.heap.size A len := by
  obtain ⟨h1, h2⟩ := h
  refine ⟨h1, fun hn => ?_⟩
  obtain ⟨b, off, e, hlt, hc⟩ := h2 hn
  refine ⟨b, off, e, Nat.lt_of_lt_of_le hlt hb.size, fun j hj => ?_⟩
  obtain ⟨c, c0, c1, hx⟩ := hc j hj
  exact ⟨c, c0, c1, (World.cell?_of_block (hb.block b hlt)).trans hx⟩
theorem ofInt_lt (n : Int) : floatOfInt .f64 n < 18446744073709551616 := by
  have := floatOfInt_wf .f64 n
  simpa [Lit.wf] using this
/-- A turn's part times a whole number up to a hundred. -/
theorem turn_times {k : Nat} (hk : k < 360) (n : Int) (n0 : 0 ≤ n) (n1 : n ≤ 100) : ∃ p q, floatBits .mul .f64 (trn k).1 (floatOfInt .f64 n) = some p ∧ floatBits .mul .f64 (trn k).2 (floatOfInt .f64 n) = some q ∧ p < 18446744073709551616 ∧ q < 18446744073709551616 := by
  obtain ⟨⟨k1, k2⟩, k3, k4⟩ := turn_part hk
  obtain ⟨fn, fv⟩ := ofInt_val n (by omega) (by omega)
  have hb := oneV_bound
  have key : ∀ x : Nat, isNum x → (fval x).natAbs ≤ 2 * oneV → ∃ p, floatBits .mul .f64 x (floatOfInt .f64 n) = some p ∧ p < 18446744073709551616 := fun x hx hxb => by
    obtain ⟨p, h1, _, h3, _⟩ := mul_op hx fn (by
      rw [fv, Int.natAbs_mul, Int.natAbs_mul, Int.natAbs_natCast, Nat.pow_add]
      have h2 : n.natAbs * oneV ≤ 100 * oneV := Nat.mul_le_mul_right _ (by omega)
      have := Nat.mul_le_mul hxb h2
      refine Nat.lt_of_le_of_lt this ?_
      rw [show 2 * oneV * (100 * oneV) = 200 * oneV * oneV by rw [← Nat.mul_assoc, Nat.mul_right_comm 2 oneV 100]]
      exact Nat.mul_lt_mul_of_pos_right (by omega) (Nat.two_pow_pos _))
    exact ⟨p, h1, h3⟩
  obtain ⟨p, p1, p2⟩ := key _ k1 k2
  obtain ⟨q, q1, q2⟩ := key _ k3 k4
  exact ⟨p, q, p1, q1, p2, q2⟩

set_option maxRecDepth 100000 in
set_option maxHeartbeats 2000000 in
theorem d_bearing (w : World) (len cap : Nat) (A : Option Addr) (hcode : Code w w.heap.size A len) :
    Calls Try.prog 19 #[.slice A len cap] w fun e w' => ∃ x y : Nat, x < 18446744073709551616 ∧ y < 18446744073709551616 ∧ e = .returned (.complex .f64 x y) ∧ Below w.heap.size w w' := by
  go_enter Try.func19, Try.ntmps19
  go_wp2_with fail
  refine (d_new w w.heap.size len cap A (Nat.le_refl _) hcode).mono ?_
  rintro e w1 ⟨g, rfl, cur1, b1⟩
  go_wp2_with fail
  refine (d_below _ _ _ g len cap A cur1 (by omega)).mono ?_
  rintro e w2 ⟨m, m0, m1, m2, rfl, cur2, gr2⟩
  have b2 := below_cur b1 (Nat.le_refl _) gr2 cur1.1
  clear m1 m2
  by_cases c0 : m = 0
  · subst c0
    have hcode2 : Code w2 w2.heap.size A len := code_below hcode b2
    go_wp2_with fail
    refine (d_vecok w2 len cap A hcode2).mono ?_
    rintro e w3 ⟨x, y, xl, yl, rfl, b3⟩
    go_wp2
    go_ret
    exact ⟨x, y, xl, yl, rfl, b2.trans (b3.mono b2.size)⟩
  · by_cases c1 : m = 1
    · subst c1
      go_wp2_with fail
      refine (d_below _ _ _ g len cap A cur2 (by omega)).mono ?_
      rintro e w3 ⟨k, k0, k1, k2, rfl, cur3, gr3⟩
      have k3 := k1 (by omega)
      have b3 := below_cur b2 (Nat.le_refl _) gr3 cur2.1
      clear k1 k2
      obtain ⟨j, hj⟩ : ∃ j : Nat, j = (k % 360).toNat := ⟨_, rfl⟩
      have hj3 : j < 360 := by omega
      have hst := fun w => s_turn k w
      rw [← hj] at hst
      unfold tv at hst
      clear hj
      go_wp2_with (go_at_call 32; ((with_reducible refine (hst _).mono ?_); rintro e w' ⟨rfl, rfl⟩))
      refine (d_below _ _ _ g len cap A cur3 (by omega)).mono ?_
      rintro e w4 ⟨n, n0, n1, n2, rfl, cur4, gr4⟩
      have n3 := n1 (by omega)
      have b4 := below_cur b3 (Nat.le_refl _) gr4 cur3.1
      clear n1 n2
      obtain ⟨p, q, p1, q1, pl, ql⟩ := turn_times hj3 (1 + n) (by omega) (by omega)
      have f1 := fun w => run_float_arith (P := Try.prog) w .mul 26 .f64 _ _ _ p1
      have f2 := fun w => run_float_arith (P := Try.prog) w .mul 26 .f64 _ _ _ q1
      clear p1 q1 hst
      go_wp2
      go_ret
      exact ⟨p, q, pl, ql, rfl, b4⟩
    · by_cases c2 : m = 2
      · subst c2
        go_wp2_with fail
        refine (d_below _ _ _ g len cap A cur2 (by omega)).mono ?_
        rintro e w3 ⟨x, x0, x1, x2, rfl, cur3, gr3⟩
        have x3 := x1 (by omega)
        have b3 := below_cur b2 (Nat.le_refl _) gr3 cur2.1
        clear x1 x2
        go_wp2_with fail
        refine (d_below _ _ _ g len cap A cur3 (by omega)).mono ?_
        rintro e w4 ⟨y, y0, y1, y2, rfl, cur4, gr4⟩
        have y3 := y1 (by omega)
        have b4 := below_cur b3 (Nat.le_refl _) gr4 cur3.1
        clear y1 y2
        go_wp2
        go_ret
        exact ⟨_, _, ofInt_lt _, ofInt_lt _, rfl, b4⟩
      · go_wp2_with fail
        refine (d_vector 100 _ _ g len cap A cur2 (by omega) (by omega)).mono ?_
        rintro e w3 ⟨x, y, xl, yl, rfl, cur3, gr3⟩
        have b3 := below_cur b2 (Nat.le_refl _) gr3 cur2.1
        go_wp2
        go_ret
        exact ⟨x, y, xl, yl, rfl, b3⟩

/-- Twice a part of a valid vector. -/
theorem two_mul_part {x : Nat} (h : okP x) : ∃ y, floatBits .mul .f64 4611686018427387904 x = some y ∧ isNum y ∧ y < 18446744073709551616 ∧ fval y = 2 * fval x := by
  have hb := oneV_bound
  obtain ⟨y, h1, h2, h3, h4⟩ := mul_op (isNum_of two_num) h.1 (by
    rw [two_val, Int.natAbs_mul, Nat.pow_add, show (2 * (oneV : Int)).natAbs = 2 * oneV by omega]
    have := Nat.mul_le_mul_left (2 * oneV) h.2
    refine Nat.lt_of_le_of_lt this ?_
    rw [show 2 * oneV * (100000000 * oneV) = 200000000 * oneV * oneV by rw [← Nat.mul_assoc, Nat.mul_right_comm 2 oneV 100000000]]
    exact Nat.mul_lt_mul_of_pos_right (by omega) (Nat.two_pow_pos _))
  have hn := h4.near (Nat.two_pow_pos _)
  rw [two_val, show 2 * (oneV : Int) * fval x = 2 * fval x * (oneV : Int) by rw [Int.mul_right_comm]] at hn
  exact ⟨y, h1, h2, h3, hn.exact (rep_two (rep_num h.1))⟩
/-- A vector with a length, and twice it. -/
theorem len_points {z : Nat × Nat} (h1 : okP z.1) (h2 : okP z.2) (hb : bigV ≤ (fval z.1).natAbs ∨ bigV ≤ (fval z.2).natAbs) : Points z := by
  refine ⟨h1, h2, ?_⟩
  have hp : 0 < bigV := Nat.two_pow_pos _
  cases h : (f64.order z.1 0 == some .eq && f64.order z.2 0 == some .eq) with
  | false => rfl
  | true =>
    exfalso
    simp only [Bool.and_eq_true, beq_iff_eq] at h
    have x0 := order_zero_val h1.1 h.1
    have y0 := order_zero_val h2.1 h.2
    rcases hb with h | h <;> omega
theorem inR_nonzero {x g : Nat} (h : inR x) (hb : begins x g) : isNum (newtN x g 60) ∧ (lowV : Int) ≤ fval (newtN x g 60) := by
  obtain ⟨mn, mx, a, b, c, d, e, _, f, g0, g1⟩ := begin_bounds h hb
  obtain ⟨k1, k2, _⟩ := newtN_in h a b c d e f g0 g1 60
  exact ⟨k1, by omega⟩
/-- A length that is not nought. -/
theorem len_some {z : Nat × Nat} {r : Nat} (h : LenIs z r) : (r = 0) ∨ (okP z.1 ∧ okP z.2 ∧ inR (dotW z z) ∧ isNum r ∧ (lowV : Int) ≤ fval r ∧ (FloatKind.f64.format.order r 0 == some .eq) = false) := by
  rcases h with ⟨_, h⟩ | ⟨h1, h2, h | ⟨h3, g, hg, he⟩⟩
  · exact .inl h
  · exact .inl h.2
  · right
    obtain ⟨rn, rl⟩ := inR_nonzero h3 hg
    rw [← he] at rn rl
    refine ⟨h1, h2, h3, rn, rl, ?_⟩
    have hl := lowV_big
    rw [show FloatKind.f64.format.order r 0 = _ from order_val rn (isNum_of nought_num), nought_val, Int.compare_eq_gt.2 (by omega)]
    rfl
theorem order_00 : FloatKind.f64.format.order 0 0 = some .eq := by kernel_rfl

set_option maxRecDepth 100000 in
set_option maxHeartbeats 2000000 in
theorem w_FnBearingTwice (a0 : Option Addr) (len cap : Nat) (zs : List Int) (w : World) (hr : IsRow .u8 w a0 len cap zs) :
    Calls Try.prog 5 #[.slice a0 len cap] w fun e w' => e = .returned (.bool true) ∧ Below w.heap.size w w' := by
  by_cases hbig : len ≤ 1048576
  · have hcode := code_of_row hr hbig
    go_enter Try.func5, Try.ntmps5
    go_wp2_with (first
      | (go_at_call 12; go_in)
      | (go_at_call 19; ((with_reducible refine (d_bearing _ len cap a0 hcode).mono ?_); rintro e w1 ⟨x, y, xl, yl, rfl, b1⟩)))
    clear hcode
    obtain ⟨r, hlen⟩ := len_ex (x, y)
    have sl := fun w => s_len (x, y) r w xl yl hlen
    have o00 := order_00
    rcases len_some hlen with h0 | ⟨h1, h2, h3, rn, rl, ho⟩
    · rw [h0] at sl
      clear hlen h0
      go_wp2_with (go_at_call 20; ((with_reducible refine (sl _).mono ?_); rintro e w' ⟨rfl, rfl⟩))
      go_ret
      exact ⟨rfl, b1⟩
    · obtain ⟨x2, m1, x2n, x2l, x2v⟩ := two_mul_part h1
      obtain ⟨y2, m2, y2n, y2l, y2v⟩ := two_mul_part h2
      have q1 := fun w => run_float_arith (P := Try.prog) w .mul 26 .f64 _ _ _ m1
      have q2 := fun w => run_float_arith (P := Try.prog) w .mul 26 .f64 _ _ _ m2
      have hb := len_big h1 h2 h3
      have hp := len_points h1 h2 hb
      have hs := fun w => s_bear (x, y) w xl yl hp
      have hi := fun w => i_bear (x, y) w xl yl hp
      have hk := (bst_num hp 359 (by omega)).2
      have hv := fun w => s_vok x2 y2 w x2l y2l
      have HT := Lib.hid (fun (a : okP x2) (b : okP y2) => (⟨h1, h2, a, b, x2v, y2v, hb⟩ : Twice (x, y) (x2, y2)))
      clear m1 m2 hlen hp h1 h2 h3 rn rl x2v y2v hb
      have hk0 : (0 : Int) ≤ ((bst (x, y) 359).1 : Nat) := by omega
      have hk1 : (((bst (x, y) 359).1 : Nat) : Int) < 360 := by omega
      clear hk
      have HB := Lib.hid (fun (h : Twice (x, y) (x2, y2)) => (bst_dbl h 359 (by omega)).1)
      generalize (bst (x, y) 359).1 = k at *
      go_wp2_with (go_at_call 20; ((with_reducible refine (sl _).mono ?_); rintro e w' ⟨rfl, rfl⟩))
      refine (hv _).mono ?_
      rintro e w' ⟨t, ht, rfl, rfl⟩
      cases t
      · go_wp2
        go_ret
        exact ⟨rfl, b1⟩
      · have h2z : Twice (x, y) (x2, y2) := HT.out (ht.1 rfl).1 (ht.1 rfl).2
        have hp2 : Points (x2, y2) := len_points h2z.y1 h2z.y2 (by
          rcases h2z.big with h | h
          · left; have := h2z.e1; simp only at this h ⊢; omega
          · right; have := h2z.e2; simp only at this h ⊢; omega)
        have hi2 := fun w => i_bear (x2, y2) w x2l y2l hp2
        have ek : (bst (x2, y2) 359).1 = k := HB.out h2z
        rw [ek] at hi2
        clear HT HB h2z hp2 ek ht
        go_wp2_with (first
          | (go_at_call 16; ((with_reducible refine (hi _).mono ?_); rintro e w2 ⟨rfl, b2⟩))
          | (go_at_call 22; ((with_reducible refine (hs _).mono ?_); rintro e w' ⟨rfl, rfl⟩))
          | (go_at_call 16; ((with_reducible refine (hi2 _).mono ?_); rintro e w3 ⟨rfl, b3⟩)))
        go_ret
        have b12 := b1.trans (b2.mono b1.size)
        exact ⟨rfl, b12.trans (b3.mono b12.size)⟩
  · go_enter Try.func5, Try.ntmps5
    go_wp2
    go_ret
    exact ⟨rfl, Below.refl _ _⟩
end Go.Proofs.Ytbjaedmifacgaaa
