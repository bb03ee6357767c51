/- The walks of Unit (impl and spec); the walk of the law FnUnits. -/
import Derived.Test.YtbjaedmifacgaaaUnN
import Derived.Test.YtbjaedmifacgaaaBrT
namespace Go.Proofs.Ytbjaedmifacgaaa
open Go.RowKit Ieee

/-- What Unit answers: the parts and whether there is a length. -/
def UnitIs (z u : Nat × Nat) (t : Bool) : Prop := ∃ r, LenIs z r ∧ ((r = 0 ∧ u = (0, 0) ∧ t = false) ∨
  ((FloatKind.f64.format.order r 0 == some .eq) = false ∧ floatBits .quo .f64 z.1 r = some u.1 ∧ floatBits .quo .f64 z.2 r = some u.2 ∧ t = true))
set_option maxHeartbeats 400000 in
theorem i_unit (z u : Nat × Nat) (t : Bool) (w : World) (ha : z.1 < 18446744073709551616) (hb : z.2 < 18446744073709551616) (h : UnitIs z u t) :
    Calls Try.prog 27 #[.complex .f64 z.1 z.2] w fun e w' => e = .returned (.tuple #[.complex .f64 u.1 u.2, .bool t]) ∧ w = w' := by
  obtain ⟨r, hl, h⟩ := h
  have il := fun w => i_len z r w ha hb hl
  have o00 := order_00
  clear hl
  rcases h with ⟨h1, h2, h3⟩ | ⟨h1, h2, h3, h4⟩
  · rw [h1] at il
    rw [h2, h3]
    clear h1 h2 h3
    go_enter Try.func27, Try.ntmps27
    go_wp2_with (go_at_call 28; ((with_reducible refine (il _).mono ?_); rintro e w' ⟨rfl, rfl⟩))
    go_ret2
    exact ⟨rfl, rfl⟩
  · have q1 := fun w => run_float_arith (P := Try.prog) w .quo 26 .f64 _ _ _ h2
    have q2 := fun w => run_float_arith (P := Try.prog) w .quo 26 .f64 _ _ _ h3
    rw [h4]
    clear h2 h3 h4
    go_enter Try.func27, Try.ntmps27
    go_wp2_with (go_at_call 28; ((with_reducible refine (il _).mono ?_); rintro e w' ⟨rfl, rfl⟩))
    go_ret2
    exact ⟨rfl, rfl⟩
set_option maxHeartbeats 400000 in
theorem s_unit (z u : Nat × Nat) (t : Bool) (w : World) (ha : z.1 < 18446744073709551616) (hb : z.2 < 18446744073709551616) (h : UnitIs z u t) :
    Calls Try.prog 29 #[.complex .f64 z.1 z.2] w fun e w' => e = .returned (.tuple #[.complex .f64 u.1 u.2, .bool t]) ∧ w = w' := by
  obtain ⟨r, hl, h⟩ := h
  have il := fun w => s_len z r w ha hb hl
  have o00 := order_00
  clear hl
  rcases h with ⟨h1, h2, h3⟩ | ⟨h1, h2, h3, h4⟩
  · rw [h1] at il
    rw [h2, h3]
    clear h1 h2 h3
    go_enter Try.func29, Try.ntmps29
    go_wp2_with (go_at_call 20; ((with_reducible refine (il _).mono ?_); rintro e w' ⟨rfl, rfl⟩))
    go_ret2
    exact ⟨rfl, rfl⟩
  · have q1 := fun w => run_float_arith (P := Try.prog) w .quo 26 .f64 _ _ _ h2
    have q2 := fun w => run_float_arith (P := Try.prog) w .quo 26 .f64 _ _ _ h3
    rw [h4]
    clear h2 h3 h4
    go_enter Try.func29, Try.ntmps29
    go_wp2_with (go_at_call 20; ((with_reducible refine (il _).mono ?_); rintro e w' ⟨rfl, rfl⟩))
    go_ret2
    exact ⟨rfl, rfl⟩

/-- All cases of the law. -/
theorem unit_cases (z : Nat × Nat) : ∃ r, LenIs z r ∧ ((r = 0 ∧ UnitIs z (0, 0) false) ∨
    (isNum r ∧ FloatKind.f64.format.order r 0 = some .gt ∧ ∃ u : Nat × Nat, UnitIs z u true ∧ u.1 < 18446744073709551616 ∧ u.2 < 18446744073709551616 ∧ ∃ n, LenIs u n ∧ FloatKind.f64.format.order n 4607182409792818153 = some .gt ∧ FloatKind.f64.format.order n 4607182423303617035 = some .lt)) := by
  by_cases h : okP z.1 ∧ okP z.2
  · by_cases hin : inR (dotW z z)
    · obtain ⟨g, hg⟩ := begins_ex (dotW z z)
      obtain ⟨rn, rl⟩ := inR_nonzero hin hg
      have hl := lowV_big
      have hlen : LenIs z (newtN (dotW z z) g 60) := .inr ⟨h.1, h.2, .inr ⟨hin, g, hg, rfl⟩⟩
      have hgt : FloatKind.f64.format.order (newtN (dotW z z) g 60) 0 = some .gt := by
        rw [show FloatKind.f64.format.order (newtN (dotW z z) g 60) 0 = _ from order_val rn (isNum_of nought_num), nought_val, Int.compare_eq_gt.2 (by omega)]
      obtain ⟨u, q1, q2, l1, l2, k1, k2, kin, kf⟩ := unit_close h.1 h.2 hin hg
      obtain ⟨g', hg'⟩ := begins_ex (dotW u u)
      obtain ⟨sn, s1, s2⟩ := kf g' hg'
      refine ⟨_, hlen, .inr ⟨rn, hgt, u, ⟨_, hlen, .inr ⟨by rw [hgt]; rfl, q1, q2, rfl⟩⟩, l1, l2, _, .inr ⟨k1, k2, .inr ⟨kin, g', hg', rfl⟩⟩, ?_, ?_⟩⟩
      · exact (order_val sn (isNum_of below_num)).trans (congrArg some (Int.compare_eq_gt.2 s1))
      · exact (order_val sn (isNum_of above_num)).trans (congrArg some (Int.compare_eq_lt.2 s2))
    · have hlen : LenIs z 0 := .inr ⟨h.1, h.2, .inl ⟨hin, rfl⟩⟩
      exact ⟨0, hlen, .inl ⟨rfl, 0, hlen, .inl ⟨rfl, rfl, rfl⟩⟩⟩
  · have hlen : LenIs z 0 := .inl ⟨h, rfl⟩
    exact ⟨0, hlen, .inl ⟨rfl, 0, hlen, .inl ⟨rfl, rfl, rfl⟩⟩⟩

set_option maxRecDepth 100000 in
set_option maxHeartbeats 2000000 in
theorem w_FnUnits (a0 : Option Addr) (len cap : Nat) (zs : List Int) (w : World) (hr : IsRow .u8 w a0 len cap zs) :
    Calls Try.prog 7 #[.slice a0 len cap] w fun e w' => e = .returned (.bool true) ∧ Below w.heap.size w w' := by
  by_cases hbig : len ≤ 1048576
  · have hcode := code_of_row hr hbig
    go_enter Try.func7, Try.ntmps7
    go_wp2_with (first
      | (go_at_call 12; go_in)
      | (go_at_call 26; ((with_reducible refine (d_unit _ len cap a0 hcode).mono ?_); rintro e w1 ⟨x, y, xl, yl, rfl, b1⟩)))
    clear hcode
    have o00 := order_00
    obtain ⟨r, hlen, h⟩ := unit_cases (x, y)
    have zl := fun w => i_len (x, y) r w xl yl hlen
    rcases h with ⟨h0, hu⟩ | ⟨rn, hgt, u, hu, u1, u2, n, hn, o1, o2⟩
    · have iu := fun w => i_unit (x, y) (0, 0) false w xl yl hu
      have su := fun w => s_unit (x, y) (0, 0) false w xl yl hu
      obtain ⟨n, hn⟩ := len_ex (0, 0)
      have nl := fun w => i_len (0, 0) n w (by omega) (by omega) hn
      rw [h0] at zl
      clear hlen hu hn h0
      go_wp2_with (first
        | (go_at_call 27; ((with_reducible refine (iu _).mono ?_); rintro e w' ⟨rfl, rfl⟩))
        | (go_at_call 29; ((with_reducible refine (su _).mono ?_); rintro e w' ⟨rfl, rfl⟩))
        | (go_at_call 28; ((with_reducible refine (nl _).mono ?_); rintro e w' ⟨rfl, rfl⟩))
        | (go_at_call 28; ((with_reducible refine (zl _).mono ?_); rintro e w' ⟨rfl, rfl⟩)))
      go_ret
      exact ⟨rfl, b1⟩
    · have iu := fun w => i_unit (x, y) u true w xl yl hu
      have su := fun w => s_unit (x, y) u true w xl yl hu
      have nl := fun w => i_len u n w u1 u2 hn
      clear hlen hu hn rn
      go_wp2_with (first
        | (go_at_call 27; ((with_reducible refine (iu _).mono ?_); rintro e w' ⟨rfl, rfl⟩))
        | (go_at_call 29; ((with_reducible refine (su _).mono ?_); rintro e w' ⟨rfl, rfl⟩))
        | (go_at_call 28; ((with_reducible refine (nl _).mono ?_); rintro e w' ⟨rfl, rfl⟩))
        | (go_at_call 28; ((with_reducible refine (zl _).mono ?_); rintro e w' ⟨rfl, rfl⟩)))
      go_ret
      exact ⟨rfl, b1⟩
  · go_enter Try.func7, Try.ntmps7
    go_wp2
    go_ret
    exact ⟨rfl, Below.refl _ _⟩
end Go.Proofs.Ytbjaedmifacgaaa
