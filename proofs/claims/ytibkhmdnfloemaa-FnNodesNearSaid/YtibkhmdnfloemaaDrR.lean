/- The drawing of floats and vectors: l01Odd, l01Real, l02Vector, DrawVectorOk, DrawUnit. -/
import Derived.Test.YtibkhmdnfloemaaDr2
import Derived.Test.YtibkhmdnfloemaaFA
namespace Go.Proofs.Ytibkhmdnfloemaa
open Go.RowKit Ieee

theorem neg_lt {x : Nat} (h : x < 18446744073709551616) : Op.negFloat .f64 x < 18446744073709551616 := by
  show x ^^^ 2 ^ 63 < 2 ^ 64
  exact Nat.xor_lt_two_pow h (by decide)
theorem quo_zero : floatBits .quo .f64 0 0 = none := by kernel_rfl
theorem quo_one : floatBits .quo .f64 4607182418800017408 0 = some 9218868437227405312 := by kernel_rfl
theorem quo_mone : floatBits .quo .f64 13830554455654793216 0 = some 18442240474082181120 := by kernel_rfl
theorem ofInt_zero : floatOfInt .f64 0 = 0 := by kernel_rfl
/-- A whole number by 8 or by 1000, as a float. -/
theorem quo_ex (n : Int) (y : Nat) (h : y = 4620693217682128896 ∨ y = 4652007308841189376) : ∃ r, floatBits .quo .f64 (floatOfInt .f64 n) y = some r ∧ r < 18446744073709551616 := by
  have key : ∀ {s m i}, FloatKind.f64.format.read y = .number s m i → m ≠ 0 → ∃ r, floatBits .quo .f64 (floatOfInt .f64 n) y = some r ∧ r < 18446744073709551616 := fun h0 hm => by
    obtain ⟨r, hr⟩ := fl_div_some FloatKind.f64.format (floatOfInt .f64 n) y (fl_nearest_nan _ _ _ _) h0 hm
    exact ⟨r, hr, FloatKind.f64.format.div_lt hr⟩
  rcases h with rfl | rfl
  · exact key (s := false) (m := 4503599627370496) (i := -49) (by kernel_rfl) (by omega)
  · exact key (s := false) (m := 8796093022208000) (i := -43) (by kernel_rfl) (by omega)

set_option maxRecDepth 100000 in
set_option maxHeartbeats 1000000 in
theorem d_odd (w : World) (B g len cap : Nat) (A : Option Addr) (hc : Cur w B g A len cap) :
    Calls Try.prog 50 #[.pointer (some ⟨g, 0, none⟩)] w fun e w' => ∃ x : Nat, x < 18446744073709551616 ∧ e = .returned (.float .f64 x) ∧ Cur w' B g A len cap ∧ w.grownBy w' (some g) := by
  obtain ⟨nb, hq, hn⟩ := run_nan .quo (by simp) 0 0 quo_zero
  have hnb := fun w => (hn w).1
  have q1 := fun w => run_float_arith (P := Try.prog) w .quo 53 .f64 _ _ _ quo_one
  have q2 := fun w => run_float_arith (P := Try.prog) w .quo 53 .f64 _ _ _ quo_mone
  have hng : ∀ w, (Op.unary .neg (.float .f64 0)).run Try.prog w = .ok (.float .f64 9223372036854775808) w := fun w => rfl
  have hz := ofInt_zero
  clear hn
  go_enter Try.func50, Try.ntmps50
  go_wp2_with fail
  refine (d_below _ _ _ g len cap A hc (by omega)).mono ?_
  rintro e w1 ⟨x, x0, x1, x2, rfl, cur1, gr1⟩
  have x3 := x1 (by omega)
  clear x1 x2
  go_wp2_with fail
  refine (d_below _ _ _ g len cap A cur1 (by omega)).mono ?_
  rintro e w2 ⟨y, y0, y1, y2, rfl, cur2, gr2⟩
  have y3 := y1 (by omega)
  clear y1 y2
  have hgr := grown_trans gr1 gr2
  have hcase : y = 0 ∨ y = 1 ∨ y = 2 ∨ y = 3 ∨ y = 4 ∨ y = 5 ∨ y = 6 ∨ y = 7 := by omega
  rcases hcase with rfl | rfl | rfl | rfl | rfl | rfl | rfl | rfl
  · go_wp2
    go_ret
    have hd : w2.grownBy w2.drew (some g) := ⟨rfl, rfl, rfl, Nat.le_refl _, fun _ _ _ => rfl⟩
    have hd0 : w2.grownBy w2.drew none := ⟨rfl, rfl, rfl, Nat.le_refl _, fun _ _ _ => rfl⟩
    exact ⟨nb w2, hnb w2, rfl, cur2.grown_far hd0 (by simp) (fun _ h => by cases h), grown_trans hgr hd⟩
  all_goals
    go_wp2
    go_ret
    exact ⟨_, by omega, rfl, cur2, hgr⟩
set_option maxRecDepth 100000 in
set_option maxHeartbeats 1000000 in
theorem d_real (n : Int) (w : World) (B g len cap : Nat) (A : Option Addr) (hc : Cur w B g A len cap) (n0 : 0 ≤ n) (n1 : n ≤ 1000000000) :
    Calls Try.prog 52 #[.pointer (some ⟨g, 0, none⟩), .int .i64 n] w fun e w' => ∃ x : Nat, x < 18446744073709551616 ∧ e = .returned (.float .f64 x) ∧ Cur w' B g A len cap ∧ w.grownBy w' (some g) := by
  go_enter Try.func52, Try.ntmps52
  go_wp2_with fail
  refine (d_once _ _ _ g len cap A hc (by omega)).mono ?_
  rintro e w1 ⟨t, rfl, cur1, gr1⟩
  cases t
  · go_wp2_with fail
    refine (d_below _ _ _ g len cap A cur1 (by omega)).mono ?_
    rintro e w2 ⟨x, x0, x1, x2, rfl, cur2, gr2⟩
    have gr12 := grown_trans gr1 gr2
    clear x1 x2
    obtain ⟨r, hr, hrl⟩ := quo_ex x 4620693217682128896 (.inl rfl)
    have q1 := fun w => run_float_arith (P := Try.prog) w .quo 53 .f64 _ _ _ hr
    clear hr
    go_wp2_with fail
    refine (d_once _ _ _ g len cap A cur2 (by omega)).mono ?_
    rintro e w3 ⟨t, rfl, cur3, gr3⟩
    have gr13 := grown_trans gr12 gr3
    cases t
    · go_wp2_with fail
      refine (d_once _ _ _ g len cap A cur3 (by omega)).mono ?_
      rintro e w4 ⟨t, rfl, cur4, gr4⟩
      have gr14 := grown_trans gr13 gr4
      have hng : ∀ w, (Op.unary .neg (.float .f64 r)).run Try.prog w = .ok (.float .f64 (Op.negFloat .f64 r)) w := fun w => rfl
      have hnl := neg_lt hrl
      generalize Op.negFloat .f64 r = r' at *
      cases t
      · go_wp2
        go_ret
        exact ⟨_, hrl, rfl, cur4, gr14⟩
      · go_wp2
        go_ret
        exact ⟨_, hnl, rfl, cur4, gr14⟩
    · go_wp2_with fail
      refine (d_below _ _ _ g len cap A cur3 (by omega)).mono ?_
      rintro e w4 ⟨y, y0, y1, y2, rfl, cur4, gr4⟩
      have gr14 := grown_trans gr13 gr4
      clear y1 y2
      obtain ⟨r2, hr2, hrl2⟩ := quo_ex y 4652007308841189376 (.inr rfl)
      have q2 := fun w => run_float_arith (P := Try.prog) w .quo 53 .f64 _ _ _ hr2
      clear hr2
      go_wp2_with fail
      refine (d_once _ _ _ g len cap A cur4 (by omega)).mono ?_
      rintro e w5 ⟨t, rfl, cur5, gr5⟩
      have gr15 := grown_trans gr14 gr5
      have hng : ∀ w, (Op.unary .neg (.float .f64 r2)).run Try.prog w = .ok (.float .f64 (Op.negFloat .f64 r2)) w := fun w => rfl
      have hnl := neg_lt hrl2
      generalize Op.negFloat .f64 r2 = r' at *
      cases t
      · go_wp2
        go_ret
        exact ⟨_, hrl2, rfl, cur5, gr15⟩
      · go_wp2
        go_ret
        exact ⟨_, hnl, rfl, cur5, gr15⟩
  · go_wp2_with fail
    refine (d_odd _ _ g len cap A cur1).mono ?_
    rintro e w2 ⟨x, xl, rfl, cur2, gr2⟩
    go_wp2
    go_ret
    exact ⟨x, xl, rfl, cur2, grown_trans gr1 gr2⟩
end Go.Proofs.Ytibkhmdnfloemaa
