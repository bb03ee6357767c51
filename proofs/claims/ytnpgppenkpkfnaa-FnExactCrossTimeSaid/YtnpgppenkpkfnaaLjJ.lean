/- Which end of a line is favoured (impl and spec): Favoured. -/
import Derived.Test.YtnpgppenkpkfnaaLjC
import Derived.Test.YtnpgppenkpkfnaaVk
import Derived.Test.YtnpgppenkpkfnaaTnA
namespace Go.Proofs.Ytnpgppenkpkfnaa
open Go.RowKit Ieee
set_option linter.unusedVariables false
set_option linter.unusedSimpArgs false

/-- The number on which the answer turns; the answer. -/
def faD (l : Ln) (n : Int) : Nat := dotW (floatOfInt .f64 (l.2.1 - l.1.1), floatOfInt .f64 (l.2.2 - l.1.2)) (trn (n % 360).toNat)
def faW (l : Ln) (n : Int) : Int := if liB l = true then (if 0 < fval (faD l n) then 1 else if fval (faD l n) < 0 then -1 else 0) else 0
theorem part_int (n : Int) (h0 : -20000 ≤ n) (h1 : n ≤ 20000) : Part (floatOfInt .f64 n) := by
  obtain ⟨a, b⟩ := ofInt_val n (by omega) (by omega)
  refine ⟨a, ?_⟩
  rw [b, Int.natAbs_mul, Int.natAbs_natCast]
  exact Nat.mul_le_mul_right _ (by omega)
theorem num0 : isNum 0 := isNum_of nought_num
/-- All that a walk asks. -/
theorem fa_ok {l : Ln} {n : Int} (h : liB l = true) : ∃ p q, floatBits .mul .f64 (floatOfInt .f64 (l.2.1 - l.1.1)) (trn (n % 360).toNat).1 = some p ∧ floatBits .mul .f64 (floatOfInt .f64 (l.2.2 - l.1.2)) (trn (n % 360).toNat).2 = some q ∧ floatBits .add .f64 p q = some (faD l n) ∧
    f64.order (faD l n) (faD l n) = some .eq ∧ f64.order (faD l n) 0 = some (compare (fval (faD l n)) 0) := by
  obtain ⟨h1, h2, _⟩ := liB_iff.1 h
  have a1 := plB_iff.1 h1
  have a2 := plB_iff.1 h2
  obtain ⟨⟨k1, k2⟩, k3, k4⟩ := turn_part (k := (n % 360).toNat) (by omega)
  obtain ⟨p, q, b1, b2, b3, b4, _⟩ := dot_ok (z := (floatOfInt .f64 (l.2.1 - l.1.1), floatOfInt .f64 (l.2.2 - l.1.2))) (t := trn (n % 360).toNat) (part_int _ (by omega) (by omega)) (part_int _ (by omega) (by omega)) k1 k3 k2 k4
  refine ⟨p, q, b1, b2, b3, ?_, ?_⟩
  · show f64.order (dotW _ _) (dotW _ _) = _
    rw [order_val b4 b4, Int.compare_eq_eq.2 rfl]
  · show f64.order (dotW _ _) 0 = some (compare (fval (dotW _ _)) 0)
    rw [order_val b4 num0, nought_val]
theorem cmp_ways (v : Int) : (compare v 0 = .lt ∧ v < 0) ∨ (compare v 0 = .eq ∧ ¬ v < 0 ∧ ¬ 0 < v) ∨ (compare v 0 = .gt ∧ ¬ v < 0 ∧ 0 < v) := by
  rcases Int.lt_trichotomy v 0 with h | h | h
  · left; exact ⟨Int.compare_eq_lt.2 h, h⟩
  · right; left; exact ⟨Int.compare_eq_eq.2 h, by omega, by omega⟩
  · right; right; exact ⟨Int.compare_eq_gt.2 h, by omega, h⟩
theorem i_nanF (x : Nat) (w : World) (h : f64.order x x = some .eq) : Calls Try.prog 80 #[.float .f64 x] w fun e w' => e = .returned (.bool false) ∧ w' = w := by
  go_enter Try.func80, Try.ntmps80
  go_wp2
  go_ret
  exact ⟨rfl, rfl⟩
theorem ord00 : f64.order 0 0 = some .eq := by kernel_rfl
set_option maxRecDepth 100000 in
theorem i_cmF (x : Nat) (v : Int) (w : World) (h : f64.order x x = some .eq) (hv : f64.order x 0 = some (compare v 0)) : Calls Try.prog 67 #[.float .f64 x, .float .f64 0] w fun e w' => e = .returned (.int .i64 (if 0 < v then 1 else if v < 0 then -1 else 0)) ∧ w' = w := by
  have c1 := fun w => i_nanF x w h
  have c2 := fun w => i_nanF 0 w ord00
  clear h
  have hw : ((if 0 < v then (1 : Int) else if v < 0 then -1 else 0) = -1 ∧ f64.order x 0 = some .lt) ∨ ((if 0 < v then (1 : Int) else if v < 0 then -1 else 0) = 1 ∧ (f64.order x 0 == some .lt) = false ∧ f64.order x 0 = some .gt) ∨ ((if 0 < v then (1 : Int) else if v < 0 then -1 else 0) = 0 ∧ (f64.order x 0 == some .lt) = false ∧ (f64.order x 0 == some .gt) = false) := by
    rw [hv]
    rcases cmp_ways v with ⟨a, b⟩ | ⟨a, b, c⟩ | ⟨a, b, c⟩
    · left; rw [a, if_neg (by omega), if_pos b]; exact ⟨rfl, rfl⟩
    · right; right; rw [a, if_neg c, if_neg b]; exact ⟨rfl, rfl, rfl⟩
    · right; left; rw [a, if_pos c]; exact ⟨rfl, rfl, rfl⟩
  clear hv
  generalize (if 0 < v then (1 : Int) else if v < 0 then -1 else 0) = r at *
  rcases hw with ⟨rfl, h1⟩ | ⟨rfl, h1, h2⟩ | ⟨rfl, h1, h2⟩
  all_goals
    go_enter Try.func67, Try.ntmps67
    go_wp2_with (first
      | (go_at_call 80; ((with_reducible refine (c1 _).mono ?_); rintro e w' ⟨rfl, rfl⟩))
      | (go_at_call 80; ((with_reducible refine (c2 _).mono ?_); rintro e w' ⟨rfl, rfl⟩)))
    go_ret
    exact ⟨rfl, rfl⟩
set_option maxRecDepth 100000 in
theorem i_wide (p : Int × Int) (w : World) : Calls Try.prog 70 #[.agg #[.int .i64 p.1, .int .i64 p.2]] w fun e w' => e = .returned (.complex .f64 (floatOfInt .f64 p.1) (floatOfInt .f64 p.2)) ∧ Below w.heap.size w w' := by
  obtain ⟨x, y⟩ := p
  dsimp only at *
  have HS := Lib.hid (Bx1.new w #[.int .i64 x, .int .i64 y] 94)
  go_enter Try.func70, Try.ntmps70
  go_wp2
  go_ret
  exact ⟨rfl, HS.out.2⟩
set_option maxRecDepth 100000 in
set_option maxHeartbeats 1000000 in
theorem i_fav (l : Ln) (n : Int) (w : World) :
    Calls Try.prog 45 #[.agg #[.int .i64 l.1.1, .int .i64 l.1.2, .int .i64 l.2.1, .int .i64 l.2.2], .int .i64 n] w fun e w' => e = .returned (.int .i64 (faW l n)) ∧ Below w.heap.size w w' := by
  have H1 := Lib.hid (fun w => i_liB l w)
  cases h : liB l
  · rw [show faW l n = 0 by unfold faW; rw [h]; rfl]
    rw [h] at H1
    clear h
    obtain ⟨⟨x1, x2⟩, x3, x4⟩ := l
    dsimp only at *
    have hs := Lib.hid (Bx1.new w #[.int .i64 x1, .int .i64 x2, .int .i64 x3, .int .i64 x4] 27)
    obtain ⟨c00, c01, c02, c03⟩ := cells_ln hs.out.1
    go_enter Try.func45, Try.ntmps45
    go_wp2_with fail
    refine wp_scope_on 0 (by rfl) ?_
    go_wp2_with fail
    refine (H1.out _).mono ?_
    rintro e w1 ⟨rfl, b1⟩
    have hs1 := Lib.hid (hs.out.step b1)
    clear hs b1 c00 c01 c02 c03
    go_wp2
    refine wp_goto (And.intro rfl ?_)
    show Go.Code.wp _ _ _ _ _
    go_wp2
    rw [Exit.noGoto_ret]
    go_ret
    exact ⟨rfl, hs1.out.2⟩
  · obtain ⟨p, q, q1, q2, q3, q4, q5⟩ := fa_ok (n := n) h
    rw [show faW l n = (if 0 < fval (faD l n) then 1 else if fval (faD l n) < 0 then -1 else 0) by unfold faW; rw [h]; rfl]
    have H2 := Lib.hid (fun w => i_less l.2 l.1 w (liB_iff.1 h).2.1 (liB_iff.1 h).1)
    have H3 := Lib.hid (fun w => i_wide (l.2.1 - l.1.1, l.2.2 - l.1.2) w)
    have H4 := Lib.hid (fun w => i_turn n w)
    have H5 := Lib.hid (fun w => i_dot _ _ _ _ _ _ _ w q1 q2 q3)
    have H6 := Lib.hid (fun w => i_cmF _ _ w q4 q5)
    rw [h] at H1
    clear h q1 q2 q3 q4 q5
    generalize (if 0 < fval (faD l n) then (1 : Int) else if fval (faD l n) < 0 then -1 else 0) = r at *
    generalize faD l n = d at *
    unfold tv at *
    generalize trn (n % 360).toNat = t at *
    obtain ⟨⟨x1, x2⟩, x3, x4⟩ := l
    dsimp only at *
    generalize x3 - x1 = X at *
    generalize x4 - x2 = Y at *
    generalize floatOfInt .f64 X = X' at *
    generalize floatOfInt .f64 Y = Y' at *
    have hs := Lib.hid (Bx1.new w #[.int .i64 x1, .int .i64 x2, .int .i64 x3, .int .i64 x4] 27)
    obtain ⟨c00, c01, c02, c03⟩ := cells_ln hs.out.1
    go_enter Try.func45, Try.ntmps45
    go_wp2_with fail
    refine wp_scope_on 0 (by rfl) ?_
    go_wp2_with fail
    refine (H1.out _).mono ?_
    rintro e w1 ⟨rfl, b1⟩
    have hs1 := Lib.hid (hs.out.step b1)
    clear hs b1 c00 c01 c02 c03
    obtain ⟨c00, c01, c02, c03⟩ := cells_ln hs1.out.1
    go_wp2_with fail
    refine (H2.out _).mono ?_
    rintro e w2 ⟨rfl, b1⟩
    have hs2 := Lib.hid (hs1.out.step b1)
    clear hs1 b1 c00 c01 c02 c03
    go_wp2_with fail
    refine (H3.out _).mono ?_
    rintro e w3 ⟨rfl, b1⟩
    have hs3 := Lib.hid (hs2.out.step b1)
    clear hs2 b1
    go_wp2_with fail
    refine (H4.out _).mono ?_
    rintro e w4 ⟨rfl, b1⟩
    have hs4 := Lib.hid (hs3.out.step b1)
    clear hs3 b1
    go_wp2_with (first
      | (go_at_call 68; ((with_reducible refine (H5.out _).mono ?_); rintro e w' ⟨rfl, rfl⟩))
      | (go_at_call 67; ((with_reducible refine (H6.out _).mono ?_); rintro e w' ⟨rfl, rfl⟩)))
    refine jump_out (l := 0) ?_
    go_ret
    exact ⟨rfl, hs4.out.2⟩
set_option maxRecDepth 100000 in
set_option maxHeartbeats 1000000 in
theorem s_fav (l : Ln) (n : Int) (w : World) :
    Calls Try.prog 44 #[.agg #[.int .i64 l.1.1, .int .i64 l.1.2, .int .i64 l.2.1, .int .i64 l.2.2], .int .i64 n] w fun e w' => e = .returned (.int .i64 (faW l n)) ∧ Below w.heap.size w w' := by
  have H1 := Lib.hid (fun w => s_liB l w)
  cases h : liB l
  · rw [show faW l n = 0 by unfold faW; rw [h]; rfl]
    rw [h] at H1
    clear h
    obtain ⟨⟨x1, x2⟩, x3, x4⟩ := l
    dsimp only at *
    have hs := Lib.hid (Bx1.new w #[.int .i64 x1, .int .i64 x2, .int .i64 x3, .int .i64 x4] 27)
    obtain ⟨c00, c01, c02, c03⟩ := cells_ln hs.out.1
    go_enter Try.func44, Try.ntmps44
    go_wp2_with fail
    refine (H1.out _).mono ?_
    rintro e w1 ⟨rfl, b1⟩
    have hs1 := Lib.hid (hs.out.step b1)
    clear hs b1 c00 c01 c02 c03
    go_wp2
    go_ret
    exact ⟨rfl, hs1.out.2⟩
  · obtain ⟨p, q, q1, q2, q3, q4, q5⟩ := fa_ok (n := n) h
    rw [show faW l n = (if 0 < fval (faD l n) then 1 else if fval (faD l n) < 0 then -1 else 0) by unfold faW; rw [h]; rfl]
    have H4 := Lib.hid (fun w => s_turn n w)
    have H5 := Lib.hid (fun w => s_dot _ _ _ _ _ _ _ w q1 q2 q3)
    have a1 := plB_iff.1 (liB_iff.1 h).1
    have a2 := plB_iff.1 (liB_iff.1 h).2.1
    have hw : ((if 0 < fval (faD l n) then (1 : Int) else if fval (faD l n) < 0 then -1 else 0) = 1 ∧ f64.order (faD l n) 0 = some .gt) ∨ ((if 0 < fval (faD l n) then (1 : Int) else if fval (faD l n) < 0 then -1 else 0) = -1 ∧ (f64.order (faD l n) 0 == some .gt) = false ∧ f64.order (faD l n) 0 = some .lt) ∨ ((if 0 < fval (faD l n) then (1 : Int) else if fval (faD l n) < 0 then -1 else 0) = 0 ∧ (f64.order (faD l n) 0 == some .gt) = false ∧ (f64.order (faD l n) 0 == some .lt) = false) := by
      rw [q5]
      rcases cmp_ways (fval (faD l n)) with ⟨a, b⟩ | ⟨a, b, c⟩ | ⟨a, b, c⟩
      · right; left; rw [a, if_neg (by omega), if_pos b]; exact ⟨rfl, rfl, rfl⟩
      · right; right; rw [a, if_neg c, if_neg b]; exact ⟨rfl, rfl, rfl⟩
      · left; rw [a, if_pos c]; exact ⟨rfl, rfl⟩
    rw [h] at H1
    clear h q1 q2 q3 q4 q5
    generalize (if 0 < fval (faD l n) then (1 : Int) else if fval (faD l n) < 0 then -1 else 0) = r at *
    generalize faD l n = d at *
    unfold tv at *
    generalize trn (n % 360).toNat = t at *
    obtain ⟨⟨x1, x2⟩, x3, x4⟩ := l
    dsimp only at *
    have s1 : wrap64 (x3 - x1) = x3 - x1 := by unfold wrap64; omega
    have s2 : wrap64 (x4 - x2) = x4 - x2 := by unfold wrap64; omega
    have hs := Lib.hid (Bx1.new w #[.int .i64 x1, .int .i64 x2, .int .i64 x3, .int .i64 x4] 27)
    obtain ⟨c00, c01, c02, c03⟩ := cells_ln hs.out.1
    rcases hw with ⟨rfl, h1⟩ | ⟨rfl, h1, h2⟩ | ⟨rfl, h1, h2⟩
    all_goals
      go_enter Try.func44, Try.ntmps44
      go_wp2_with fail
      refine (H1.out _).mono ?_
      rintro e w1 ⟨rfl, b1⟩
      have hs1 := Lib.hid (hs.out.step b1)
      clear hs b1 c00 c01 c02 c03
      obtain ⟨c00, c01, c02, c03⟩ := cells_ln hs1.out.1
      go_wp2_with (first
        | (go_at_call 66; ((with_reducible refine (H4.out _).mono ?_); rintro e w' ⟨rfl, rfl⟩))
        | (go_at_call 65; ((with_reducible refine (H5.out _).mono ?_); rintro e w' ⟨rfl, rfl⟩)))
      go_ret
      exact ⟨rfl, hs1.out.2⟩
end Go.Proofs.Ytnpgppenkpkfnaa
