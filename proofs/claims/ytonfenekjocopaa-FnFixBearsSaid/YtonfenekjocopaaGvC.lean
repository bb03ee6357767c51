/- The walks of OverGround, Cross, AlongTrack and OffTrack (impl and spec). -/
import Derived.Test.YtonfenekjocopaaGvB
import Derived.Test.YtonfenekjocopaaWk
namespace Go.Proofs.Ytonfenekjocopaa
open Go.RowKit Ieee
set_option linter.unusedVariables false
set_option linter.unusedSimpArgs false

set_option maxHeartbeats 400000 in
theorem i_cross (a b c d p q s : Nat) (w : World) (h1 : floatBits .mul .f64 a d = some p) (h2 : floatBits .mul .f64 b c = some q) (h3 : floatBits .sub .f64 p q = some s) :
    Calls Try.prog 62 #[.complex .f64 a b, .complex .f64 c d] w fun e w' => e = .returned (.float .f64 s) ∧ w = w' := by
  have q1 := fun w => run_float_arith (P := Try.prog) w .mul 34 .f64 _ _ _ h1
  have q2 := fun w => run_float_arith (P := Try.prog) w .mul 34 .f64 _ _ _ h2
  have q3 := fun w => run_float_arith (P := Try.prog) w .sub 34 .f64 _ _ _ h3
  clear h1 h2 h3
  go_enter Try.func62, Try.ntmps62
  go_wp2
  go_ret
  exact ⟨rfl, rfl⟩
set_option maxHeartbeats 400000 in
theorem s_cross (a b c d p q s : Nat) (w : World) (h1 : floatBits .mul .f64 a d = some p) (h2 : floatBits .mul .f64 b c = some q) (h3 : floatBits .sub .f64 p q = some s) :
    Calls Try.prog 65 #[.complex .f64 a b, .complex .f64 c d] w fun e w' => e = .returned (.float .f64 s) ∧ w = w' := by
  have q1 := fun w => run_float_arith (P := Try.prog) w .mul 34 .f64 _ _ _ h1
  have q2 := fun w => run_float_arith (P := Try.prog) w .mul 34 .f64 _ _ _ h2
  have q3 := fun w => run_float_arith (P := Try.prog) w .sub 34 .f64 _ _ _ h3
  clear h1 h2 h3
  go_enter Try.func65, Try.ntmps65
  go_wp2
  go_ret
  exact ⟨rfl, rfl⟩

set_option maxHeartbeats 800000 in
theorem i_over (h : Int) (s u v : Nat) (w : World) (hs : okBs s) (hv : okV u v) :
    Calls Try.prog 77 #[.int .i64 h, .float .f32 s, .complex .f32 u v] w fun e w' => e = .returned (.tuple #[.complex .f32 (grdW s u v (dg h)).1 (grdW s u v (dg h)).2, .bool true]) ∧ Below w.heap.size w w' := by
  have G := grd_ok hs (dg_lt h) hv
  have q := fun w => run_complex_sum (P := Try.prog) w .add (Or.inl rfl) 26 .f32 (velW s (dg h)).1 (velW s (dg h)).2 u v _ _ (by unfold cSumBits; rw [G.a1, G.a2]; rfl)
  have cv := fun w => i_vel h s w hs
  clear G
  generalize (grdW s u v (dg h)).1 = a at *
  generalize (grdW s u v (dg h)).2 = b at *
  generalize (velW s (dg h)).1 = x at *
  generalize (velW s (dg h)).2 = y at *
  go_enter Try.func77, Try.ntmps77
  go_wp2_with fail
  refine (cv _).mono ?_
  rintro e w1 ⟨rfl, b1⟩
  go_wp2_with (go_at_call 39; ((with_reducible refine (i_velok_yes u v _ hv).mono ?_); rintro e w' ⟨rfl, rfl⟩))
  go_ret2
  exact ⟨rfl, b1⟩
theorem velok_no {u v : Nat} {t : Bool} (hu : u < 4294967296) (hv : v < 4294967296) (hno : ¬ okV u v) (ht : S.VecIs u v t) : t = false := by
  cases t
  · rfl
  · exact absurd ⟨⟨hu, hv⟩, ht.1 rfl⟩ hno
set_option maxHeartbeats 800000 in
theorem i_over_no (h : Int) (s u v : Nat) (w : World) (hl : s < 4294967296) (hu : u < 4294967296) (hvl : v < 4294967296) (hno : ¬ (okBs s ∧ okV u v)) :
    Calls Try.prog 77 #[.int .i64 h, .float .f32 s, .complex .f32 u v] w fun e w' => e = .returned (.tuple #[.complex .f32 0 0, .bool false]) ∧ Below w.heap.size w w' := by
  by_cases hs : okBs s
  · have hv : ¬ okV u v := fun h => hno ⟨hs, h⟩
    have cv := fun w => i_vel h s w hs
    clear hno
    generalize (velW s (dg h)).1 = x at *
    generalize (velW s (dg h)).2 = y at *
    go_enter Try.func77, Try.ntmps77
    go_wp2_with fail
    refine (cv _).mono ?_
    rintro e w1 ⟨rfl, b1⟩
    go_wp2_with fail
    refine (i_velok u v _ hu hvl).mono ?_
    rintro e w2 ⟨t, ht, rfl, _, g2⟩
    obtain rfl := velok_no hu hvl hv ht
    have b2 := b1.grown g2 b1.size (fun k e => by cases e)
    clear ht g2
    go_wp2
    go_ret2
    exact ⟨rfl, b2⟩
  · go_enter Try.func77, Try.ntmps77
    go_wp2_with (go_at_call 102; ((with_reducible refine (i_vel_no _ _ _ hl hs).mono ?_); rintro e w' ⟨rfl, rfl⟩))
    go_ret2
    exact ⟨rfl, Below.refl _ _⟩

set_option maxHeartbeats 800000 in
theorem s_over (h : Int) (s u v : Nat) (w : World) (hs : okBs s) (hv : okV u v) :
    Calls Try.prog 43 #[.int .i64 h, .float .f32 s, .complex .f32 u v] w fun e w' => e = .returned (.tuple #[.complex .f32 (grdW s u v (dg h)).1 (grdW s u v (dg h)).2, .bool true]) ∧ w = w' := by
  have G := grd_ok hs (dg_lt h) hv
  have q1 := fun w => run_float_arith (P := Try.prog) w .add 35 .f32 _ _ _ G.a1
  have q2 := fun w => run_float_arith (P := Try.prog) w .add 35 .f32 _ _ _ G.a2
  have cv := fun w => s_vel h s w hs
  clear G
  generalize (grdW s u v (dg h)).1 = a at *
  generalize (grdW s u v (dg h)).2 = b at *
  generalize (velW s (dg h)).1 = x at *
  generalize (velW s (dg h)).2 = y at *
  go_enter Try.func43, Try.ntmps43
  go_wp2_with (first
    | (go_at_call 79; ((with_reducible refine (cv _).mono ?_); rintro e w' ⟨rfl, rfl⟩))
    | (go_at_call 42; ((with_reducible refine (s_velok_yes u v _ hv).mono ?_); rintro e w' ⟨rfl, rfl⟩)))
  go_ret2
  exact ⟨rfl, rfl⟩
set_option maxHeartbeats 800000 in
theorem s_over_no (h : Int) (s u v : Nat) (w : World) (hl : s < 4294967296) (hu : u < 4294967296) (hvl : v < 4294967296) (hno : ¬ (okBs s ∧ okV u v)) :
    Calls Try.prog 43 #[.int .i64 h, .float .f32 s, .complex .f32 u v] w fun e w' => e = .returned (.tuple #[.complex .f32 0 0, .bool false]) ∧ w = w' := by
  by_cases hs : okBs s
  · have hv : ¬ okV u v := fun h => hno ⟨hs, h⟩
    have cv := fun w => s_vel h s w hs
    clear hno
    generalize (velW s (dg h)).1 = x at *
    generalize (velW s (dg h)).2 = y at *
    go_enter Try.func43, Try.ntmps43
    go_wp2_with fail
    refine (cv _).mono ?_
    rintro e w1 ⟨rfl, rfl⟩
    go_wp2_with fail
    refine (S.s_vok u v _ hu hvl).mono ?_
    rintro e w2 ⟨t, ht, rfl, rfl⟩
    obtain rfl := velok_no hu hvl hv ht
    clear ht
    go_wp2
    go_ret2
    exact ⟨rfl, rfl⟩
  · go_enter Try.func43, Try.ntmps43
    go_wp2_with (go_at_call 79; ((with_reducible refine (s_vel_no _ _ _ hl hs).mono ?_); rintro e w' ⟨rfl, rfl⟩))
    go_ret2
    exact ⟨rfl, rfl⟩




end Go.Proofs.Ytonfenekjocopaa
