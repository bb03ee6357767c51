/- The walks of boatSpeedOk, velocityOn, Velocity, OverGround, Cross, AlongTrack and OffTrack (impl and spec), and of the law FnExactVelocity. -/
import Derived.Test.YtonfenekjocopaaGvA
import Derived.Test.YtonfenekjocopaaTnA
namespace Go.Proofs.Ytonfenekjocopaa
open Go.RowKit Ieee
set_option linter.unusedVariables false
set_option linter.unusedSimpArgs false

set_option maxHeartbeats 400000 in
theorem i_boatB (k : Nat) (w : World) (hk : k < 4294967296) :
    Calls Try.prog 71 #[.float .f32 k] w fun e w' => ∃ t, (t = true ↔ okBs k) ∧ e = .returned (.bool t) ∧ w = w' := by
  obtain ⟨t, u, h, f1, f2, f3⟩ := speed_flag k hk
  have H := Lib.hid h
  clear h f2
  cases t <;> cases u
  all_goals
    go_enter Try.func71, Try.ntmps71
    go_wp2
    go_ret
    exact ⟨_, H.out, rfl, rfl⟩
theorem i_boat_is (k : Nat) (t : Bool) (w : World) (hk : k < 4294967296) (ht : t = true ↔ okBs k) :
    Calls Try.prog 71 #[.float .f32 k] w fun e w' => e = .returned (.bool t) ∧ w = w' :=
  (i_boatB k w hk).mono fun e w' ⟨t', h, he, hw⟩ => by
    have : t' = t := by cases t <;> cases t' <;> simp_all
    subst this
    exact ⟨he, hw⟩

set_option maxHeartbeats 800000 in
theorem i_velon (k s : Nat) (w : World) (V : VelOk s k) :
    Calls Try.prog 111 #[tv k, .float .f32 s] w fun e w' => e = .returned (.complex .f32 (velW s k).1 (velW s k).2) ∧ w = w' := by
  have hs : (Try.prog.underlying 34).isSome = true := by rw [Try.underlying34]; rfl
  have q1 := fun w => run_convert_float_float (P := Try.prog) w 34 35 .f64 .f32 _ _ hs Try.underlying35 V.c1
  have q2 := fun w => run_convert_float_float (P := Try.prog) w 34 35 .f64 .f32 _ _ hs Try.underlying35 V.c2
  have q3 := fun w => run_float_arith (P := Try.prog) w .mul 35 .f32 _ _ _ V.m1
  have q4 := fun w => run_float_arith (P := Try.prog) w .mul 35 .f32 _ _ _ V.m2
  clear V
  unfold tv
  generalize nrW (trn k).1 = a at *
  generalize nrW (trn k).2 = b at *
  generalize (velW s k).1 = x at *
  generalize (velW s k).2 = y at *
  generalize (trn k).1 = c at *
  generalize (trn k).2 = d at *
  go_enter Try.func111, Try.ntmps111
  go_wp2
  go_ret
  exact ⟨rfl, rfl⟩

/-- The heading's turn. -/
def dg (h : Int) : Nat := (h % 360).toNat
theorem dg_lt (h : Int) : dg h < 360 := by unfold dg; omega

set_option maxHeartbeats 800000 in
theorem i_vel (h : Int) (s : Nat) (w : World) (hs : okBs s) :
    Calls Try.prog 102 #[.int .i64 h, .float .f32 s] w fun e w' => e = .returned (.tuple #[.complex .f32 (velW s (dg h)).1 (velW s (dg h)).2, .bool true]) ∧ Below w.heap.size w w' := by
  have cb := fun w => i_boat_is s true w hs.1 ⟨fun _ => hs, fun _ => rfl⟩
  have ct := fun w => i_turn h w
  have cv := fun w => i_velon (dg h) s w (vel_ok hs (dg_lt h))
  have e1 : (h % 360).toNat = dg h := rfl
  rw [e1] at ct
  clear e1 hs
  generalize dg h = k at *
  generalize (velW s k).1 = x at *
  generalize (velW s k).2 = y at *
  generalize tv k = T at *
  go_enter Try.func102, Try.ntmps102
  go_wp2_with (first
    | (go_at_call 71; ((with_reducible refine (cb _).mono ?_); rintro e w' ⟨rfl, rfl⟩))
    | fail)
  refine (ct _).mono ?_
  rintro e w1 ⟨rfl, b1⟩
  go_wp2_with fail
  refine (cv _).mono ?_
  rintro e w2 ⟨rfl, rfl⟩
  go_wp2
  go_ret2
  exact ⟨rfl, b1⟩
set_option maxHeartbeats 800000 in
theorem i_vel_no (h : Int) (s : Nat) (w : World) (hl : s < 4294967296) (hs : ¬ okBs s) :
    Calls Try.prog 102 #[.int .i64 h, .float .f32 s] w fun e w' => e = .returned (.tuple #[.complex .f32 0 0, .bool false]) ∧ w = w' := by
  have cb := fun w => i_boat_is s false w hl ⟨fun h => (by cases h), fun h => absurd h hs⟩
  clear hs
  go_enter Try.func102, Try.ntmps102
  go_wp2_with (go_at_call 71; ((with_reducible refine (cb _).mono ?_); rintro e w' ⟨rfl, rfl⟩))
  go_ret2
  exact ⟨rfl, rfl⟩

set_option maxHeartbeats 800000 in
theorem s_vel (h : Int) (s : Nat) (w : World) (hs : okBs s) :
    Calls Try.prog 79 #[.int .i64 h, .float .f32 s] w fun e w' => e = .returned (.tuple #[.complex .f32 (velW s (dg h)).1 (velW s (dg h)).2, .bool true]) ∧ w = w' := by
  obtain ⟨t, u, hb, _, f1, f2⟩ := speed_flag s hs.1
  have h2 := hb.2 hs
  rw [Bool.and_eq_true] at h2
  obtain ⟨rfl, rfl⟩ := h2
  have V := vel_ok hs (dg_lt h)
  have hs : (Try.prog.underlying 34).isSome = true := by rw [Try.underlying34]; rfl
  have q1 := fun w => run_convert_float_float (P := Try.prog) w 34 35 .f64 .f32 _ _ hs Try.underlying35 V.c1
  have q2 := fun w => run_convert_float_float (P := Try.prog) w 34 35 .f64 .f32 _ _ hs Try.underlying35 V.c2
  have q3 := fun w => run_float_arith (P := Try.prog) w .mul 35 .f32 _ _ _ V.m1
  have q4 := fun w => run_float_arith (P := Try.prog) w .mul 35 .f32 _ _ _ V.m2
  have ct := fun w => s_turn h w
  have e1 : (h % 360).toNat = dg h := rfl
  rw [e1] at ct
  clear V e1 hb hs
  unfold tv at ct
  generalize dg h = k at *
  generalize nrW (trn k).1 = a at *
  generalize nrW (trn k).2 = b at *
  generalize (velW s k).1 = x at *
  generalize (velW s k).2 = y at *
  generalize (trn k).1 = c at *
  generalize (trn k).2 = d at *
  go_enter Try.func79, Try.ntmps79
  go_wp2_with (go_at_call 64; ((with_reducible refine (ct _).mono ?_); rintro e w' ⟨rfl, rfl⟩))
  go_ret2
  exact ⟨rfl, rfl⟩
set_option maxHeartbeats 800000 in
theorem s_vel_no (h : Int) (s : Nat) (w : World) (hl : s < 4294967296) (hs : ¬ okBs s) :
    Calls Try.prog 79 #[.int .i64 h, .float .f32 s] w fun e w' => e = .returned (.tuple #[.complex .f32 0 0, .bool false]) ∧ w = w' := by
  obtain ⟨t, u, hb, _, f1, f2⟩ := speed_flag s hl
  have h2 : (t && u) = false := by
    cases h : (t && u)
    · rfl
    · exact absurd (hb.1 h) hs
  clear hb hs
  cases t <;> cases u
  all_goals first
    | (cases h2; done)
    | (clear h2
       go_enter Try.func79, Try.ntmps79
       go_wp2
       go_ret2
       exact ⟨rfl, rfl⟩)

end Go.Proofs.Ytonfenekjocopaa
