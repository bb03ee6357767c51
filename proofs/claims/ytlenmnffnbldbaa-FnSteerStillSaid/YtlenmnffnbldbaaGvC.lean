/- The walks of OverGround, Cross, AlongTrack and OffTrack (impl and spec). -/
import Derived.Test.YtlenmnffnbldbaaGvB
import Derived.Test.YtlenmnffnbldbaaWk
namespace Go.Proofs.Ytlenmnffnbldbaa
open Go.RowKit Ieee
set_option linter.unusedVariables false
set_option linter.unusedSimpArgs false

set_option maxHeartbeats 400000 in
theorem i_cross (a b c d p q s : Nat) (w : World) (h1 : floatBits .mul .f64 a d = some p) (h2 : floatBits .mul .f64 b c = some q) (h3 : floatBits .sub .f64 p q = some s) :
    Calls Try.prog 44 #[.complex .f64 a b, .complex .f64 c d] w fun e w' => e = .returned (.float .f64 s) ∧ w = w' := by
  have q1 := fun w => run_float_arith (P := Try.prog) w .mul 33 .f64 _ _ _ h1
  have q2 := fun w => run_float_arith (P := Try.prog) w .mul 33 .f64 _ _ _ h2
  have q3 := fun w => run_float_arith (P := Try.prog) w .sub 33 .f64 _ _ _ h3
  clear h1 h2 h3
  go_enter Try.func44, Try.ntmps44
  go_wp2
  go_ret
  exact ⟨rfl, rfl⟩
set_option maxHeartbeats 400000 in
theorem s_cross (a b c d p q s : Nat) (w : World) (h1 : floatBits .mul .f64 a d = some p) (h2 : floatBits .mul .f64 b c = some q) (h3 : floatBits .sub .f64 p q = some s) :
    Calls Try.prog 79 #[.complex .f64 a b, .complex .f64 c d] w fun e w' => e = .returned (.float .f64 s) ∧ w = w' := by
  have q1 := fun w => run_float_arith (P := Try.prog) w .mul 33 .f64 _ _ _ h1
  have q2 := fun w => run_float_arith (P := Try.prog) w .mul 33 .f64 _ _ _ h2
  have q3 := fun w => run_float_arith (P := Try.prog) w .sub 33 .f64 _ _ _ h3
  clear h1 h2 h3
  go_enter Try.func79, Try.ntmps79
  go_wp2
  go_ret
  exact ⟨rfl, rfl⟩

set_option maxHeartbeats 800000 in
theorem i_over (h : Int) (s u v : Nat) (w : World) (hs : okBs s) (hv : okV u v) :
    Calls Try.prog 51 #[.int .i64 h, .float .f32 s, .complex .f32 u v] w fun e w' => e = .returned (.tuple #[.complex .f32 (grdW s u v (dg h)).1 (grdW s u v (dg h)).2, .bool true]) ∧ Below w.heap.size w w' := by
  have G := grd_ok hs (dg_lt h) hv
  have q := fun w => run_complex_sum (P := Try.prog) w .add (Or.inl rfl) 25 .f32 (velW s (dg h)).1 (velW s (dg h)).2 u v _ _ (by unfold cSumBits; rw [G.a1, G.a2]; rfl)
  have cv := fun w => i_vel h s w hs
  clear G
  generalize (grdW s u v (dg h)).1 = a at *
  generalize (grdW s u v (dg h)).2 = b at *
  generalize (velW s (dg h)).1 = x at *
  generalize (velW s (dg h)).2 = y at *
  go_enter Try.func51, Try.ntmps51
  go_wp2_with fail
  refine (cv _).mono ?_
  rintro e w1 ⟨rfl, b1⟩
  go_wp2_with (go_at_call 37; ((with_reducible refine (i_velok_yes u v _ hv).mono ?_); rintro e w' ⟨rfl, rfl⟩))
  go_ret2
  exact ⟨rfl, b1⟩
theorem velok_no {u v : Nat} {t : Bool} (hu : u < 4294967296) (hv : v < 4294967296) (hno : ¬ okV u v) (ht : S.VecIs u v t) : t = false := by
  cases t
  · rfl
  · exact absurd ⟨⟨hu, hv⟩, ht.1 rfl⟩ hno
set_option maxHeartbeats 800000 in
theorem i_over_no (h : Int) (s u v : Nat) (w : World) (hl : s < 4294967296) (hu : u < 4294967296) (hvl : v < 4294967296) (hno : ¬ (okBs s ∧ okV u v)) :
    Calls Try.prog 51 #[.int .i64 h, .float .f32 s, .complex .f32 u v] w fun e w' => e = .returned (.tuple #[.complex .f32 0 0, .bool false]) ∧ Below w.heap.size w w' := by
  by_cases hs : okBs s
  · have hv : ¬ okV u v := fun h => hno ⟨hs, h⟩
    have cv := fun w => i_vel h s w hs
    clear hno
    generalize (velW s (dg h)).1 = x at *
    generalize (velW s (dg h)).2 = y at *
    go_enter Try.func51, Try.ntmps51
    go_wp2_with fail
    refine (cv _).mono ?_
    rintro e w1 ⟨rfl, b1⟩
    go_wp2_with fail
    refine (i_velok u v _ hu hvl).mono ?_
    rintro e w2 ⟨t, ht, rfl, _, g2⟩
    obtain rfl := velok_no hu hvl hv ht
    have b2 := b1.grown g2 b1.size (fun k e => by cases e)
    clear ht g2
    go_wp2
    go_ret2
    exact ⟨rfl, b2⟩
  · go_enter Try.func51, Try.ntmps51
    go_wp2_with (go_at_call 31; ((with_reducible refine (i_vel_no _ _ _ hl hs).mono ?_); rintro e w' ⟨rfl, rfl⟩))
    go_ret2
    exact ⟨rfl, Below.refl _ _⟩

set_option maxHeartbeats 800000 in
theorem s_over (h : Int) (s u v : Nat) (w : World) (hs : okBs s) (hv : okV u v) :
    Calls Try.prog 76 #[.int .i64 h, .float .f32 s, .complex .f32 u v] w fun e w' => e = .returned (.tuple #[.complex .f32 (grdW s u v (dg h)).1 (grdW s u v (dg h)).2, .bool true]) ∧ w = w' := by
  have G := grd_ok hs (dg_lt h) hv
  have q1 := fun w => run_float_arith (P := Try.prog) w .add 24 .f32 _ _ _ G.a1
  have q2 := fun w => run_float_arith (P := Try.prog) w .add 24 .f32 _ _ _ G.a2
  have cv := fun w => s_vel h s w hs
  clear G
  generalize (grdW s u v (dg h)).1 = a at *
  generalize (grdW s u v (dg h)).2 = b at *
  generalize (velW s (dg h)).1 = x at *
  generalize (velW s (dg h)).2 = y at *
  go_enter Try.func76, Try.ntmps76
  go_wp2_with (first
    | (go_at_call 30; ((with_reducible refine (cv _).mono ?_); rintro e w' ⟨rfl, rfl⟩))
    | (go_at_call 86; ((with_reducible refine (s_velok_yes u v _ hv).mono ?_); rintro e w' ⟨rfl, rfl⟩)))
  go_ret2
  exact ⟨rfl, rfl⟩
set_option maxHeartbeats 800000 in
theorem s_over_no (h : Int) (s u v : Nat) (w : World) (hl : s < 4294967296) (hu : u < 4294967296) (hvl : v < 4294967296) (hno : ¬ (okBs s ∧ okV u v)) :
    Calls Try.prog 76 #[.int .i64 h, .float .f32 s, .complex .f32 u v] w fun e w' => e = .returned (.tuple #[.complex .f32 0 0, .bool false]) ∧ w = w' := by
  by_cases hs : okBs s
  · have hv : ¬ okV u v := fun h => hno ⟨hs, h⟩
    have cv := fun w => s_vel h s w hs
    clear hno
    generalize (velW s (dg h)).1 = x at *
    generalize (velW s (dg h)).2 = y at *
    go_enter Try.func76, Try.ntmps76
    go_wp2_with fail
    refine (cv _).mono ?_
    rintro e w1 ⟨rfl, rfl⟩
    go_wp2_with fail
    refine (S.s_vok u v _ hu hvl).mono ?_
    rintro e w2 ⟨t, ht, rfl, rfl⟩
    obtain rfl := velok_no hu hvl hv ht
    clear ht
    go_wp2
    go_ret2
    exact ⟨rfl, rfl⟩
  · go_enter Try.func76, Try.ntmps76
    go_wp2_with (go_at_call 30; ((with_reducible refine (s_vel_no _ _ _ hl hs).mono ?_); rintro e w' ⟨rfl, rfl⟩))
    go_ret2
    exact ⟨rfl, rfl⟩

set_option maxHeartbeats 800000 in
theorem i_along (t h : Int) (s u v : Nat) (w : World) (hs : okBs s) (hv : okV u v) :
    Calls Try.prog 17 #[.int .i64 t, .int .i64 h, .float .f32 s, .complex .f32 u v] w fun e w' => e = .returned (.tuple #[.float .f64 (alW s u v (dg t) (dg h)), .bool true]) ∧ Below w.heap.size w w' := by
  have G := grd_ok hs (dg_lt h) hv
  have D := dc_grd hs (dg_lt t) (dg_lt h) hv
  have hu9 : (Try.prog.underlying 59).isSome = true := by rw [Try.underlying59]; rfl
  have q := fun w => run_convert_complex (P := Try.prog) (w := w) 59 50 .f32 .f64 _ _ _ _ hu9 Try.underlying50 (show cConvBits .f32 (grdW s u v (dg h)).1 (grdW s u v (dg h)).2 .f64 = some (wid (grdW s u v (dg h)).1, wid (grdW s u v (dg h)).2) by unfold cConvBits; rw [G.w1, G.w2]; rfl)
  have cv := fun w => i_over h s u v w hs hv
  have cd := fun w => i_dot (trn (dg t)).1 (trn (dg t)).2 (widW (grdW s u v (dg h))).1 (widW (grdW s u v (dg h))).2 _ _ _ w D.d1 D.d2 D.d3
  have ct := fun w => i_turn t w
  have e1 : (t % 360).toNat = dg t := rfl
  have e2 : alW s u v (dg t) (dg h) = dotW (trn (dg t)) (widW (grdW s u v (dg h))) := rfl
  rw [e1] at ct
  rw [← e2] at cd
  clear G D e1 e2 hu9
  unfold tv at ct
  unfold widW at cd
  dsimp only at cd
  generalize alW s u v (dg t) (dg h) = z at *
  generalize (trn (dg t)).1 = c at *
  generalize (trn (dg t)).2 = d at *
  generalize (grdW s u v (dg h)).1 = a at *
  generalize (grdW s u v (dg h)).2 = b at *
  generalize wid a = a' at *
  generalize wid b = b' at *
  go_enter Try.func17, Try.ntmps17
  go_wp2_with fail
  refine (cv _).mono ?_
  rintro e w1 ⟨rfl, b1⟩
  go_wp2_with fail
  refine (ct _).mono ?_
  rintro e w2 ⟨rfl, b2⟩
  have b3 := b1.trans (b2.mono b1.size)
  go_wp2_with (first
    | (go_at_call 42; go_in)
    | (go_at_call 45; ((with_reducible refine (cd _).mono ?_); rintro e w' ⟨rfl, rfl⟩)))
  go_ret2
  exact ⟨rfl, b3⟩
set_option maxHeartbeats 800000 in
theorem i_along_no (t h : Int) (s u v : Nat) (w : World) (hl : s < 4294967296) (hu : u < 4294967296) (hvl : v < 4294967296) (hno : ¬ (okBs s ∧ okV u v)) :
    Calls Try.prog 17 #[.int .i64 t, .int .i64 h, .float .f32 s, .complex .f32 u v] w fun e w' => e = .returned (.tuple #[.float .f64 0, .bool false]) ∧ Below w.heap.size w w' := by
  have cv := fun w => i_over_no h s u v w hl hu hvl hno
  clear hno
  go_enter Try.func17, Try.ntmps17
  go_wp2_with fail
  refine (cv _).mono ?_
  rintro e w1 ⟨rfl, b1⟩
  go_wp2
  go_ret2
  exact ⟨rfl, b1⟩

set_option maxHeartbeats 800000 in
theorem s_along (t h : Int) (s u v : Nat) (w : World) (hs : okBs s) (hv : okV u v) :
    Calls Try.prog 53 #[.int .i64 t, .int .i64 h, .float .f32 s, .complex .f32 u v] w fun e w' => e = .returned (.tuple #[.float .f64 (alW s u v (dg t) (dg h)), .bool true]) ∧ w = w' := by
  have G := grd_ok hs (dg_lt h) hv
  have D := dc_grd hs (dg_lt t) (dg_lt h) hv
  have hu9 : (Try.prog.underlying 25).isSome = true := by rw [Try.underlying25]; rfl
  have q := fun w => run_convert_complex (P := Try.prog) (w := w) 25 50 .f32 .f64 _ _ _ _ hu9 Try.underlying50 (show cConvBits .f32 (grdW s u v (dg h)).1 (grdW s u v (dg h)).2 .f64 = some (wid (grdW s u v (dg h)).1, wid (grdW s u v (dg h)).2) by unfold cConvBits; rw [G.w1, G.w2]; rfl)
  have cv := fun w => s_over h s u v w hs hv
  have cd := fun w => s_dot (trn (dg t)).1 (trn (dg t)).2 (widW (grdW s u v (dg h))).1 (widW (grdW s u v (dg h))).2 _ _ _ w D.d1 D.d2 D.d3
  have ct := fun w => s_turn t w
  have e1 : (t % 360).toNat = dg t := rfl
  have e2 : alW s u v (dg t) (dg h) = dotW (trn (dg t)) (widW (grdW s u v (dg h))) := rfl
  rw [e1] at ct
  rw [← e2] at cd
  clear G D e1 e2 hu9
  unfold tv at ct
  unfold widW at cd
  dsimp only at cd
  generalize alW s u v (dg t) (dg h) = z at *
  generalize (trn (dg t)).1 = c at *
  generalize (trn (dg t)).2 = d at *
  generalize (grdW s u v (dg h)).1 = a at *
  generalize (grdW s u v (dg h)).2 = b at *
  generalize wid a = a' at *
  generalize wid b = b' at *
  go_enter Try.func53, Try.ntmps53
  go_wp2_with (first
    | (go_at_call 76; ((with_reducible refine (cv _).mono ?_); rintro e w' ⟨rfl, rfl⟩))
    | (go_at_call 65; ((with_reducible refine (ct _).mono ?_); rintro e w' ⟨rfl, rfl⟩))
    | (go_at_call 78; go_in)
    | (go_at_call 77; ((with_reducible refine (cd _).mono ?_); rintro e w' ⟨rfl, rfl⟩)))
  go_ret2
  exact ⟨rfl, rfl⟩
set_option maxHeartbeats 800000 in
theorem s_along_no (t h : Int) (s u v : Nat) (w : World) (hl : s < 4294967296) (hu : u < 4294967296) (hvl : v < 4294967296) (hno : ¬ (okBs s ∧ okV u v)) :
    Calls Try.prog 53 #[.int .i64 t, .int .i64 h, .float .f32 s, .complex .f32 u v] w fun e w' => e = .returned (.tuple #[.float .f64 0, .bool false]) ∧ w = w' := by
  have cv := fun w => s_over_no h s u v w hl hu hvl hno
  clear hno
  go_enter Try.func53, Try.ntmps53
  go_wp2_with fail
  refine (cv _).mono ?_
  rintro e w1 ⟨rfl, b1⟩
  go_wp2
  go_ret2
  exact ⟨rfl, b1⟩

set_option maxHeartbeats 800000 in
theorem i_off (t h : Int) (s u v : Nat) (w : World) (hs : okBs s) (hv : okV u v) :
    Calls Try.prog 18 #[.int .i64 t, .int .i64 h, .float .f32 s, .complex .f32 u v] w fun e w' => e = .returned (.tuple #[.float .f64 (ofW s u v (dg t) (dg h)), .bool true]) ∧ Below w.heap.size w w' := by
  have G := grd_ok hs (dg_lt h) hv
  have D := dc_grd hs (dg_lt t) (dg_lt h) hv
  have hu9 : (Try.prog.underlying 59).isSome = true := by rw [Try.underlying59]; rfl
  have q := fun w => run_convert_complex (P := Try.prog) (w := w) 59 50 .f32 .f64 _ _ _ _ hu9 Try.underlying50 (show cConvBits .f32 (grdW s u v (dg h)).1 (grdW s u v (dg h)).2 .f64 = some (wid (grdW s u v (dg h)).1, wid (grdW s u v (dg h)).2) by unfold cConvBits; rw [G.w1, G.w2]; rfl)
  have cv := fun w => i_over h s u v w hs hv
  have cd := fun w => i_cross (trn (dg t)).1 (trn (dg t)).2 (widW (grdW s u v (dg h))).1 (widW (grdW s u v (dg h))).2 _ _ _ w D.c1 D.c2 D.c3
  have ct := fun w => i_turn t w
  have e1 : (t % 360).toNat = dg t := rfl
  have e2 : ofW s u v (dg t) (dg h) = crsW (trn (dg t)) (widW (grdW s u v (dg h))) := rfl
  rw [e1] at ct
  rw [← e2] at cd
  clear G D e1 e2 hu9
  unfold tv at ct
  unfold widW at cd
  dsimp only at cd
  generalize ofW s u v (dg t) (dg h) = z at *
  generalize (trn (dg t)).1 = c at *
  generalize (trn (dg t)).2 = d at *
  generalize (grdW s u v (dg h)).1 = a at *
  generalize (grdW s u v (dg h)).2 = b at *
  generalize wid a = a' at *
  generalize wid b = b' at *
  go_enter Try.func18, Try.ntmps18
  go_wp2_with fail
  refine (cv _).mono ?_
  rintro e w1 ⟨rfl, b1⟩
  go_wp2_with fail
  refine (ct _).mono ?_
  rintro e w2 ⟨rfl, b2⟩
  have b3 := b1.trans (b2.mono b1.size)
  go_wp2_with (first
    | (go_at_call 42; go_in)
    | (go_at_call 44; ((with_reducible refine (cd _).mono ?_); rintro e w' ⟨rfl, rfl⟩)))
  go_ret2
  exact ⟨rfl, b3⟩
set_option maxHeartbeats 800000 in
theorem i_off_no (t h : Int) (s u v : Nat) (w : World) (hl : s < 4294967296) (hu : u < 4294967296) (hvl : v < 4294967296) (hno : ¬ (okBs s ∧ okV u v)) :
    Calls Try.prog 18 #[.int .i64 t, .int .i64 h, .float .f32 s, .complex .f32 u v] w fun e w' => e = .returned (.tuple #[.float .f64 0, .bool false]) ∧ Below w.heap.size w w' := by
  have cv := fun w => i_over_no h s u v w hl hu hvl hno
  clear hno
  go_enter Try.func18, Try.ntmps18
  go_wp2_with fail
  refine (cv _).mono ?_
  rintro e w1 ⟨rfl, b1⟩
  go_wp2
  go_ret2
  exact ⟨rfl, b1⟩

set_option maxHeartbeats 800000 in
theorem s_off (t h : Int) (s u v : Nat) (w : World) (hs : okBs s) (hv : okV u v) :
    Calls Try.prog 54 #[.int .i64 t, .int .i64 h, .float .f32 s, .complex .f32 u v] w fun e w' => e = .returned (.tuple #[.float .f64 (ofW s u v (dg t) (dg h)), .bool true]) ∧ w = w' := by
  have G := grd_ok hs (dg_lt h) hv
  have D := dc_grd hs (dg_lt t) (dg_lt h) hv
  have hu9 : (Try.prog.underlying 25).isSome = true := by rw [Try.underlying25]; rfl
  have q := fun w => run_convert_complex (P := Try.prog) (w := w) 25 50 .f32 .f64 _ _ _ _ hu9 Try.underlying50 (show cConvBits .f32 (grdW s u v (dg h)).1 (grdW s u v (dg h)).2 .f64 = some (wid (grdW s u v (dg h)).1, wid (grdW s u v (dg h)).2) by unfold cConvBits; rw [G.w1, G.w2]; rfl)
  have cv := fun w => s_over h s u v w hs hv
  have cd := fun w => s_cross (trn (dg t)).1 (trn (dg t)).2 (widW (grdW s u v (dg h))).1 (widW (grdW s u v (dg h))).2 _ _ _ w D.c1 D.c2 D.c3
  have ct := fun w => s_turn t w
  have e1 : (t % 360).toNat = dg t := rfl
  have e2 : ofW s u v (dg t) (dg h) = crsW (trn (dg t)) (widW (grdW s u v (dg h))) := rfl
  rw [e1] at ct
  rw [← e2] at cd
  clear G D e1 e2 hu9
  unfold tv at ct
  unfold widW at cd
  dsimp only at cd
  generalize ofW s u v (dg t) (dg h) = z at *
  generalize (trn (dg t)).1 = c at *
  generalize (trn (dg t)).2 = d at *
  generalize (grdW s u v (dg h)).1 = a at *
  generalize (grdW s u v (dg h)).2 = b at *
  generalize wid a = a' at *
  generalize wid b = b' at *
  go_enter Try.func54, Try.ntmps54
  go_wp2_with (first
    | (go_at_call 76; ((with_reducible refine (cv _).mono ?_); rintro e w' ⟨rfl, rfl⟩))
    | (go_at_call 65; ((with_reducible refine (ct _).mono ?_); rintro e w' ⟨rfl, rfl⟩))
    | (go_at_call 78; go_in)
    | (go_at_call 79; ((with_reducible refine (cd _).mono ?_); rintro e w' ⟨rfl, rfl⟩)))
  go_ret2
  exact ⟨rfl, rfl⟩
set_option maxHeartbeats 800000 in
theorem s_off_no (t h : Int) (s u v : Nat) (w : World) (hl : s < 4294967296) (hu : u < 4294967296) (hvl : v < 4294967296) (hno : ¬ (okBs s ∧ okV u v)) :
    Calls Try.prog 54 #[.int .i64 t, .int .i64 h, .float .f32 s, .complex .f32 u v] w fun e w' => e = .returned (.tuple #[.float .f64 0, .bool false]) ∧ w = w' := by
  have cv := fun w => s_over_no h s u v w hl hu hvl hno
  clear hno
  go_enter Try.func54, Try.ntmps54
  go_wp2_with fail
  refine (cv _).mono ?_
  rintro e w1 ⟨rfl, b1⟩
  go_wp2
  go_ret2
  exact ⟨rfl, b1⟩
end Go.Proofs.Ytlenmnffnbldbaa
