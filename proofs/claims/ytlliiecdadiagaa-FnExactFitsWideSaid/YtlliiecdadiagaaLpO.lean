/- The walks of exact laws of chapter 11, over contracts of the program's functions: Fits, FitsWide. -/
import Derived.Test.YtlliiecdadiagaaLpL
namespace Go.Proofs.Ytlliiecdadiagaa
open Go.RowKit
set_option linter.unusedVariables false
set_option linter.unusedSimpArgs false

set_option maxRecDepth 100000 in
set_option maxHeartbeats 4000000 in
theorem wo_FnExactFits (hI : ∀ (s : Sl) (m : Mm) (w : World), SlWf s → MmWf m → Calls Try.prog 27 #[.agg #[.string s.nm, .float .f32 s.lo, .float .f32 s.hi, .int .i64 s.fr, .int .i64 s.to], .agg #[.float .f32 m.1, .int .i64 m.2]] w fun e w' => e = .returned (.bool (fitB s m)) ∧ Below w.heap.size w w')
    (s : Sl) (m : Mm) (w : World) (hs1 : SlWf s) (hm1 : MmWf m) :
    Calls Try.prog 7 #[.agg #[.string s.nm, .float .f32 s.lo, .float .f32 s.hi, .int .i64 s.fr, .int .i64 s.to], .agg #[.float .f32 m.1, .int .i64 m.2]] w fun e w' => e = .returned (.bool true) ∧ Below w.heap.size w w' := by
  have HO := Lib.hid (fun w => l_sail s w)
  have HM := Lib.hid (fun w => l_mom m w)
  have HZ := Lib.hid (fun w => l_szOne s 1048576 w hs1 (by omega) (by omega))
  have HS := Lib.hid (fun w => s_fit s m w)
  have HI := Lib.hid (fun w => hI s m w hs1 hm1)
  clear hI hs1 hm1
  generalize fitB s m = t at *
  have e0 : (t == t) = true := by simp
  have hst0 := Lib.hid (Bx2.new w #[.string s.nm, .float .f32 s.lo, .float .f32 s.hi, .int .i64 s.fr, .int .i64 s.to] 51 #[.float .f32 m.1, .int .i64 m.2] 52)
  obtain ⟨c0, c1, c2, c3, c4⟩ := cells5 hst0.out.1
  have rd0 := fun x : Held (fun wx => Bx2 w #[.string s.nm, .float .f32 s.lo, .float .f32 s.hi, .int .i64 s.fr, .int .i64 s.to] 51 #[.float .f32 m.1, .int .i64 m.2] 52 wx) => (cells5 x.h.1).1
  have rd1 := fun x : Held (fun wx => Bx2 w #[.string s.nm, .float .f32 s.lo, .float .f32 s.hi, .int .i64 s.fr, .int .i64 s.to] 51 #[.float .f32 m.1, .int .i64 m.2] 52 wx) => (cells5 x.h.1).2.1
  have rd2 := fun x : Held (fun wx => Bx2 w #[.string s.nm, .float .f32 s.lo, .float .f32 s.hi, .int .i64 s.fr, .int .i64 s.to] 51 #[.float .f32 m.1, .int .i64 m.2] 52 wx) => (cells5 x.h.1).2.2.1
  have rd3 := fun x : Held (fun wx => Bx2 w #[.string s.nm, .float .f32 s.lo, .float .f32 s.hi, .int .i64 s.fr, .int .i64 s.to] 51 #[.float .f32 m.1, .int .i64 m.2] 52 wx) => (cells5 x.h.1).2.2.2.1
  have rd4 := fun x : Held (fun wx => Bx2 w #[.string s.nm, .float .f32 s.lo, .float .f32 s.hi, .int .i64 s.fr, .int .i64 s.to] 51 #[.float .f32 m.1, .int .i64 m.2] 52 wx) => (cells5 x.h.1).2.2.2.2
  have rm0 := fun x : Held (fun wx => Bx2 w #[.string s.nm, .float .f32 s.lo, .float .f32 s.hi, .int .i64 s.fr, .int .i64 s.to] 51 #[.float .f32 m.1, .int .i64 m.2] 52 wx) => (cells2m x.h.2.1).1
  have rm1 := fun x : Held (fun wx => Bx2 w #[.string s.nm, .float .f32 s.lo, .float .f32 s.hi, .int .i64 s.fr, .int .i64 s.to] 51 #[.float .f32 m.1, .int .i64 m.2] 52 wx) => (cells2m x.h.2.1).2
  go_enter Try.func7, Try.ntmps7
  go_wp2_with fail
  refine (HZ.out _).mono ?_
  rintro e w1 ⟨⟨r, hr, rfl⟩, bl⟩
  have hst := hst0.out.step bl
  clear hst0 bl c0 c1 c2 c3 c4 HZ
  rcases hr with rfl | ⟨r0, hr1⟩
  · go_wp2
    go_ret
    exact ⟨rfl, hst.2.2⟩
  have r2 : ¬ r < 0 := by omega
  clear hr1 r0
  go_wp2
  haveI hne0 : Nonempty (Held (fun wx => Bx2 w #[.string s.nm, .float .f32 s.lo, .float .f32 s.hi, .int .i64 s.fr, .int .i64 s.to] 51 #[.float .f32 m.1, .int .i64 m.2] 52 wx)) := ⟨⟨_, hst⟩⟩
  refine wp_region_class (fun wx => Bx2 w #[.string s.nm, .float .f32 s.lo, .float .f32 s.hi, .int .i64 s.fr, .int .i64 s.to] 51 #[.float .f32 m.1, .int .i64 m.2] 52 wx) (by kernel_rfl) (by kernel_rfl) (Bx2.drew hst) ?_
  repeat (go_big_quiet_step (first
    | (go_at_call 34; with_reducible exact held_call Bx2.step (HO.out _))
    | (go_at_call 35; with_reducible exact held_call Bx2.step (HM.out _))
    | (go_at_call 33; with_reducible exact held_call Bx2.step (HS.out _))))
  refine wpQuiet_nil ?_
  intro wy0 hw'
  obtain ⟨⟨wq0, hst1⟩, rfl⟩ := hw'
  (try dsimp only)
  go_wp2
  haveI hne1 : Nonempty (Held (fun wx => Bx2 w #[.string s.nm, .float .f32 s.lo, .float .f32 s.hi, .int .i64 s.fr, .int .i64 s.to] 51 #[.float .f32 m.1, .int .i64 m.2] 52 wx)) := ⟨⟨_, hst1⟩⟩
  refine wp_region_class (fun wx => Bx2 w #[.string s.nm, .float .f32 s.lo, .float .f32 s.hi, .int .i64 s.fr, .int .i64 s.to] 51 #[.float .f32 m.1, .int .i64 m.2] 52 wx) (by kernel_rfl) (by kernel_rfl) (Bx2.drew hst1) ?_
  repeat (go_big_quiet_step (first
    | (go_at_call 34; with_reducible exact held_call Bx2.step (HO.out _))
    | (go_at_call 35; with_reducible exact held_call Bx2.step (HM.out _))
    | (go_at_call 27; with_reducible exact held_call Bx2.step (HI.out _))))
  refine wpQuiet_nil ?_
  intro wy1 hw'
  obtain ⟨⟨wq1, hst2⟩, rfl⟩ := hw'
  (try dsimp only)
  go_wp2
  go_ret
  exact ⟨rfl, hst2.2.2⟩
set_option maxRecDepth 100000 in
set_option maxHeartbeats 4000000 in
theorem wo_FnExactFitsWide (hI : ∀ (s : Sl) (m : Mm) (w : World), SlWf s → MmWf m → Calls Try.prog 24 #[.agg #[.string s.nm, .float .f32 s.lo, .float .f32 s.hi, .int .i64 s.fr, .int .i64 s.to], .agg #[.float .f32 m.1, .int .i64 m.2]] w fun e w' => e = .returned (.bool (wideB s m)) ∧ Below w.heap.size w w')
    (s : Sl) (m : Mm) (w : World) (hs1 : SlWf s) (hm1 : MmWf m) :
    Calls Try.prog 8 #[.agg #[.string s.nm, .float .f32 s.lo, .float .f32 s.hi, .int .i64 s.fr, .int .i64 s.to], .agg #[.float .f32 m.1, .int .i64 m.2]] w fun e w' => e = .returned (.bool true) ∧ Below w.heap.size w w' := by
  have HO := Lib.hid (fun w => l_sail s w)
  have HM := Lib.hid (fun w => l_mom m w)
  have HZ := Lib.hid (fun w => l_szOne s 1048576 w hs1 (by omega) (by omega))
  have HS := Lib.hid (fun w => s_wide s m w hs1 hm1)
  have HI := Lib.hid (fun w => hI s m w hs1 hm1)
  clear hI hs1 hm1
  generalize wideB s m = t at *
  have e0 : (t == t) = true := by simp
  have hst0 := Lib.hid (Bx2.new w #[.string s.nm, .float .f32 s.lo, .float .f32 s.hi, .int .i64 s.fr, .int .i64 s.to] 51 #[.float .f32 m.1, .int .i64 m.2] 52)
  obtain ⟨c0, c1, c2, c3, c4⟩ := cells5 hst0.out.1
  have rd0 := fun x : Held (fun wx => Bx2 w #[.string s.nm, .float .f32 s.lo, .float .f32 s.hi, .int .i64 s.fr, .int .i64 s.to] 51 #[.float .f32 m.1, .int .i64 m.2] 52 wx) => (cells5 x.h.1).1
  have rd1 := fun x : Held (fun wx => Bx2 w #[.string s.nm, .float .f32 s.lo, .float .f32 s.hi, .int .i64 s.fr, .int .i64 s.to] 51 #[.float .f32 m.1, .int .i64 m.2] 52 wx) => (cells5 x.h.1).2.1
  have rd2 := fun x : Held (fun wx => Bx2 w #[.string s.nm, .float .f32 s.lo, .float .f32 s.hi, .int .i64 s.fr, .int .i64 s.to] 51 #[.float .f32 m.1, .int .i64 m.2] 52 wx) => (cells5 x.h.1).2.2.1
  have rd3 := fun x : Held (fun wx => Bx2 w #[.string s.nm, .float .f32 s.lo, .float .f32 s.hi, .int .i64 s.fr, .int .i64 s.to] 51 #[.float .f32 m.1, .int .i64 m.2] 52 wx) => (cells5 x.h.1).2.2.2.1
  have rd4 := fun x : Held (fun wx => Bx2 w #[.string s.nm, .float .f32 s.lo, .float .f32 s.hi, .int .i64 s.fr, .int .i64 s.to] 51 #[.float .f32 m.1, .int .i64 m.2] 52 wx) => (cells5 x.h.1).2.2.2.2
  have rm0 := fun x : Held (fun wx => Bx2 w #[.string s.nm, .float .f32 s.lo, .float .f32 s.hi, .int .i64 s.fr, .int .i64 s.to] 51 #[.float .f32 m.1, .int .i64 m.2] 52 wx) => (cells2m x.h.2.1).1
  have rm1 := fun x : Held (fun wx => Bx2 w #[.string s.nm, .float .f32 s.lo, .float .f32 s.hi, .int .i64 s.fr, .int .i64 s.to] 51 #[.float .f32 m.1, .int .i64 m.2] 52 wx) => (cells2m x.h.2.1).2
  go_enter Try.func8, Try.ntmps8
  go_wp2_with fail
  refine (HZ.out _).mono ?_
  rintro e w1 ⟨⟨r, hr, rfl⟩, bl⟩
  have hst := hst0.out.step bl
  clear hst0 bl c0 c1 c2 c3 c4 HZ
  rcases hr with rfl | ⟨r0, hr1⟩
  · go_wp2
    go_ret
    exact ⟨rfl, hst.2.2⟩
  have r2 : ¬ r < 0 := by omega
  clear hr1 r0
  go_wp2
  haveI hne0 : Nonempty (Held (fun wx => Bx2 w #[.string s.nm, .float .f32 s.lo, .float .f32 s.hi, .int .i64 s.fr, .int .i64 s.to] 51 #[.float .f32 m.1, .int .i64 m.2] 52 wx)) := ⟨⟨_, hst⟩⟩
  refine wp_region_class (fun wx => Bx2 w #[.string s.nm, .float .f32 s.lo, .float .f32 s.hi, .int .i64 s.fr, .int .i64 s.to] 51 #[.float .f32 m.1, .int .i64 m.2] 52 wx) (by kernel_rfl) (by kernel_rfl) (Bx2.drew hst) ?_
  repeat (go_big_quiet_step (first
    | (go_at_call 34; with_reducible exact held_call Bx2.step (HO.out _))
    | (go_at_call 35; with_reducible exact held_call Bx2.step (HM.out _))
    | (go_at_call 36; with_reducible exact held_call Bx2.step (HS.out _))))
  refine wpQuiet_nil ?_
  intro wy0 hw'
  obtain ⟨⟨wq0, hst1⟩, rfl⟩ := hw'
  (try dsimp only)
  go_wp2
  haveI hne1 : Nonempty (Held (fun wx => Bx2 w #[.string s.nm, .float .f32 s.lo, .float .f32 s.hi, .int .i64 s.fr, .int .i64 s.to] 51 #[.float .f32 m.1, .int .i64 m.2] 52 wx)) := ⟨⟨_, hst1⟩⟩
  refine wp_region_class (fun wx => Bx2 w #[.string s.nm, .float .f32 s.lo, .float .f32 s.hi, .int .i64 s.fr, .int .i64 s.to] 51 #[.float .f32 m.1, .int .i64 m.2] 52 wx) (by kernel_rfl) (by kernel_rfl) (Bx2.drew hst1) ?_
  repeat (go_big_quiet_step (first
    | (go_at_call 34; with_reducible exact held_call Bx2.step (HO.out _))
    | (go_at_call 35; with_reducible exact held_call Bx2.step (HM.out _))
    | (go_at_call 24; with_reducible exact held_call Bx2.step (HI.out _))))
  refine wpQuiet_nil ?_
  intro wy1 hw'
  obtain ⟨⟨wq1, hst2⟩, rfl⟩ := hw'
  (try dsimp only)
  go_wp2
  go_ret
  exact ⟨rfl, hst2.2.2⟩
end Go.Proofs.Ytlliiecdadiagaa
