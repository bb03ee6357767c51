/- The walks of the exact laws of chapter 9: places, lines, sides, crossings, the favoured end. -/
import Derived.Test.YtnpgppenkpkfnaaLjM
import Derived.Test.YtnpgppenkpkfnaaLjG
import Derived.Test.YtnpgppenkpkfnaaLjJ
import Derived.Test.YtnpgppenkpkfnaaLiE
namespace Go.Proofs.Ytnpgppenkpkfnaa
open Go.RowKit
set_option linter.unusedVariables false
set_option linter.unusedSimpArgs false

set_option maxRecDepth 100000 in
set_option maxHeartbeats 1000000 in
theorem w_FnExactPlaceOk (p : Int × Int) (w : World) :
    Calls Try.prog 7 #[.agg #[.int .i64 p.1, .int .i64 p.2]] w fun e w' => e = .returned (.bool true) ∧ Below w.heap.size w w' := by
  have HT := Lib.hid (fun w => l_place p w)
  have HS := Lib.hid (fun w => s_plB p w)
  have HI := Lib.hid (fun w => i_PlaceOk p w)
  generalize plB p = t at *
  obtain ⟨y1, y2⟩ := p
  dsimp only at *
  have hst := Lib.hid (Bx1.new w #[.int .i64 y1, .int .i64 y2] 46)
  obtain ⟨c0, c1⟩ := cells2 hst.out.1
  cases t
  all_goals
    go_enter Try.func7, Try.ntmps7
    go_wp2_with (first
      | (go_at_call 32; ((with_reducible refine (HT.out _).mono ?_); rintro e w' ⟨rfl, b⟩; have hs2 := Lib.hid (hst.out.step b); clear hst b c0 c1; have hst := hs2; clear hs2; obtain ⟨c0, c1⟩ := cells2 hst.out.1))
      | (go_at_call 31; ((with_reducible refine (HS.out _).mono ?_); rintro e w' ⟨rfl, b⟩; have hs2 := Lib.hid (hst.out.step b); clear hst b c0 c1; have hst := hs2; clear hs2; obtain ⟨c0, c1⟩ := cells2 hst.out.1))
      | (go_at_call 33; ((with_reducible refine (HI.out _).mono ?_); rintro e w' ⟨rfl, b⟩; have hs2 := Lib.hid (hst.out.step b); clear hst b c0 c1; have hst := hs2; clear hs2; obtain ⟨c0, c1⟩ := cells2 hst.out.1)))
    go_ret
    exact ⟨rfl, hst.out.2⟩
set_option maxRecDepth 100000 in
set_option maxHeartbeats 1000000 in
theorem w_FnExactLineOk (l : Ln) (w : World) :
    Calls Try.prog 8 #[.agg #[.int .i64 l.1.1, .int .i64 l.1.2, .int .i64 l.2.1, .int .i64 l.2.2]] w fun e w' => e = .returned (.bool true) ∧ Below w.heap.size w w' := by
  have HT := Lib.hid (fun w => l_line l w)
  have HS := Lib.hid (fun w => s_liB l w)
  have HI := Lib.hid (fun w => i_LineOk l w)
  generalize liB l = t at *
  obtain ⟨⟨x1, x2⟩, x3, x4⟩ := l
  dsimp only at *
  have hst := Lib.hid (Bx1.new w #[.int .i64 x1, .int .i64 x2, .int .i64 x3, .int .i64 x4] 51)
  obtain ⟨c0, c1, c2, c3⟩ := cells4 hst.out.1
  cases t
  all_goals
    go_enter Try.func8, Try.ntmps8
    go_wp2_with (first
      | (go_at_call 34; ((with_reducible refine (HT.out _).mono ?_); rintro e w' ⟨rfl, b⟩; have hs2 := Lib.hid (hst.out.step b); clear hst b c0 c1 c2 c3; have hst := hs2; clear hs2; obtain ⟨c0, c1, c2, c3⟩ := cells4 hst.out.1))
      | (go_at_call 20; ((with_reducible refine (HS.out _).mono ?_); rintro e w' ⟨rfl, b⟩; have hs2 := Lib.hid (hst.out.step b); clear hst b c0 c1 c2 c3; have hst := hs2; clear hs2; obtain ⟨c0, c1, c2, c3⟩ := cells4 hst.out.1))
      | (go_at_call 35; ((with_reducible refine (HI.out _).mono ?_); rintro e w' ⟨rfl, b⟩; have hs2 := Lib.hid (hst.out.step b); clear hst b c0 c1 c2 c3; have hst := hs2; clear hs2; obtain ⟨c0, c1, c2, c3⟩ := cells4 hst.out.1)))
    go_ret
    exact ⟨rfl, hst.out.2⟩
set_option maxRecDepth 100000 in
set_option maxHeartbeats 1000000 in
theorem w_FnExactFavoured (l : Ln) (n : Int) (w : World) (_ : (Lit.int .i64 n).wf = true) :
    Calls Try.prog 15 #[.agg #[.int .i64 l.1.1, .int .i64 l.1.2, .int .i64 l.2.1, .int .i64 l.2.2], .int .i64 n] w fun e w' => e = .returned (.bool true) ∧ Below w.heap.size w w' := by
  have HT := Lib.hid (fun w => l_line l w)
  have HS := Lib.hid (fun w => s_fav l n w)
  have HI := Lib.hid (fun w => i_fav l n w)
  generalize faW l n = t at *
  obtain ⟨⟨x1, x2⟩, x3, x4⟩ := l
  dsimp only at *
  have hst := Lib.hid (Bx1.new w #[.int .i64 x1, .int .i64 x2, .int .i64 x3, .int .i64 x4] 51)
  obtain ⟨c0, c1, c2, c3⟩ := cells4 hst.out.1
  have e1 : (t == t) = true := by simp
  all_goals
    go_enter Try.func15, Try.ntmps15
    go_wp2_with (first
      | (go_at_call 34; ((with_reducible refine (HT.out _).mono ?_); rintro e w' ⟨rfl, b⟩; have hs2 := Lib.hid (hst.out.step b); clear hst b c0 c1 c2 c3; have hst := hs2; clear hs2; obtain ⟨c0, c1, c2, c3⟩ := cells4 hst.out.1))
      | (go_at_call 44; ((with_reducible refine (HS.out _).mono ?_); rintro e w' ⟨rfl, b⟩; have hs2 := Lib.hid (hst.out.step b); clear hst b c0 c1 c2 c3; have hst := hs2; clear hs2; obtain ⟨c0, c1, c2, c3⟩ := cells4 hst.out.1))
      | (go_at_call 45; ((with_reducible refine (HI.out _).mono ?_); rintro e w' ⟨rfl, b⟩; have hs2 := Lib.hid (hst.out.step b); clear hst b c0 c1 c2 c3; have hst := hs2; clear hs2; obtain ⟨c0, c1, c2, c3⟩ := cells4 hst.out.1)))
    go_ret
    exact ⟨rfl, hst.out.2⟩
set_option maxRecDepth 100000 in
set_option maxHeartbeats 2000000 in
theorem w_FnExactSideOf (l : Ln) (p : Int × Int) (w : World) :
    Calls Try.prog 10 #[.agg #[.int .i64 l.1.1, .int .i64 l.1.2, .int .i64 l.2.1, .int .i64 l.2.2], .agg #[.int .i64 p.1, .int .i64 p.2]] w fun e w' => e = .returned (.bool true) ∧ Below w.heap.size w w' := by
  have HL := Lib.hid (fun w => l_line l w)
  have HP := Lib.hid (fun w => l_place p w)
  have HS := Lib.hid (fun w => s_side l p w)
  have HI := Lib.hid (fun w => i_SideOf l p w)
  generalize sdW l p = t0 at *
  obtain ⟨⟨x1, x2⟩, x3, x4⟩ := l
  obtain ⟨y1, y2⟩ := p
  dsimp only at *
  have e0 : (t0 == t0) = true := by simp
  have hst := (Bx2.new w #[.int .i64 x1, .int .i64 x2, .int .i64 x3, .int .i64 x4] 51 #[.int .i64 y1, .int .i64 y2] 46)
  have rd0 := fun s : Held (fun wx => Bx2 w #[.int .i64 x1, .int .i64 x2, .int .i64 x3, .int .i64 x4] 51 #[.int .i64 y1, .int .i64 y2] 46 wx) => (cells4 s.h.1).1
  have rd1 := fun s : Held (fun wx => Bx2 w #[.int .i64 x1, .int .i64 x2, .int .i64 x3, .int .i64 x4] 51 #[.int .i64 y1, .int .i64 y2] 46 wx) => (cells4 s.h.1).2.1
  have rd2 := fun s : Held (fun wx => Bx2 w #[.int .i64 x1, .int .i64 x2, .int .i64 x3, .int .i64 x4] 51 #[.int .i64 y1, .int .i64 y2] 46 wx) => (cells4 s.h.1).2.2.1
  have rd3 := fun s : Held (fun wx => Bx2 w #[.int .i64 x1, .int .i64 x2, .int .i64 x3, .int .i64 x4] 51 #[.int .i64 y1, .int .i64 y2] 46 wx) => (cells4 s.h.1).2.2.2
  have rd4 := fun s : Held (fun wx => Bx2 w #[.int .i64 x1, .int .i64 x2, .int .i64 x3, .int .i64 x4] 51 #[.int .i64 y1, .int .i64 y2] 46 wx) => (cells2 s.h.2.1).1
  have rd5 := fun s : Held (fun wx => Bx2 w #[.int .i64 x1, .int .i64 x2, .int .i64 x3, .int .i64 x4] 51 #[.int .i64 y1, .int .i64 y2] 46 wx) => (cells2 s.h.2.1).2
  go_enter Try.func10, Try.ntmps10
  go_wp2
  haveI hne1 : Nonempty (Held fun wx => Bx2 w #[.int .i64 x1, .int .i64 x2, .int .i64 x3, .int .i64 x4] 51 #[.int .i64 y1, .int .i64 y2] 46 wx) := ⟨⟨_, hst⟩⟩
  refine wp_region_class (fun wx => Bx2 w #[.int .i64 x1, .int .i64 x2, .int .i64 x3, .int .i64 x4] 51 #[.int .i64 y1, .int .i64 y2] 46 wx) (by kernel_rfl) (by kernel_rfl) (Bx2.drew hst) ?_
  repeat (go_big_quiet_step (first
    | (go_at_call 34; with_reducible exact held_call Bx2.step (HL.out _))
    | (go_at_call 32; with_reducible exact held_call Bx2.step (HP.out _))
    | (go_at_call 27; with_reducible exact held_call Bx2.step (HS.out _))
    | (go_at_call 25; with_reducible exact held_call Bx2.step (HI.out _))))
  refine wpQuiet_nil ?_
  intro _ hw'
  obtain ⟨⟨wq1, hst1⟩, rfl⟩ := hw'
  (try dsimp only)
  go_wp2
  haveI hne2 : Nonempty (Held fun wx => Bx2 w #[.int .i64 x1, .int .i64 x2, .int .i64 x3, .int .i64 x4] 51 #[.int .i64 y1, .int .i64 y2] 46 wx) := ⟨⟨_, hst1⟩⟩
  refine wp_region_class (fun wx => Bx2 w #[.int .i64 x1, .int .i64 x2, .int .i64 x3, .int .i64 x4] 51 #[.int .i64 y1, .int .i64 y2] 46 wx) (by kernel_rfl) (by kernel_rfl) (Bx2.drew hst1) ?_
  repeat (go_big_quiet_step (first
    | (go_at_call 34; with_reducible exact held_call Bx2.step (HL.out _))
    | (go_at_call 32; with_reducible exact held_call Bx2.step (HP.out _))
    | (go_at_call 27; with_reducible exact held_call Bx2.step (HS.out _))
    | (go_at_call 25; with_reducible exact held_call Bx2.step (HI.out _))))
  refine wpQuiet_nil ?_
  intro _ hw'
  obtain ⟨⟨wq2, hst2⟩, rfl⟩ := hw'
  (try dsimp only)
  go_wp2
  go_ret
  exact ⟨rfl, hst2.2.2⟩
set_option maxRecDepth 100000 in
set_option maxHeartbeats 2000000 in
theorem w_FnExactCrossing (l : Ln) (a b : Int × Int) (w : World) :
    Calls Try.prog 11 #[.agg #[.int .i64 l.1.1, .int .i64 l.1.2, .int .i64 l.2.1, .int .i64 l.2.2], .agg #[.int .i64 a.1, .int .i64 a.2], .agg #[.int .i64 b.1, .int .i64 b.2]] w fun e w' => e = .returned (.bool true) ∧ Below w.heap.size w w' := by
  have HL := Lib.hid (fun w => l_line l w)
  have HP := Lib.hid (fun w => l_place a w)
  have HQ := Lib.hid (fun w => l_place b w)
  have HS := Lib.hid (fun w => s_cr l a b w)
  have HI := Lib.hid (fun w => i_cr l a b w)
  generalize crW l a b = t0 at *
  obtain ⟨⟨x1, x2⟩, x3, x4⟩ := l
  obtain ⟨y1, y2⟩ := a
  obtain ⟨z1, z2⟩ := b
  dsimp only at *
  have e0 : (t0 == t0) = true := by simp
  have hst := (Bx3.new w #[.int .i64 x1, .int .i64 x2, .int .i64 x3, .int .i64 x4] 51 #[.int .i64 y1, .int .i64 y2] 46 #[.int .i64 z1, .int .i64 z2] 46)
  have rd0 := fun s : Held (fun wx => Bx3 w #[.int .i64 x1, .int .i64 x2, .int .i64 x3, .int .i64 x4] 51 #[.int .i64 y1, .int .i64 y2] 46 #[.int .i64 z1, .int .i64 z2] 46 wx) => (cells4 s.h.1).1
  have rd1 := fun s : Held (fun wx => Bx3 w #[.int .i64 x1, .int .i64 x2, .int .i64 x3, .int .i64 x4] 51 #[.int .i64 y1, .int .i64 y2] 46 #[.int .i64 z1, .int .i64 z2] 46 wx) => (cells4 s.h.1).2.1
  have rd2 := fun s : Held (fun wx => Bx3 w #[.int .i64 x1, .int .i64 x2, .int .i64 x3, .int .i64 x4] 51 #[.int .i64 y1, .int .i64 y2] 46 #[.int .i64 z1, .int .i64 z2] 46 wx) => (cells4 s.h.1).2.2.1
  have rd3 := fun s : Held (fun wx => Bx3 w #[.int .i64 x1, .int .i64 x2, .int .i64 x3, .int .i64 x4] 51 #[.int .i64 y1, .int .i64 y2] 46 #[.int .i64 z1, .int .i64 z2] 46 wx) => (cells4 s.h.1).2.2.2
  have rd4 := fun s : Held (fun wx => Bx3 w #[.int .i64 x1, .int .i64 x2, .int .i64 x3, .int .i64 x4] 51 #[.int .i64 y1, .int .i64 y2] 46 #[.int .i64 z1, .int .i64 z2] 46 wx) => (cells2 s.h.2.1).1
  have rd5 := fun s : Held (fun wx => Bx3 w #[.int .i64 x1, .int .i64 x2, .int .i64 x3, .int .i64 x4] 51 #[.int .i64 y1, .int .i64 y2] 46 #[.int .i64 z1, .int .i64 z2] 46 wx) => (cells2 s.h.2.1).2
  have rd6 := fun s : Held (fun wx => Bx3 w #[.int .i64 x1, .int .i64 x2, .int .i64 x3, .int .i64 x4] 51 #[.int .i64 y1, .int .i64 y2] 46 #[.int .i64 z1, .int .i64 z2] 46 wx) => (cells2 s.h.2.2.1).1
  have rd7 := fun s : Held (fun wx => Bx3 w #[.int .i64 x1, .int .i64 x2, .int .i64 x3, .int .i64 x4] 51 #[.int .i64 y1, .int .i64 y2] 46 #[.int .i64 z1, .int .i64 z2] 46 wx) => (cells2 s.h.2.2.1).2
  go_enter Try.func11, Try.ntmps11
  go_wp2
  haveI hne1 : Nonempty (Held fun wx => Bx3 w #[.int .i64 x1, .int .i64 x2, .int .i64 x3, .int .i64 x4] 51 #[.int .i64 y1, .int .i64 y2] 46 #[.int .i64 z1, .int .i64 z2] 46 wx) := ⟨⟨_, hst⟩⟩
  refine wp_region_class (fun wx => Bx3 w #[.int .i64 x1, .int .i64 x2, .int .i64 x3, .int .i64 x4] 51 #[.int .i64 y1, .int .i64 y2] 46 #[.int .i64 z1, .int .i64 z2] 46 wx) (by kernel_rfl) (by kernel_rfl) (Bx3.drew hst) ?_
  repeat (go_big_quiet_step (first
    | (go_at_call 34; with_reducible exact held_call Bx3.step (HL.out _))
    | (go_at_call 32; with_reducible exact held_call Bx3.step (HP.out _))
    | (go_at_call 32; with_reducible exact held_call Bx3.step (HQ.out _))
    | (go_at_call 22; with_reducible exact held_call Bx3.step (HS.out _))
    | (go_at_call 21; with_reducible exact held_call Bx3.step (HI.out _))))
  refine wpQuiet_nil ?_
  intro _ hw'
  obtain ⟨⟨wq1, hst1⟩, rfl⟩ := hw'
  (try dsimp only)
  go_wp2
  haveI hne2 : Nonempty (Held fun wx => Bx3 w #[.int .i64 x1, .int .i64 x2, .int .i64 x3, .int .i64 x4] 51 #[.int .i64 y1, .int .i64 y2] 46 #[.int .i64 z1, .int .i64 z2] 46 wx) := ⟨⟨_, hst1⟩⟩
  refine wp_region_class (fun wx => Bx3 w #[.int .i64 x1, .int .i64 x2, .int .i64 x3, .int .i64 x4] 51 #[.int .i64 y1, .int .i64 y2] 46 #[.int .i64 z1, .int .i64 z2] 46 wx) (by kernel_rfl) (by kernel_rfl) (Bx3.drew hst1) ?_
  repeat (go_big_quiet_step (first
    | (go_at_call 34; with_reducible exact held_call Bx3.step (HL.out _))
    | (go_at_call 32; with_reducible exact held_call Bx3.step (HP.out _))
    | (go_at_call 32; with_reducible exact held_call Bx3.step (HQ.out _))
    | (go_at_call 22; with_reducible exact held_call Bx3.step (HS.out _))
    | (go_at_call 21; with_reducible exact held_call Bx3.step (HI.out _))))
  refine wpQuiet_nil ?_
  intro _ hw'
  obtain ⟨⟨wq2, hst2⟩, rfl⟩ := hw'
  (try dsimp only)
  go_wp2
  go_ret
  exact ⟨rfl, hst2.2.2.2⟩
set_option maxRecDepth 100000 in
set_option maxHeartbeats 2000000 in
theorem w_FnExactCrossTime (l : Ln) (s t : Sg) (w : World) :
    Calls Try.prog 12 #[.agg #[.int .i64 l.1.1, .int .i64 l.1.2, .int .i64 l.2.1, .int .i64 l.2.2], .agg #[.int .i64 s.1.1, .int .i64 s.1.2, .int .i64 s.2], .agg #[.int .i64 t.1.1, .int .i64 t.1.2, .int .i64 t.2]] w fun e w' => e = .returned (.bool true) ∧ Below w.heap.size w w' := by
  have HL := Lib.hid (fun w => l_line l w)
  have HP := Lib.hid (fun w => l_sight s w)
  have HQ := Lib.hid (fun w => l_sight t w)
  have HS := Lib.hid (fun w => s_ct l s t w)
  have HI := Lib.hid (fun w => i_ct l s t w)
  generalize ctW l s t = t0 at *
  generalize ctB l s t = t1 at *
  obtain ⟨⟨x1, x2⟩, x3, x4⟩ := l
  obtain ⟨⟨y1, y2⟩, y3⟩ := s
  obtain ⟨⟨z1, z2⟩, z3⟩ := t
  dsimp only at *
  have e0 : (t0 == t0) = true := by simp
  have e1 : (t1 == t1) = true := by simp
  have hst := (Bx3.new w #[.int .i64 x1, .int .i64 x2, .int .i64 x3, .int .i64 x4] 51 #[.int .i64 y1, .int .i64 y2, .int .i64 y3] 62 #[.int .i64 z1, .int .i64 z2, .int .i64 z3] 62)
  have rd0 := fun s : Held (fun wx => Bx3 w #[.int .i64 x1, .int .i64 x2, .int .i64 x3, .int .i64 x4] 51 #[.int .i64 y1, .int .i64 y2, .int .i64 y3] 62 #[.int .i64 z1, .int .i64 z2, .int .i64 z3] 62 wx) => (cells4 s.h.1).1
  have rd1 := fun s : Held (fun wx => Bx3 w #[.int .i64 x1, .int .i64 x2, .int .i64 x3, .int .i64 x4] 51 #[.int .i64 y1, .int .i64 y2, .int .i64 y3] 62 #[.int .i64 z1, .int .i64 z2, .int .i64 z3] 62 wx) => (cells4 s.h.1).2.1
  have rd2 := fun s : Held (fun wx => Bx3 w #[.int .i64 x1, .int .i64 x2, .int .i64 x3, .int .i64 x4] 51 #[.int .i64 y1, .int .i64 y2, .int .i64 y3] 62 #[.int .i64 z1, .int .i64 z2, .int .i64 z3] 62 wx) => (cells4 s.h.1).2.2.1
  have rd3 := fun s : Held (fun wx => Bx3 w #[.int .i64 x1, .int .i64 x2, .int .i64 x3, .int .i64 x4] 51 #[.int .i64 y1, .int .i64 y2, .int .i64 y3] 62 #[.int .i64 z1, .int .i64 z2, .int .i64 z3] 62 wx) => (cells4 s.h.1).2.2.2
  have rd4 := fun s : Held (fun wx => Bx3 w #[.int .i64 x1, .int .i64 x2, .int .i64 x3, .int .i64 x4] 51 #[.int .i64 y1, .int .i64 y2, .int .i64 y3] 62 #[.int .i64 z1, .int .i64 z2, .int .i64 z3] 62 wx) => (cells3 s.h.2.1).1
  have rd5 := fun s : Held (fun wx => Bx3 w #[.int .i64 x1, .int .i64 x2, .int .i64 x3, .int .i64 x4] 51 #[.int .i64 y1, .int .i64 y2, .int .i64 y3] 62 #[.int .i64 z1, .int .i64 z2, .int .i64 z3] 62 wx) => (cells3 s.h.2.1).2.1
  have rd6 := fun s : Held (fun wx => Bx3 w #[.int .i64 x1, .int .i64 x2, .int .i64 x3, .int .i64 x4] 51 #[.int .i64 y1, .int .i64 y2, .int .i64 y3] 62 #[.int .i64 z1, .int .i64 z2, .int .i64 z3] 62 wx) => (cells3 s.h.2.1).2.2
  have rd7 := fun s : Held (fun wx => Bx3 w #[.int .i64 x1, .int .i64 x2, .int .i64 x3, .int .i64 x4] 51 #[.int .i64 y1, .int .i64 y2, .int .i64 y3] 62 #[.int .i64 z1, .int .i64 z2, .int .i64 z3] 62 wx) => (cells3 s.h.2.2.1).1
  have rd8 := fun s : Held (fun wx => Bx3 w #[.int .i64 x1, .int .i64 x2, .int .i64 x3, .int .i64 x4] 51 #[.int .i64 y1, .int .i64 y2, .int .i64 y3] 62 #[.int .i64 z1, .int .i64 z2, .int .i64 z3] 62 wx) => (cells3 s.h.2.2.1).2.1
  have rd9 := fun s : Held (fun wx => Bx3 w #[.int .i64 x1, .int .i64 x2, .int .i64 x3, .int .i64 x4] 51 #[.int .i64 y1, .int .i64 y2, .int .i64 y3] 62 #[.int .i64 z1, .int .i64 z2, .int .i64 z3] 62 wx) => (cells3 s.h.2.2.1).2.2
  go_enter Try.func12, Try.ntmps12
  go_wp2
  haveI hne1 : Nonempty (Held fun wx => Bx3 w #[.int .i64 x1, .int .i64 x2, .int .i64 x3, .int .i64 x4] 51 #[.int .i64 y1, .int .i64 y2, .int .i64 y3] 62 #[.int .i64 z1, .int .i64 z2, .int .i64 z3] 62 wx) := ⟨⟨_, hst⟩⟩
  refine wp_region_class (fun wx => Bx3 w #[.int .i64 x1, .int .i64 x2, .int .i64 x3, .int .i64 x4] 51 #[.int .i64 y1, .int .i64 y2, .int .i64 y3] 62 #[.int .i64 z1, .int .i64 z2, .int .i64 z3] 62 wx) (by kernel_rfl) (by kernel_rfl) (Bx3.drew hst) ?_
  repeat (go_big_quiet_step (first
    | (go_at_call 34; with_reducible exact held_call Bx3.step (HL.out _))
    | (go_at_call 41; with_reducible exact held_call Bx3.step (HP.out _))
    | (go_at_call 41; with_reducible exact held_call Bx3.step (HQ.out _))
    | (go_at_call 40; with_reducible exact held_call Bx3.step (HS.out _))
    | (go_at_call 42; with_reducible exact held_call Bx3.step (HI.out _))))
  refine wpQuiet_nil ?_
  intro _ hw'
  obtain ⟨⟨wq1, hst1⟩, rfl⟩ := hw'
  (try dsimp only)
  go_wp2
  haveI hne2 : Nonempty (Held fun wx => Bx3 w #[.int .i64 x1, .int .i64 x2, .int .i64 x3, .int .i64 x4] 51 #[.int .i64 y1, .int .i64 y2, .int .i64 y3] 62 #[.int .i64 z1, .int .i64 z2, .int .i64 z3] 62 wx) := ⟨⟨_, hst1⟩⟩
  refine wp_region_class (fun wx => Bx3 w #[.int .i64 x1, .int .i64 x2, .int .i64 x3, .int .i64 x4] 51 #[.int .i64 y1, .int .i64 y2, .int .i64 y3] 62 #[.int .i64 z1, .int .i64 z2, .int .i64 z3] 62 wx) (by kernel_rfl) (by kernel_rfl) (Bx3.drew hst1) ?_
  repeat (go_big_quiet_step (first
    | (go_at_call 34; with_reducible exact held_call Bx3.step (HL.out _))
    | (go_at_call 41; with_reducible exact held_call Bx3.step (HP.out _))
    | (go_at_call 41; with_reducible exact held_call Bx3.step (HQ.out _))
    | (go_at_call 40; with_reducible exact held_call Bx3.step (HS.out _))
    | (go_at_call 42; with_reducible exact held_call Bx3.step (HI.out _))))
  refine wpQuiet_nil ?_
  intro _ hw'
  obtain ⟨⟨wq2, hst2⟩, rfl⟩ := hw'
  (try dsimp only)
  go_wp2
  go_ret
  exact ⟨rfl, hst2.2.2.2⟩
end Go.Proofs.Ytnpgppenkpkfnaa
