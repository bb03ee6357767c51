/- The walks of StepOn (impl and spec). -/
import Derived.Test.YtonfenekjocopaaRkB
import Derived.Test.YtonfenekjocopaaGvC
namespace Go.Proofs.Ytonfenekjocopaa
open Go.RowKit Ieee
set_option linter.unusedVariables false
set_option linter.unusedSimpArgs false
attribute [local go_sem] st_cplx

section
variable {P : Program}
/-- Two results, each in a variable of one cell. -/
theorem res_cells2 {fn : Func} {p q : Tmp} {t1 t2 : TypeId} (h : fn.results = #[.cell p t1, .cell q t2]) (tmps : Array Value) (w : World) (g1 g2 : Nat) (v1 v2 : Value)
    (hp : tmps.getD p undef = .pointer (some ⟨g1, 0, none⟩)) (hq : tmps.getD q undef = .pointer (some ⟨g2, 0, none⟩))
    (l1 : (loadVar t1 ⟨g1, 0, none⟩).run P w = .ok v1 w) (l2 : (loadVar t2 ⟨g2, 0, none⟩).run P w = .ok v2 w) :
    (results fn tmps).run P w = .ok (.tuple #[v1, v2]) w := by
  have hp' : tmps[p]?.getD undef = .pointer (some ⟨g1, 0, none⟩) := by simpa using hp
  have hq' : tmps[q]?.getD undef = .pointer (some ⟨g2, 0, none⟩) := by simpa using hq
  simp [results, h, hp', hq', asAddr, l1, l2]
end
section
variable {P : Program}
theorem run_loadVar_one {t : TypeId} {d : TypeDesc} {a : Addr} {v : Value} {w : World} (hu : P.underlying t = some d) (hd : (match d with | .struct _ | .array _ _ => false | _ => true) = true) (hc : w.cell? a = some v) : (loadVar t a).run P w = .ok v w := by
  have hagg : (isAgg t).run P w = .ok false w := by
    unfold isAgg
    cases d <;> simp_all [go_sem, underlying]
  simp [loadVar, hagg, hc, Sem.run_bind, Sem.run_pure]
end
theorem two_set {W : World} {b0 b1 : Nat} {x y x' y' : Value} {t0 t1 : TypeId} (H0 : W.heap[b0]? = some (.cells #[x] t0 (0, 0))) (H1 : W.heap[b1]? = some (.cells #[y] t1 (0, 0))) (hne : b0 ≠ b1) :
    ((W.setCell ⟨b0, 0, none⟩ x').setCell ⟨b1, 0, none⟩ y').heap[b0]? = some (.cells #[x'] t0 (0, 0)) ∧ ((W.setCell ⟨b0, 0, none⟩ x').setCell ⟨b1, 0, none⟩ y').heap[b1]? = some (.cells #[y'] t1 (0, 0)) := by
  have a0 := heap_set_self (k := 0) H0 x'
  have a1 : (W.setCell ⟨b0, 0, none⟩ x').heap[b1]? = some (.cells #[y] t1 (0, 0)) := (Below.heap_setCell _ _ _ _ (fun e => hne e.symm)).trans H1
  refine ⟨(Below.heap_setCell _ _ _ _ hne).trans (by simpa using a0), ?_⟩
  have a2 := heap_set_self (k := 0) a1 y'
  simpa using a2
theorem two_setD {W : World} {b0 b1 : Nat} {x y x' y' : Value} {t0 t1 : TypeId} (H0 : W.heap[b0]? = some (.cells #[x] t0 (0, 0))) (H1 : W.heap[b1]? = some (.cells #[y] t1 (0, 0))) (hne : b0 ≠ b1) :
    ((W.setCell ⟨b0, 0, none⟩ x').setCell ⟨b1, 0, none⟩ y').drew.heap[b0]? = some (.cells #[x'] t0 (0, 0)) ∧ ((W.setCell ⟨b0, 0, none⟩ x').setCell ⟨b1, 0, none⟩ y').drew.heap[b1]? = some (.cells #[y'] t1 (0, 0)) := two_set H0 H1 hne
/-- The door of a function that tells a position, or resets it. -/
theorem door128 {fn : Func} {tmps : Array Value} {w W : World} {N b0 b1 : Nat} {t : Bool} {c : Nat × Nat} (hres : fn.results = #[.cell 6 24, .cell 7 4])
    (h6 : tmps.getD 6 undef = .pointer (some ⟨b0, 0, none⟩)) (h7 : tmps.getD 7 undef = .pointer (some ⟨b1, 0, none⟩)) (H0 : W.heap[b0]? = some (.cells #[.complex .f64 c.1 c.2] 24 (0, 0))) (H1 : W.heap[b1]? = some (.cells #[.bool t] 4 (0, 0)))
    (hne : b0 ≠ b1) (hB : Below N w W) (hN : N ≤ b0) :
    bodyPostD Try.prog fn (fun e w' => e = .returned (.tuple #[.complex .f64 (if t = true then c else (0, 0)).1 (if t = true then c else (0, 0)).2, .bool t]) ∧ Below N w w') Exit.ret
      { tmps := tmps, defers := [{ target := Target.fn (Fn.func 36) #[], args := #[.pointer (some ⟨b1, 0, none⟩), .pointer (some ⟨b0, 0, none⟩)] }] } W := by
  have k0 : W.cell? ⟨b0, 0, none⟩ = some (.complex .f64 c.1 c.2) := cell_of_row _ _ 0 _ _ _ H0
  have k1 : W.cell? ⟨b1, 0, none⟩ = some (.bool t) := cell_of_row _ _ 0 _ _ _ H1
  have f0 := (cell_at H0 rfl Nat.one_pos).choose_spec.2
  refine leaves_cons (f := 36) (args := #[.pointer (some ⟨b1, 0, none⟩), .pointer (some ⟨b0, 0, none⟩)]) (by simp) (by simp [go_sem]) ?_
  refine (i_reset b1 b0 t _ .returning _ k1 k0 f0).mono ?_
  rintro e u' w'' ⟨rfl, rfl, rfl⟩
  cases t
  · have a0 := heap_set_self (k := 0) H0 (.complex .f64 0 0)
    have k0' : (W.setCell ⟨b0, 0, none⟩ (.complex .f64 0 0)).cell? ⟨b0, 0, none⟩ = some (.complex .f64 0 0) := cell_of_row _ _ 0 _ _ _ a0
    have k1' : (W.setCell ⟨b0, 0, none⟩ (.complex .f64 0 0)).cell? ⟨b1, 0, none⟩ = some (.bool false) := cell_of_row _ _ 0 _ _ _ ((Below.heap_setCell _ _ _ _ (fun e => hne e.symm)).trans H1)
    exact ⟨_, res_cells2 hres _ _ b0 b1 _ _ h6 h7 (run_loadVar_one Try.underlying24 rfl k0') (run_loadVar_one Try.underlying4 rfl k1'), rfl, hB.setCell (p := ⟨b0, 0, none⟩) hN _⟩
  · exact ⟨_, res_cells2 hres _ _ b0 b1 _ _ h6 h7 (run_loadVar_one Try.underlying24 rfl k0) (run_loadVar_one Try.underlying4 rfl k1), rfl, hB⟩
set_option maxHeartbeats 400000 in
theorem i_wide (a b x y : Nat) (w : World) (h1 : floatToFloatBits .f32 a .f64 = some x) (h2 : floatToFloatBits .f32 b .f64 = some y) :
    Calls Try.prog 48 #[.complex .f32 a b] w fun e w' => e = .returned (.complex .f64 x y) ∧ w = w' := by
  have hs : (Try.prog.underlying 78).isSome = true := by rw [Try.underlying78]; rfl
  have q0 := fun w => run_convert_complex (P := Try.prog) (w := w) 78 24 .f32 .f64 a b x y hs Try.underlying24 (by unfold cConvBits; rw [h1, h2]; rfl)
  clear h1 h2 hs
  go_enter Try.func48, Try.ntmps48
  go_wp2
  go_ret
  exact ⟨rfl, rfl⟩
set_option maxRecDepth 100000 in
set_option maxHeartbeats 800000 in
theorem i_step_yes (p v : Nat × Nat) (n : Int) (w : World) (hp : W64 p) (hv : W32 v) (h1 : vcB p = true) (h2 : vlB v = true) (h3 : secB n = true) :
    Calls Try.prog 15 #[.complex .f64 p.1 p.2, .complex .f32 v.1 v.2, .int .i64 n] w fun e w' => e = .returned (.tuple #[.complex .f64 (stepF p v n).1 (stepF p v n).2, .bool (stepB p v n)]) ∧ Below w.heap.size w w' := by
  have G := stp_ok (vcB_iff.1 h1) hv (vlB_iff.1 h2) (secB_iff.1 h3)
  have cw := fun w => i_wide v.1 v.2 _ _ w G.w1 G.w2
  have q1 := fun w => run_float_arith (P := Try.prog) w .mul 34 .f64 _ _ _ G.m1
  have q2 := fun w => run_float_arith (P := Try.prog) w .mul 34 .f64 _ _ _ G.m2
  have q3 := fun w => run_float_arith (P := Try.prog) w .add 34 .f64 _ _ _ G.a1
  have q4 := fun w => run_float_arith (P := Try.prog) w .add 34 .f64 _ _ _ G.a2
  have cp := fun w => i_vecB p w hp
  have cr := fun w => i_vecB (stepW p v n) w G.lt
  have cv : ∀ w, Calls Try.prog 39 #[.complex .f32 v.1 v.2] w fun e w' => e = .returned (.bool true) ∧ w = w' := fun w => i_velok_yes v.1 v.2 w ⟨hv, vlB_iff.1 h2⟩
  have ct := fun w => i_legTime n w
  have e1 : stepB p v n = vcB (stepW p v n) := by unfold stepB; rw [h1, h2, h3]; rfl
  have e2 : stepF p v n = if vcB (stepW p v n) = true then stepW p v n else (0, 0) := by unfold stepF; rw [e1]
  rw [e1, e2]
  rw [h1] at cp
  rw [h3] at ct
  clear e1 e2 G h1 h2 h3 hp hv
  generalize ml (wid v.1) (floatOfInt .f64 n) = m1 at *
  generalize ml (wid v.2) (floatOfInt .f64 n) = m2 at *
  generalize wid v.1 = u1 at *
  generalize wid v.2 = u2 at *
  generalize vcB (stepW p v n) = t at *
  generalize stepW p v n = r at *
  obtain ⟨r1, r2⟩ := r
  obtain ⟨p1, p2⟩ := p
  obtain ⟨v1, v2⟩ := v
  dsimp only at *
  go_enter_defers Try.func15, Try.ntmps15
  go_wp2_with (first
    | (go_at_call 37; ((with_reducible refine (cp _).mono ?_); rintro e w' ⟨rfl, rfl⟩))
    | (go_at_call 39; ((with_reducible refine (cv _).mono ?_); rintro e w' ⟨rfl, rfl⟩))
    | (go_at_call 47; ((with_reducible refine (ct _).mono ?_); rintro e w' ⟨rfl, rfl⟩))
    | (go_at_call 48; ((with_reducible refine (cw _).mono ?_); rintro e w' ⟨rfl, rfl⟩)))
  have H0 := (Below.heap_alloc (w.alloc (.cells #[.complex .f64 r1 r2] 24)) (.cells #[.bool false] 4) w.heap.size (by simp)).trans (heap_alloc_new w (.cells #[.complex .f64 r1 r2] 24))
  have H1 := heap_alloc_new (w.alloc (.cells #[.complex .f64 r1 r2] 24)) (.cells #[.bool false] 4)
  rw [World.size_alloc] at H1
  have b1 := ((Below.refl _ w).alloc (Nat.le_refl _) (.cells #[.complex .f64 r1 r2] 24)).alloc (by simp) (.cells #[.bool false] 4)
  generalize (w.alloc (.cells #[.complex .f64 r1 r2] 24)).alloc (.cells #[.bool false] 4) = W1 at *
  have k0 : W1.cell? ⟨w.heap.size, 0, none⟩ = some (.complex .f64 r1 r2) := cell_of_row _ _ 0 _ _ _ H0
  have k1 : W1.cell? ⟨w.heap.size + 1, 0, none⟩ = some (.bool false) := cell_of_row _ _ 0 _ _ _ H1
  have f0 := (cell_at H0 rfl Nat.one_pos).choose_spec.2
  have f1 := (cell_at H1 rfl Nat.one_pos).choose_spec.2
  have HH := Lib.hid (And.intro H0 (And.intro H1 b1))
  clear cp cv ct cw q1 q2 q3 q4 H0 H1 b1
  cases t
  all_goals
    go_region_with (go_at_call 37; ((with_reducible refine (cr _).mono ?_); rintro e w' ⟨rfl, rfl⟩))
    all_goals
      go_wp2_with fail
      obtain ⟨H0, H1, b1⟩ := HH.out
      obtain ⟨c0, c1⟩ := two_setD (x' := .complex .f64 r1 r2) (y' := .bool _) H0 H1 (by omega)
      exact door128 (c := (r1, r2)) (by rfl) (by rfl) (by rfl) c0 c1 (by omega) (((b1.setCell (p := ⟨w.heap.size, 0, none⟩) (Nat.le_refl _) _).setCell (p := ⟨w.heap.size + 1, 0, none⟩) (Nat.le_succ _) _).drew) (Nat.le_refl _)
set_option maxRecDepth 100000 in
set_option maxHeartbeats 800000 in
theorem i_step_no (p v : Nat × Nat) (n : Int) (w : World) (hp : W64 p) (hv : W32 v) (hno : (vcB p && vlB v && secB n) = false) :
    Calls Try.prog 15 #[.complex .f64 p.1 p.2, .complex .f32 v.1 v.2, .int .i64 n] w fun e w' => e = .returned (.tuple #[.complex .f64 0 0, .bool false]) ∧ Below w.heap.size w w' := by
  have cp := fun w => i_vecB p w hp
  have cv := fun w => i_velB v w hv
  have ct := fun w => i_legTime n w
  generalize vcB p = t1 at *
  generalize vlB v = t2 at *
  generalize secB n = t3 at *
  obtain ⟨p1, p2⟩ := p
  obtain ⟨v1, v2⟩ := v
  dsimp only at *
  clear hp hv
  have H0 := (Below.heap_alloc (w.alloc (.cells #[.complex .f64 0 0] 24)) (.cells #[.bool false] 4) w.heap.size (by simp)).trans (heap_alloc_new w (.cells #[.complex .f64 0 0] 24))
  have H1 := heap_alloc_new (w.alloc (.cells #[.complex .f64 0 0] 24)) (.cells #[.bool false] 4)
  rw [World.size_alloc] at H1
  have b1 := ((Below.refl _ w).alloc (Nat.le_refl _) (.cells #[.complex .f64 0 0] 24)).alloc (by simp) (.cells #[.bool false] 4)
  have z1 := World.size_alloc (w.alloc (.cells #[.complex .f64 0 0] 24)) (.cells #[.bool false] 4)
  rw [World.size_alloc] at z1
  have HH := Lib.hid (And.intro H0 (And.intro H1 (And.intro b1 z1)))
  clear H0 H1 b1 z1
  cases t1
  · go_enter_defers Try.func15, Try.ntmps15
    go_wp2_with (first
      | (go_at_call 37; ((with_reducible refine (cp _).mono ?_); rintro e w' ⟨rfl, rfl⟩)))
    obtain ⟨H0, H1, b1, z1⟩ := HH.out
    exact door128 (c := (0, 0)) (t := false) (by rfl) (by rfl) (by rfl) H0 H1 (by omega) b1 (Nat.le_refl _)
  · go_enter_defers Try.func15, Try.ntmps15
    go_wp2_with (first
      | (go_at_call 37; ((with_reducible refine (cp _).mono ?_); rintro e w' ⟨rfl, rfl⟩)))
    refine (cv _).mono ?_
    rintro e w2 ⟨rfl, hg⟩
    obtain ⟨H0, H1, b1, z1⟩ := HH.out
    have c0 := box_far H0 hg (fun e => by cases e)
    have c1 := box_far H1 hg (fun e => by cases e)
    have b2 := b1.grown hg (by simp; omega) (fun _ h => by cases h)
    have k0 : w2.cell? ⟨w.heap.size, 0, none⟩ = some (.complex .f64 0 0) := cell_of_row _ _ 0 _ _ _ c0
    have k1 : w2.cell? ⟨w.heap.size + 1, 0, none⟩ = some (.bool false) := cell_of_row _ _ 0 _ _ _ c1
    have f0 := (cell_at c0 rfl Nat.one_pos).choose_spec.2
    have f1 := (cell_at c1 rfl Nat.one_pos).choose_spec.2
    have H2 := Lib.hid (And.intro (two_set (x' := .complex .f64 0 0) (y' := .bool false) c0 c1 (by omega)) b2)
    clear HH H0 H1 b1 z1 c0 c1 b2 hg cp cv
    cases t2
    · go_wp2_with fail
      obtain ⟨⟨c0, c1⟩, b2⟩ := H2.out
      exact door128 (c := (0, 0)) (t := false) (by rfl) (by rfl) (by rfl) c0 c1 (by omega) ((b2.setCell (p := ⟨w.heap.size, 0, none⟩) (Nat.le_refl _) _).setCell (p := ⟨w.heap.size + 1, 0, none⟩) (Nat.le_succ _) _) (Nat.le_refl _)
    · obtain rfl : t3 = false := hno
      go_wp2_with (go_at_call 47; ((with_reducible refine (ct _).mono ?_); rintro e w' ⟨rfl, rfl⟩))
      obtain ⟨⟨c0, c1⟩, b2⟩ := H2.out
      exact door128 (c := (0, 0)) (t := false) (by rfl) (by rfl) (by rfl) c0 c1 (by omega) ((b2.setCell (p := ⟨w.heap.size, 0, none⟩) (Nat.le_refl _) _).setCell (p := ⟨w.heap.size + 1, 0, none⟩) (Nat.le_succ _) _) (Nat.le_refl _)
theorem i_stepOn (p v : Nat × Nat) (n : Int) (w : World) (hp : W64 p) (hv : W32 v) :
    Calls Try.prog 15 #[.complex .f64 p.1 p.2, .complex .f32 v.1 v.2, .int .i64 n] w fun e w' => e = .returned (.tuple #[.complex .f64 (stepF p v n).1 (stepF p v n).2, .bool (stepB p v n)]) ∧ Below w.heap.size w w' := by
  cases h : (vcB p && vlB v && secB n)
  · have e1 : stepB p v n = false := by unfold stepB; rw [h]; rfl
    have e2 : stepF p v n = (0, 0) := by unfold stepF; rw [e1]; rfl
    rw [e1, e2]
    exact i_step_no p v n w hp hv h
  · simp only [Bool.and_eq_true] at h
    exact i_step_yes p v n w hp hv h.1.1 h.1.2 h.2
set_option maxHeartbeats 800000 in
theorem s_stepOn (p v : Nat × Nat) (n : Int) (w : World) (hp : W64 p) (hv : W32 v) :
    Calls Try.prog 44 #[.complex .f64 p.1 p.2, .complex .f32 v.1 v.2, .int .i64 n] w fun e w' => e = .returned (.tuple #[.complex .f64 (stepF p v n).1 (stepF p v n).2, .bool (stepB p v n)]) ∧ w = w' := by
  have cp := fun w => s_vecB p w hp
  have cv := fun w => s_velB v w hv
  have ct := fun w => s_in n 0 100000 (secB n) w (by unfold secB; simp)
  cases h : (vcB p && vlB v && secB n)
  · have e1 : stepB p v n = false := by unfold stepB; rw [h]; rfl
    have e2 : stepF p v n = (0, 0) := by unfold stepF; rw [e1]; rfl
    rw [e1, e2]
    clear e1 e2
    generalize vcB p = t1 at *
    generalize vlB v = t2 at *
    generalize secB n = t3 at *
    obtain ⟨p1, p2⟩ := p
    obtain ⟨v1, v2⟩ := v
    dsimp only at *
    clear hp hv
    cases t1 <;> cases t2 <;> cases t3
    all_goals first
      | (cases h; done)
      | (clear h
         go_enter Try.func44, Try.ntmps44
         go_wp2_with (first
           | (go_at_call 19; ((with_reducible refine (cp _).mono ?_); rintro e w' ⟨rfl, rfl⟩))
           | (go_at_call 42; ((with_reducible refine (cv _).mono ?_); rintro e w' ⟨rfl, rfl⟩))
           | (go_at_call 56; ((with_reducible refine (ct _).mono ?_); rintro e w' ⟨rfl, rfl⟩)))
         go_ret2
         exact ⟨rfl, rfl⟩)
  · simp only [Bool.and_eq_true] at h
    obtain ⟨⟨h1, h2⟩, h3⟩ := h
    have G := stp_ok (vcB_iff.1 h1) hv (vlB_iff.1 h2) (secB_iff.1 h3)
    have hs : (Try.prog.underlying 35).isSome = true := by rw [Try.underlying35]; rfl
    have q5 := fun w => run_convert_float_float (P := Try.prog) w 35 34 .f32 .f64 _ _ hs Try.underlying34 G.w1
    have q6 := fun w => run_convert_float_float (P := Try.prog) w 35 34 .f32 .f64 _ _ hs Try.underlying34 G.w2
    have q1 := fun w => run_float_arith (P := Try.prog) w .mul 34 .f64 _ _ _ G.m1
    have q2 := fun w => run_float_arith (P := Try.prog) w .mul 34 .f64 _ _ _ G.m2
    have q3 := fun w => run_float_arith (P := Try.prog) w .add 34 .f64 _ _ _ G.a1
    have q4 := fun w => run_float_arith (P := Try.prog) w .add 34 .f64 _ _ _ G.a2
    have cr := fun w => s_vecB (stepW p v n) w G.lt
    have e1 : stepB p v n = vcB (stepW p v n) := by unfold stepB; rw [h1, h2, h3]; rfl
    have e2 : stepF p v n = if vcB (stepW p v n) = true then stepW p v n else (0, 0) := by unfold stepF; rw [e1]
    rw [e1, e2]
    rw [h1] at cp
    rw [h2] at cv
    rw [h3] at ct
    clear e1 e2 G h1 h2 h3 hp hv hs
    generalize ml (wid v.1) (floatOfInt .f64 n) = m1 at *
    generalize ml (wid v.2) (floatOfInt .f64 n) = m2 at *
    generalize wid v.1 = u1 at *
    generalize wid v.2 = u2 at *
    generalize vcB (stepW p v n) = t at *
    generalize stepW p v n = r at *
    obtain ⟨r1, r2⟩ := r
    obtain ⟨p1, p2⟩ := p
    obtain ⟨v1, v2⟩ := v
    dsimp only at *
    cases t
    all_goals
      go_enter Try.func44, Try.ntmps44
      go_wp2_with (first
        | (go_at_call 19; ((with_reducible refine (cp _).mono ?_); rintro e w' ⟨rfl, rfl⟩))
        | (go_at_call 19; ((with_reducible refine (cr _).mono ?_); rintro e w' ⟨rfl, rfl⟩))
        | (go_at_call 42; ((with_reducible refine (cv _).mono ?_); rintro e w' ⟨rfl, rfl⟩))
        | (go_at_call 56; ((with_reducible refine (ct _).mono ?_); rintro e w' ⟨rfl, rfl⟩)))
      go_ret2
      exact ⟨rfl, rfl⟩
end Go.Proofs.Ytonfenekjocopaa
