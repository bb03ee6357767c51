/- The walk of SetOf where it tells a velocity; the walk of the law FnStepsBack. -/
import Derived.Test.YtonfenekjocopaaRkD
namespace Go.Proofs.Ytonfenekjocopaa
open Go.RowKit Ieee
set_option linter.unusedVariables false
set_option linter.unusedSimpArgs false
attribute [local go_sem] st_cplx

/-- The door of a function that tells a velocity, or resets it. -/
theorem door64 {fn : Func} {tmps : Array Value} {w W : World} {N b0 b1 : Nat} {t : Bool} {c : Nat × Nat} (hres : fn.results = #[.cell 6 26, .cell 7 4])
    (h6 : tmps.getD 6 undef = .pointer (some ⟨b0, 0, none⟩)) (h7 : tmps.getD 7 undef = .pointer (some ⟨b1, 0, none⟩)) (H0 : W.heap[b0]? = some (.cells #[.complex .f32 c.1 c.2] 26 (0, 0))) (H1 : W.heap[b1]? = some (.cells #[.bool t] 4 (0, 0)))
    (hne : b0 ≠ b1) (hB : Below N w W) (hN : N ≤ b0) :
    bodyPostD Try.prog fn (fun e w' => e = .returned (.tuple #[.complex .f32 (if t = true then c else (0, 0)).1 (if t = true then c else (0, 0)).2, .bool t]) ∧ Below N w w') Exit.ret
      { tmps := tmps, defers := [{ target := Target.fn (Fn.func 49) #[], args := #[.pointer (some ⟨b1, 0, none⟩), .pointer (some ⟨b0, 0, none⟩)] }] } W := by
  have k0 : W.cell? ⟨b0, 0, none⟩ = some (.complex .f32 c.1 c.2) := cell_of_row _ _ 0 _ _ _ H0
  have k1 : W.cell? ⟨b1, 0, none⟩ = some (.bool t) := cell_of_row _ _ 0 _ _ _ H1
  have f0 := (cell_at H0 rfl Nat.one_pos).choose_spec.2
  refine leaves_cons (f := 49) (args := #[.pointer (some ⟨b1, 0, none⟩), .pointer (some ⟨b0, 0, none⟩)]) (by simp) (by simp [go_sem]) ?_
  refine (i_reset32 b1 b0 t _ .returning _ k1 k0 f0).mono ?_
  rintro e u' w'' ⟨rfl, rfl, rfl⟩
  cases t
  · have a0 := heap_set_self (k := 0) H0 (.complex .f32 0 0)
    have k0' : (W.setCell ⟨b0, 0, none⟩ (.complex .f32 0 0)).cell? ⟨b0, 0, none⟩ = some (.complex .f32 0 0) := cell_of_row _ _ 0 _ _ _ a0
    have k1' : (W.setCell ⟨b0, 0, none⟩ (.complex .f32 0 0)).cell? ⟨b1, 0, none⟩ = some (.bool false) := cell_of_row _ _ 0 _ _ _ ((Below.heap_setCell _ _ _ _ (fun e => hne e.symm)).trans H1)
    exact ⟨_, res_cells2 hres _ _ b0 b1 _ _ h6 h7 (run_loadVar_one Try.underlying26 rfl k0') (run_loadVar_one Try.underlying4 rfl k1'), rfl, hB.setCell (p := ⟨b0, 0, none⟩) hN _⟩
  · exact ⟨_, res_cells2 hres _ _ b0 b1 _ _ h6 h7 (run_loadVar_one Try.underlying26 rfl k0) (run_loadVar_one Try.underlying4 rfl k1), rfl, hB⟩
set_option maxRecDepth 100000 in
set_option maxHeartbeats 800000 in
theorem i_set (a b : Nat × Nat) (n : Int) (d1 d2 q1 q2 s1 s2 : Nat) (w : World) (ha : W64 a) (hb : W64 b) (h1 : vcB a = true) (h2 : vcB b = true) (h3 : secB n = true) (hn : n ≠ 0)
    (e1 : floatBits .sub .f64 b.1 a.1 = some d1) (e2 : floatBits .sub .f64 b.2 a.2 = some d2) (e3 : floatBits .quo .f64 d1 (floatOfInt .f64 n) = some q1) (e4 : floatBits .quo .f64 d2 (floatOfInt .f64 n) = some q2)
    (e5 : floatToFloatBits .f64 q1 .f32 = some s1) (e6 : floatToFloatBits .f64 q2 .f32 = some s2) (hs : okV s1 s2) :
    Calls Try.prog 16 #[.complex .f64 a.1 a.2, .complex .f64 b.1 b.2, .int .i64 n] w fun e w' => e = .returned (.tuple #[.complex .f32 s1 s2, .bool true]) ∧ Below w.heap.size w w' := by
  have hu : (Try.prog.underlying 34).isSome = true := by rw [Try.underlying34]; rfl
  have f1 := fun w => run_complex_sum (P := Try.prog) w .sub (Or.inr rfl) 24 .f64 b.1 b.2 a.1 a.2 d1 d2 (by unfold cSumBits; rw [e1, e2]; rfl)
  have f2 := fun w => run_float_arith (P := Try.prog) w .quo 34 .f64 _ _ _ e3
  have f3 := fun w => run_float_arith (P := Try.prog) w .quo 34 .f64 _ _ _ e4
  have f4 := fun w => run_convert_float_float (P := Try.prog) w 34 35 .f64 .f32 _ _ hu Try.underlying35 e5
  have f5 := fun w => run_convert_float_float (P := Try.prog) w 34 35 .f64 .f32 _ _ hu Try.underlying35 e6
  have ca := fun w => i_vecB a w ha
  have cb := fun w => i_vecB b w hb
  have cr := fun w => i_velok_yes s1 s2 w hs
  have ct := fun w => i_legTime n w
  have hn0 : (n == 0) = false := by simpa using hn
  rw [h1] at ca
  rw [h2] at cb
  rw [h3] at ct
  obtain ⟨a1, a2⟩ := a
  obtain ⟨b1, b2⟩ := b
  dsimp only at *
  clear e1 e2 e3 e4 e5 e6 hs ha hb h1 h2 h3 hu
  go_enter_defers Try.func16, Try.ntmps16
  go_wp2_with (first
    | (go_at_call 37; ((with_reducible refine (ca _).mono ?_); rintro e w' ⟨rfl, rfl⟩))
    | (go_at_call 37; ((with_reducible refine (cb _).mono ?_); rintro e w' ⟨rfl, rfl⟩))
    | (go_at_call 47; ((with_reducible refine (ct _).mono ?_); rintro e w' ⟨rfl, rfl⟩)))
  have H0 := (Below.heap_alloc (w.alloc (.cells #[.complex .f32 s1 s2] 26)) (.cells #[.bool false] 4) w.heap.size (by simp)).trans (heap_alloc_new w (.cells #[.complex .f32 s1 s2] 26))
  have H1 := heap_alloc_new (w.alloc (.cells #[.complex .f32 s1 s2] 26)) (.cells #[.bool false] 4)
  rw [World.size_alloc] at H1
  have b1 := ((Below.refl _ w).alloc (Nat.le_refl _) (.cells #[.complex .f32 s1 s2] 26)).alloc (by simp) (.cells #[.bool false] 4)
  generalize (w.alloc (.cells #[.complex .f32 s1 s2] 26)).alloc (.cells #[.bool false] 4) = W1 at *
  have k0 : W1.cell? ⟨w.heap.size, 0, none⟩ = some (.complex .f32 s1 s2) := cell_of_row _ _ 0 _ _ _ H0
  have k1 : W1.cell? ⟨w.heap.size + 1, 0, none⟩ = some (.bool false) := cell_of_row _ _ 0 _ _ _ H1
  have f0 := (cell_at H0 rfl Nat.one_pos).choose_spec.2
  have f9 := (cell_at H1 rfl Nat.one_pos).choose_spec.2
  have HH := Lib.hid (And.intro H0 (And.intro H1 b1))
  clear ca cb ct f1 f2 f3 f4 f5 H0 H1 b1
  go_region_with (go_at_call 39; ((with_reducible refine (cr _).mono ?_); rintro e w' ⟨rfl, rfl⟩))
  all_goals
    go_wp2_with fail
    obtain ⟨H0, H1, b1⟩ := HH.out
    obtain ⟨c0, c1⟩ := two_setD (x' := .complex .f32 s1 s2) (y' := .bool true) H0 H1 (by omega)
    exact door64 (c := (s1, s2)) (t := true) (by rfl) (by rfl) (by rfl) c0 c1 (by omega) (((b1.setCell (p := ⟨w.heap.size, 0, none⟩) (Nat.le_refl _) _).setCell (p := ⟨w.heap.size + 1, 0, none⟩) (Nat.le_succ _) _).drew) (Nat.le_refl _)

theorem tmod_bd8 (x : Int) (h : 0 ≤ x) : 0 ≤ x.tmod 801 ∧ x.tmod 801 < 801 := by
  rw [Int.tmod_eq_emod_of_nonneg h]; omega
set_option maxRecDepth 100000 in
set_option maxHeartbeats 4000000 in
theorem w_FnStepsBack (a0 : Option Addr) (len cap : Nat) (zs : List Int) (w : World) (hr : IsRow .u8 w a0 len cap zs) :
    Calls Try.prog 4 #[.slice a0 len cap] w fun e w' => e = .returned (.bool true) ∧ Below w.heap.size w w' := by
  by_cases hbig : len ≤ 1048576
  · have hcode := code_of_row hr hbig
    go_enter Try.func4, Try.ntmps4
    go_wp2_with (go_at_call 9; go_in)
    go_wp2_with fail
    refine (d_places _ len cap a0 hcode).mono ?_
    rintro e w1 ⟨xs, v, hxs, hbd, rfl, hown, b1⟩
    obtain ⟨g, c, rfl, hc, hB, hgl, hcell⟩ := ints_own hown (by omega)
    match xs, hxs with
    | [x0, x1, x2, x3, x4, x5, x6, x7, x8, x9, x10, x11], _ =>
    have c0 := hcell 0 x0 rfl
    have c1 := hcell 1 x1 rfl
    have c2 := hcell 2 x2 rfl
    have c3 := hcell 3 x3 rfl
    have c4 := hcell 4 x4 rfl
    obtain ⟨p0, q0⟩ := hbd 0 x0 rfl
    obtain ⟨p1, q1⟩ := hbd 1 x1 rfl
    obtain ⟨p2, q2⟩ := hbd 2 x2 rfl
    obtain ⟨p3, q3⟩ := hbd 3 x3 rfl
    obtain ⟨p4, q4⟩ := hbd 4 x4 rfl
    clear hcell hbd hown hB hgl
    obtain ⟨u2, v2⟩ := tmod_bd8 x2 p2
    obtain ⟨u3, v3⟩ := tmod_bd8 x3 p3
    have w2 : IntKind.i64.wrap (x2.tmod 801 - 400) = x2.tmod 801 - 400 := IntWalk.i64_in _ (by omega)
    have w3 : IntKind.i64.wrap (x3.tmod 801 - 400) = x3.tmod 801 - 400 := IntWalk.i64_in _ (by omega)
    obtain ⟨a, ha, ea⟩ := e8_ex x0 (by omega) (by omega)
    obtain ⟨b, hb, eb⟩ := e8_ex x1 (by omega) (by omega)
    obtain ⟨u, hu, eu⟩ := eig_ex (x2.tmod 801 - 400) (by omega) (by omega)
    obtain ⟨v, hv, ev⟩ := eig_ex (x3.tmod 801 - 400) (by omega) (by omega)
    have f0 := fun w => run_float_arith (P := Try.prog) w .quo 34 .f64 _ _ _ ha
    have f1 := fun w => run_float_arith (P := Try.prog) w .quo 34 .f64 _ _ _ hb
    have f2 := fun w => run_float_arith (P := Try.prog) w .quo 35 .f32 _ _ _ hu
    have f3 := fun w => run_float_arith (P := Try.prog) w .quo 35 .f32 _ _ _ hv
    obtain ⟨s1, d1, t1, r1, k1, k2, k3, k4⟩ := eig_step (n := 1 + x4) ea (by omega) eu (by omega) (by omega) (by omega)
    obtain ⟨s2, d2, t2, r2, m1, m2, m3, m4⟩ := eig_step (n := 1 + x4) eb (by omega) ev (by omega) (by omega) (by omega)
    have wa : W64 (a, b) := ⟨ea.2.1, eb.2.1⟩
    have wu : W32 (u, v) := ⟨eu.2.1, ev.2.1⟩
    have B1 : ((x2.tmod 801 - 400) * (1 + x4)).natAbs ≤ 4000000 := by rw [Int.natAbs_mul]; exact Nat.mul_le_mul (by omega : (x2.tmod 801 - 400).natAbs ≤ 400) (by omega : (1 + x4).natAbs ≤ 10000)
    have B2 : ((x3.tmod 801 - 400) * (1 + x4)).natAbs ≤ 4000000 := by rw [Int.natAbs_mul]; exact Nat.mul_le_mul (by omega : (x3.tmod 801 - 400).natAbs ≤ 400) (by omega : (1 + x4).natAbs ≤ 10000)
    have va : vcB (a, b) = true := vcB_iff.2 ⟨ea.okP (by omega), eb.okP (by omega)⟩
    have vu : vlB (u, v) = true := vlB_iff.2 ⟨eu.okP (by omega), ev.okP (by omega)⟩
    have vs : secB (1 + x4) = true := secB_iff.2 ⟨by omega, by omega⟩
    have vr : vcB (stepW (a, b) (u, v) (1 + x4)) = true := vcB_iff.2 ⟨s1.okP (by omega), s2.okP (by omega)⟩
    have wr : W64 (stepW (a, b) (u, v) (1 + x4)) := ⟨s1.2.1, s2.2.1⟩
    have sb : stepB (a, b) (u, v) (1 + x4) = true := by unfold stepB; rw [va, vu, vs, vr]; rfl
    have sf : stepF (a, b) (u, v) (1 + x4) = stepW (a, b) (u, v) (1 + x4) := by unfold stepF; rw [sb]; rfl
    have D1 := fun w => i_stepOn (a, b) (u, v) (1 + x4) w wa wu
    have ok : okV r1 r2 := ⟨⟨k4.2.1, m4.2.1⟩, k4.okP (by omega), m4.okP (by omega)⟩
    have D2 := fun w => i_set (a, b) (stepW (a, b) (u, v) (1 + x4)) (1 + x4) d1 d2 t1 t2 r1 r2 w wa wr va vr vs (by omega) k1 m1 k2 m2 k3 m3 ok
    rw [sb, sf] at D1
    have j1 := eig_same k4 eu
    have j2 := eig_same m4 ev
    have w4 : IntKind.i64.wrap (1 + x4) = 1 + x4 := IntWalk.i64_in _ (by omega)
    clear ha hb hu hv ea eb eu ev s1 s2 k1 k2 k3 k4 m1 m2 m3 m4 wa wu B1 B2 va vu vs vr wr sb sf ok
    generalize stepW (a, b) (u, v) (1 + x4) = r at *
    obtain ⟨ra, rb⟩ := r
    dsimp only at D1 D2
    go_wp2
    go_quiet (fail)
    go_wp2
    go_quiet (fail)
    go_wp2_with fail
    have b1' := fun n => b1.grown (row := none) (grown_drewN w1 n none) b1.size (fun _ h => by cases h)
    refine (D1 _).mono ?_
    rintro e w2 ⟨rfl, k2⟩
    have b2 := Below.trans (b1' _) (k2.mono b1.size)
    clear b1 b1' k2 f0 f1 f2 f3 c0 c1 c2 c3 c4 D1
    go_wp2_with fail
    refine (D2 _).mono ?_
    rintro e w3 ⟨rfl, k3⟩
    have b3 := Below.trans b2 (k3.mono b2.size)
    clear b2 k3 D2
    go_wp2
    go_ret
    exact ⟨rfl, b3⟩
  · go_enter Try.func4, Try.ntmps4
    go_wp2
    go_ret
    exact ⟨rfl, Below.refl _ _⟩
end Go.Proofs.Ytonfenekjocopaa
