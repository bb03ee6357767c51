/- RunTide where all legs are valid and of no seconds. -/
import Derived.Test.YtonfenekjocopaaTsC
namespace Go.Proofs.Ytonfenekjocopaa
open Go.RowKit Ieee
set_option linter.unusedVariables false
set_option linter.unusedSimpArgs false
attribute [local go_sem] st_cplx Oper.semAt_some

/-- A function that has a body is entered. -/
theorem enters_at {P : Program} {f : FuncId} {fn : Func} {c : Go.Code} (hf : P.funcs[f]? = some fn) (hname : (fn.name == "runtime.NumGoroutine") = false) (hb : fn.body = some c) : ∀ args w, (callFunc f args).run P w = .ok (.enter f args) w := by
  intro args w
  have h1 : fn.name ≠ "runtime.NumGoroutine" := by simpa using hname
  simp [callFunc, hf, h1, hb]
set_option maxHeartbeats 400000 in
/-- The deferred reset where all is well, inside the wide fence. -/
theorem i_resetIn (n : Nat) (o r : Nat) (v : Value) (u : FrameMode) (w : World) (ho : w.cell? ⟨o, 0, none⟩ = some (.bool true)) :
    CallsDIn Fence.wide n Try.prog 36 #[.pointer (some ⟨o, 0, none⟩), .pointer (some ⟨r, 0, none⟩)] u w fun e u' w' => u' = u ∧ (e = .returned (.tuple #[]) ∧ w' = w) := by
  refine callsDIn_of_wp Try.func36 rfl trivial ?_
  simp only [Try.ntmps36, List.size_toArray, List.length_cons, List.length_nil, Nat.reduceAdd, Nat.reduceSub, Array.replicate_succ, Array.replicate_zero, List.push_toArray, List.append_toArray, List.nil_append, List.cons_append]
  gi_wp2
  go_end0
  exact ⟨rfl, rfl⟩
set_option maxRecDepth 100000 in
set_option maxHeartbeats 2000000 in
theorem i_tide_yes (ls : Nat → Int × Nat × Int) (A : Option Addr) (g o n cap : Nat) (p : Nat × Nat) (t : Int) (y z : Value) (w : World) (hn : n ≤ 1000000) (hA : 0 < n → A = some ⟨g, o, none⟩) (hw : LegsIn w g o n ls) (hp : W64 p) (h1 : vcB p = true) (h2 : lsB n ls = true) (hz : ∀ j, j < n → (ls j).2.2 = 0) :
    Calls Try.prog 18 #[.complex .f64 p.1 p.2, .int .i64 t, .slice A n cap, .agg #[y, z]] w fun e w' => e = .returned (.tuple #[.complex .f64 p.1 p.2, .bool true]) ∧ Below w.heap.size w w' := by
  have HP := Lib.hid (PosA.new w p (.int .i64 t) y z)
  have hzz := PosA.size (w := w) (r := p) (x := .int .i64 t) (y := y) (z := z)
  have cp := fun w => i_vecB p w hp
  have ca := i_allL ls A g o n cap _ hn hA (hw.below HP.out.2.2 (Nat.le_refl _))
  have HW := Lib.hid hw
  have HZ := Lib.hid hz
  rw [h1] at cp
  rw [h2] at ca
  have cpp := fun w => i_pieces A n cap w
  clear hw hz h1 h2 hp
  obtain ⟨p1, p2⟩ := p
  dsimp only at *
  refine (callsIn_wide (n := 9)).1 ?_
  refine callsIn_of_wp_marks (F := Fence.wide) Try.func18 rfl trivial ?_ rfl
  simp only [Try.ntmps18, List.size_toArray, List.length_cons, List.length_nil, Nat.reduceAdd, Nat.reduceSub, Array.replicate_succ, Array.replicate_zero, List.push_toArray, List.append_toArray, List.nil_append, List.cons_append]
  gi_wp2_with fail
  refine ⟨trivial, (callsIn_wide.2 (cp _)).mono ?_⟩
  rintro e w' ⟨rfl, rfl⟩
  gi_wp2_with fail
  refine ⟨trivial, (callsIn_wide.2 ca).mono ?_⟩
  rintro e w2 ⟨rfl, b2⟩
  have HP2 := Lib.hid (HP.out.step b2 hzz)
  clear b2 HP cp ca hzz
  gi_wp2_with fail
  refine ⟨trivial, (callsIn_wide.2 (cpp _)).mono ?_⟩
  rintro e w3 ⟨rfl, rfl⟩
  gi_wp2_with fail
  have hbx := heap_alloc_new w2 (.cells #[.slice A n cap] 25)
  have hP3 := HP2.out.step ((Below.refl _ w2).alloc (Nat.le_refl _) (.cells #[.slice A n cap] 25)) (by have := HP2.out.2.2.size; omega)
  have hz3 := block_lt hP3.2.1
  have hb3 := block_lt hbx
  have hst := pieces_stops (9 - 1) ls A g o n cap w2.heap.size (w2.alloc (.cells #[.slice A n cap] 25)) hn hA (HW.out.below hP3.2.2 (Nat.le_refl _)) HZ.out (cell_of_row _ _ 0 _ _ _ hbx) (Below (w2.heap.size + 1))
  have HST := Lib.hid hst
  have HP3 := Lib.hid hP3
  clear hst hP3 hbx HP2 HW HZ hA
  generalize hWW : w2.alloc (.cells #[.slice A n cap] 25) = W3 at *
  generalize w2.heap.size = b at *
  clear hWW cpp
  refine wpIn_rangeFunc_ownF (α := Empty) rfl (by omega) (gf := 85) (lb := #[.pointer (some ⟨b, 0, none⟩)]) rfl trivial (enters_at Try.func85 (by kernel_rfl) rfl)
    HST.out belowK_t (belowK_b (by omega)) (Below.refl _ _) (fun x => nomatch x)
    (fun _ W => PosA w w.heap.size (w.heap.size + 1 + 1) (p1, p2) W) (fun _ _ _ => False)
    (fun s X Y row hs hg hr => ⟨box_far hs.1 hg (fun e => by have := (hr _ e).1; omega), box_far hs.2.1 hg (fun e => by have := (hr _ e).1; omega), hs.2.2.grown hg hs.2.2.size (fun k e => by have := (hr _ e).1; omega)⟩)
    (fun _ _ _ _ _ hs _ _ => hs) HP3.out (fun x => nomatch x) ?assign ?body ?done ?stop
  case assign => intro l x; exact nomatch x
  case body => intro l pre x; exact nomatch x
  case stop => intro D c pre W _ h; exact h.elim
  case done =>
    rintro D ys W hD _ hI hK
    obtain ⟨k0, f0, k1, f1⟩ := hI.cells
    have HI := Lib.hid (hI.set true (by omega))
    have hK' := (KeepsOthers.setCell (W.setCell ⟨w.heap.size + 1 + 1, 0, none⟩ (.complex .f64 p1 p2)) ⟨w.heap.size + 1 + 1 + 1, 0, none⟩ (.bool true)).same D _ ((KeepsOthers.setCell W ⟨w.heap.size + 1 + 1, 0, none⟩ (.complex .f64 p1 p2)).same D _ hK rfl) rfl
    have HK := Lib.hid hK'
    clear hI hK hK'
    gi_wp2_with fail
    refine ⟨by simp, .inl ⟨D, _, rfl, run_takeDeferred HK.out, ?_⟩⟩
    obtain ⟨c0, c1, cb⟩ := HI.out
    have hD0 : D ≠ w.heap.size + 1 + 1 := fun e => by omega
    have hD1 : D ≠ w.heap.size + 1 + 1 + 1 := fun e => by omega
    have g9 := grownBy_putObj' ((W.setCell ⟨w.heap.size + 1 + 1, 0, none⟩ (.complex .f64 p1 p2)).setCell ⟨w.heap.size + 1 + 1 + 1, 0, none⟩ (.bool true)) D (.deferred none)
    have d0 := box_far c0 g9 (fun e => by injection e with e; exact hD0 e)
    have d1 := box_far c1 g9 (fun e => by injection e with e; exact hD1 e)
    have db := cb.grown g9 cb.size (fun k e => by injection e with e; omega)
    generalize ((W.setCell ⟨w.heap.size + 1 + 1, 0, none⟩ (.complex .f64 p1 p2)).setCell ⟨w.heap.size + 1 + 1 + 1, 0, none⟩ (.bool true)).putObj D (.deferred none) = WW at *
    have e0 : WW.cell? ⟨w.heap.size + 1 + 1, 0, none⟩ = some (.complex .f64 p1 p2) := cell_of_row _ _ 0 _ _ _ d0
    have e1 : WW.cell? ⟨w.heap.size + 1 + 1 + 1, 0, none⟩ = some (.bool true) := cell_of_row _ _ 0 _ _ _ d1
    refine ⟨by simp, .inr ⟨fun _ => by omega, _, _, 36, #[.pointer (some ⟨w.heap.size + 1 + 1 + 1, 0, none⟩), .pointer (some ⟨w.heap.size + 1 + 1, 0, none⟩)], rfl, by simp [go_sem], fun _ _ => trivial, ?_⟩⟩
    refine (i_resetIn 8 (w.heap.size + 1 + 1 + 1) (w.heap.size + 1 + 1) (.complex .f64 p1 p2) .returning WW e1).mono ?_
    rintro e u' w'' ⟨rfl, rfl, rfl⟩
    exact ⟨_, res_cells2 (p := 8) (q := 9) (by rfl) _ _ (w.heap.size + 1 + 1) (w.heap.size + 1 + 1 + 1) _ _ (by rfl) (by rfl) (run_loadVar_one Try.underlying24 rfl e0) (run_loadVar_one Try.underlying4 rfl e1), rfl, db⟩
end Go.Proofs.Ytonfenekjocopaa
