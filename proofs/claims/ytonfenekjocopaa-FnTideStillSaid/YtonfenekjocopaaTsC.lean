/- The walk of RunTide where all legs are of no seconds. -/
import Derived.Test.YtonfenekjocopaaTsB
namespace Go.Proofs.Ytonfenekjocopaa
open Go.RowKit Ieee
set_option linter.unusedVariables false
set_option linter.unusedSimpArgs false
attribute [local go_sem] st_cplx

/-- The door of a function that tells a position, or resets it; wherever its results lie. -/
theorem doorAt {tp tq : Tmp} {fn : Func} {tmps : Array Value} {w W : World} {N b0 b1 : Nat} {t : Bool} {c : Nat × Nat} (hres : fn.results = #[.cell tp 24, .cell tq 4])
    (h6 : tmps.getD tp undef = .pointer (some ⟨b0, 0, none⟩)) (h7 : tmps.getD tq undef = .pointer (some ⟨b1, 0, none⟩)) (H0 : W.heap[b0]? = some (.cells #[.complex .f64 c.1 c.2] 24 (0, 0))) (H1 : W.heap[b1]? = some (.cells #[.bool t] 4 (0, 0)))
    (hne : b0 ≠ b1) (hB : Below N w W) (hN : N ≤ b0) :
    bodyPostD Try.prog fn (fun e w' => e = .returned (.tuple #[.complex .f64 (if t = true then c else (0, 0)).1 (if t = true then c else (0, 0)).2, .bool t]) ∧ Below N w w') Exit.ret
      { tmps := tmps, defers := [{ target := Target.fn (Fn.func 36) #[], args := #[.pointer (some ⟨b1, 0, none⟩), .pointer (some ⟨b0, 0, none⟩)] }] } W := by
  have k0 : W.cell? ⟨b0, 0, none⟩ = some (.complex .f64 c.1 c.2) := cell_of_row _ _ 0 _ _ _ H0
  have k1 : W.cell? ⟨b1, 0, none⟩ = some (.bool t) := cell_of_row _ _ 0 _ _ _ H1
  have f0 := (cell_at H0 rfl Nat.one_pos).choose_spec.2
  refine leaves_cons (f := 36) (args := #[.pointer (some ⟨b1, 0, none⟩), .pointer (some ⟨b0, 0, none⟩)]) (by simp) (by simp [go_sem]) ?_
  refine (i_reset b1 b0 t _ .returning _ k1 k0 f0).mono ?_
  rintro e u' w'' ⟨rfl, rfl, rfl⟩
  cases t
  · have a0 := heap_set_self (k := 0) H0 (.complex .f64 0 0)
    have k0' : (W.setCell ⟨b0, 0, none⟩ (.complex .f64 0 0)).cell? ⟨b0, 0, none⟩ = some (.complex .f64 0 0) := cell_of_row _ _ 0 _ _ _ a0
    have k1' : (W.setCell ⟨b0, 0, none⟩ (.complex .f64 0 0)).cell? ⟨b1, 0, none⟩ = some (.bool false) := cell_of_row _ _ 0 _ _ _ ((Below.heap_setCell _ _ _ _ (fun e => hne e.symm)).trans H1)
    exact ⟨_, res_cells2 hres _ _ b0 b1 _ _ h6 h7 (run_loadVar_one Try.underlying24 rfl k0') (run_loadVar_one Try.underlying4 rfl k1'), rfl, hB.setCell (p := ⟨b0, 0, none⟩) hN _⟩
  · exact ⟨_, res_cells2 hres _ _ b0 b1 _ _ h6 h7 (run_loadVar_one Try.underlying24 rfl k0) (run_loadVar_one Try.underlying4 rfl k1), rfl, hB⟩
/-- The two blocks of a function that tells a position, wherever they lie. -/
def PosA (w : World) (N b : Nat) (r : Nat × Nat) (wr : World) : Prop := wr.heap[b]? = some (.cells #[.complex .f64 r.1 r.2] 24 (0, 0)) ∧ wr.heap[b + 1]? = some (.cells #[.bool false] 4 (0, 0)) ∧ Below N w wr
theorem PosA.cells {w wr : World} {N b : Nat} {r : Nat × Nat} (h : PosA w N b r wr) : wr.cell? ⟨b, 0, none⟩ = some (.complex .f64 r.1 r.2) ∧ wr.frozen? ⟨b, 0, none⟩ = false ∧ wr.cell? ⟨b + 1, 0, none⟩ = some (.bool false) ∧ wr.frozen? ⟨b + 1, 0, none⟩ = false :=
  ⟨cell_of_row _ _ 0 _ _ _ h.1, (cell_at h.1 rfl Nat.one_pos).choose_spec.2, cell_of_row _ _ 0 _ _ _ h.2.1, (cell_at h.2.1 rfl Nat.one_pos).choose_spec.2⟩
theorem PosA.step {w w1 w2 : World} {N b : Nat} {r : Nat × Nat} (h : PosA w N b r w1) (k : Below w1.heap.size w1 w2) (hN : N ≤ w1.heap.size) : PosA w N b r w2 := by
  have hz := block_lt h.2.1
  exact ⟨(k.block _ (by omega)).trans h.1, (k.block _ (by omega)).trans h.2.1, h.2.2.trans (k.mono hN)⟩
theorem PosA.set {w wr : World} {N b : Nat} {r : Nat × Nat} (h : PosA w N b r wr) (t : Bool) (hN : N ≤ b) :
    ((wr.setCell ⟨b, 0, none⟩ (.complex .f64 r.1 r.2)).setCell ⟨b + 1, 0, none⟩ (.bool t)).heap[b]? = some (.cells #[.complex .f64 r.1 r.2] 24 (0, 0)) ∧
    ((wr.setCell ⟨b, 0, none⟩ (.complex .f64 r.1 r.2)).setCell ⟨b + 1, 0, none⟩ (.bool t)).heap[b + 1]? = some (.cells #[.bool t] 4 (0, 0)) ∧
    Below N w ((wr.setCell ⟨b, 0, none⟩ (.complex .f64 r.1 r.2)).setCell ⟨b + 1, 0, none⟩ (.bool t)) := by
  obtain ⟨a, c⟩ := two_set (x' := .complex .f64 r.1 r.2) (y' := .bool t) h.1 h.2.1 (by omega)
  exact ⟨a, c, (h.2.2.setCell (p := ⟨b, 0, none⟩) hN _).setCell (p := ⟨b + 1, 0, none⟩) (Nat.le_succ_of_le hN) _⟩
/-- The world in which RunTide begins. -/
theorem PosA.new (w : World) (r : Nat × Nat) (x y z : Value) :
    PosA w w.heap.size (w.heap.size + 1 + 1) r ((((w.alloc (.cells #[x] 3)).alloc (.cells #[y, z] 41)).alloc (.cells #[.complex .f64 r.1 r.2] 24)).alloc (.cells #[.bool false] 4)) := by
  have s2 : ((w.alloc (.cells #[x] 3)).alloc (.cells #[y, z] 41)).heap.size = w.heap.size + 1 + 1 := by simp
  have h := PosW.new ((w.alloc (.cells #[x] 3)).alloc (.cells #[y, z] 41)) r
  unfold PosW at h
  rw [s2] at h
  exact ⟨h.1, h.2.1, (((Below.refl _ w).alloc (Nat.le_refl _) _).alloc (by simp) _).trans (h.2.2.mono (by omega))⟩
theorem PosA.size {w : World} {r : Nat × Nat} {x y z : Value} : w.heap.size ≤ ((((w.alloc (.cells #[x] 3)).alloc (.cells #[y, z] 41)).alloc (.cells #[.complex .f64 r.1 r.2] 24)).alloc (.cells #[.bool false] 4)).heap.size := by simp; omega

set_option maxRecDepth 100000 in
set_option maxHeartbeats 2000000 in
theorem i_tide_no (ls : Nat → Int × Nat × Int) (A : Option Addr) (g o n cap : Nat) (p : Nat × Nat) (t : Int) (y z : Value) (w : World) (hn : n ≤ 1000000) (hA : 0 < n → A = some ⟨g, o, none⟩) (hw : LegsIn w g o n ls) (hp : W64 p) (hno : (vcB p && lsB n ls) = false) :
    Calls Try.prog 18 #[.complex .f64 p.1 p.2, .int .i64 t, .slice A n cap, .agg #[y, z]] w fun e w' => e = .returned (.tuple #[.complex .f64 0 0, .bool false]) ∧ Below w.heap.size w w' := by
  have HP := Lib.hid (PosA.new w p (.int .i64 t) y z)
  have hz := PosA.size (w := w) (r := p) (x := .int .i64 t) (y := y) (z := z)
  have cp := fun w => i_vecB p w hp
  have ca := i_allL ls A g o n cap _ hn hA (hw.below HP.out.2.2 (Nat.le_refl _))
  clear hw
  obtain ⟨p1, p2⟩ := p
  dsimp only at *
  cases h1 : vcB (p1, p2)
  · rw [h1] at cp
    clear ca hno h1 hp
    go_enter_defers Try.func18, Try.ntmps18
    go_wp2_with (go_at_call 37; ((with_reducible refine (cp _).mono ?_); rintro e w' ⟨rfl, rfl⟩))
    obtain ⟨H0, H1, b1⟩ := HP.out
    exact doorAt (tp := 8) (tq := 9) (c := (p1, p2)) (t := false) (by rfl) (by rfl) (by rfl) H0 H1 (by omega) b1 (by omega)
  · rw [h1] at cp hno
    have h2 : lsB n ls = false := hno
    rw [h2] at ca
    clear hno h1 h2 hp
    go_enter_defers Try.func18, Try.ntmps18
    go_wp2_with (go_at_call 37; ((with_reducible refine (cp _).mono ?_); rintro e w' ⟨rfl, rfl⟩))
    refine ca.mono ?_
    rintro e w2 ⟨rfl, b2⟩
    have HP2 := Lib.hid (HP.out.step b2 hz)
    obtain ⟨k0, f0, k1, f1⟩ := HP2.out.cells
    clear b2 HP cp ca
    go_wp2_with fail
    obtain ⟨H0, H1, b1⟩ := HP2.out.set false (by omega)
    exact doorAt (tp := 8) (tq := 9) (c := (p1, p2)) (t := false) (by rfl) (by rfl) (by rfl) H0 H1 (by omega) b1 (by omega)
theorem i_pieces (A : Option Addr) (n cap : Nat) (w : World) :
    Calls Try.prog 53 #[.slice A n cap] w fun e w' => e = .returned (.func (.func 85) #[] #[.pointer (some ⟨w.heap.size, 0, none⟩)]) ∧ w' = w.alloc (.cells #[.slice A n cap] 25) := by
  have hmf : ∀ (fn : Fn) (first cap : Array Value) (w : World), (Instr.makeFunc fn first cap).run Try.prog w = .ok (.func fn first cap) w := fun _ _ _ _ => rfl
  go_enter Try.func53, Try.ntmps53
  go_wp2
  go_ret
  exact ⟨rfl, rfl⟩
end Go.Proofs.Ytonfenekjocopaa
