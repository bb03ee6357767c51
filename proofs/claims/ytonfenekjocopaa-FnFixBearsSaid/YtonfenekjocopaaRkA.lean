/- Legs: whether one is valid (impl and spec); the walk of the law FnExactLegOk. -/
import Derived.Test.YtonfenekjocopaaGvA
import Derived.Test.YtonfenekjocopaaGvB
import Derived.Test.YtonfenekjocopaaLwA
import Derived.Test.YtonfenekjocopaaTdA
namespace Go.Proofs.Ytonfenekjocopaa
open Go.RowKit Ieee
set_option linter.unusedVariables false
set_option linter.unusedSimpArgs false

/-- The seconds of a leg. -/
def okSec (n : Int) : Prop := 0 ≤ n ∧ n ≤ 100000
/-- A valid leg. -/
def okLg (s : Nat) (n : Int) : Prop := okBs s ∧ okSec n
/-- The same, as a Bool. -/
noncomputable def lgB (s : Nat) (n : Int) : Bool := @decide (okLg s n) (Classical.propDecidable _)
theorem lgB_iff {s : Nat} {n : Int} : lgB s n = true ↔ okLg s n := by unfold lgB; exact @decide_eq_true_iff _ (Classical.propDecidable _)
noncomputable def bsB (s : Nat) : Bool := @decide (okBs s) (Classical.propDecidable _)
theorem bsB_iff {s : Nat} : bsB s = true ↔ okBs s := by unfold bsB; exact @decide_eq_true_iff _ (Classical.propDecidable _)
def secB (n : Int) : Bool := decide (0 ≤ n) && decide (n ≤ 100000)
theorem secB_iff {n : Int} : secB n = true ↔ okSec n := by unfold secB okSec; simp
theorem lgB_and (s : Nat) (n : Int) : lgB s n = (bsB s && secB n) := by
  rw [Bool.eq_iff_iff, lgB_iff, Bool.and_eq_true, bsB_iff, secB_iff]; rfl

set_option maxHeartbeats 400000 in
theorem i_legTime (n : Int) (w : World) :
    Calls Try.prog 47 #[.int .i64 n] w fun e w' => e = .returned (.bool (secB n)) ∧ w = w' := by
  unfold secB
  by_cases h0 : 0 ≤ n <;> by_cases h1 : n ≤ 100000
  all_goals
    simp only [h0, h1, decide_true, decide_false, Bool.true_and, Bool.and_true, Bool.and_false, Bool.false_and]
    go_enter Try.func47, Try.ntmps47
    go_wp2
    go_ret
    exact ⟨rfl, rfl⟩
set_option maxHeartbeats 400000 in
theorem i_legOk (h : Int) (s : Nat) (n : Int) (w : World) (hs : s < 4294967296) :
    Calls Try.prog 31 #[.agg #[.int .i64 h, .float .f32 s, .int .i64 n]] w fun e w' => e = .returned (.bool (lgB s n)) ∧ Below w.heap.size w w' := by
  have cb := fun w => i_boat_is s (bsB s) w hs bsB_iff
  have ct := fun w => i_legTime n w
  rw [lgB_and]
  generalize bsB s = tb at *
  generalize secB n = tc at *
  cases tb <;> cases tc
  all_goals
    go_enter Try.func31, Try.ntmps31
    go_wp2_with (first
      | (go_at_call 71; ((with_reducible refine (cb _).mono ?_); rintro e w' ⟨rfl, rfl⟩))
      | (go_at_call 47; ((with_reducible refine (ct _).mono ?_); rintro e w' ⟨rfl, rfl⟩)))
    go_ret
    exact ⟨rfl, (Below.refl _ _).alloc (Nat.le_refl _) _⟩
set_option maxHeartbeats 400000 in
theorem s_legOk (h : Int) (s : Nat) (n : Int) (w : World) (hs : s < 4294967296) :
    Calls Try.prog 20 #[.agg #[.int .i64 h, .float .f32 s, .int .i64 n]] w fun e w' => e = .returned (.bool (lgB s n)) ∧ Below w.heap.size w w' := by
  obtain ⟨t, u, hb, _, f1, f2⟩ := speed_flag s hs
  have hbs : bsB s = (t && u) := by rw [Bool.eq_iff_iff, bsB_iff, hb]
  have ct := fun w => s_in n 0 100000 (secB n) w (by unfold secB; simp)
  rw [lgB_and, hbs]
  clear hb hbs
  generalize secB n = tc at *
  cases t <;> cases u <;> cases tc
  all_goals
    go_enter Try.func20, Try.ntmps20
    go_wp2_with (go_at_call 56; ((with_reducible refine (ct _).mono ?_); rintro e w' ⟨rfl, rfl⟩))
    go_ret
    exact ⟨rfl, (Below.refl _ _).alloc (Nat.le_refl _) _⟩
theorem Try.infoLg : (Try.prog.info? 45).map (·.size) = some 3 := by kernel_rfl
/-- A leg's three cells, loaded and stored. -/
theorem ld_leg {w : World} {q : Nat} {cs : Array Value} (h : w.heap[q]? = some (.cells cs 45 (0, 0))) (hs : cs.size = 3) : (Instr.loadAt 45 (.pointer (some ⟨q, 0, none⟩))).run Try.prog w = .ok (.agg cs) w := by
  simp only [Instr.loadAt, Instr.sureAddr, Sem.run_bind, Sem.run_pure, Result.andThen_ok, run_loadVar_row w q _ 45 cs (0, 0) _ h Try.underlying45 rfl (by rw [hs]; exact Try.infoLg)]

/-- Stores into three cells that were just made, or made one block ago. -/
theorem st_new (P : Program) (W : World) (x y z v : Value) (t : TypeId) (k : Nat) (hk : k < 3) (hv : v.oneCell' = true) :
    (store ⟨W.heap.size, k, none⟩ v).run P (W.alloc (.cells #[x, y, z] t)) = .ok () ((W.alloc (.cells #[x, y, z] t)).setCell ⟨W.heap.size, k, none⟩ v) :=
  store_at (n := 3) (heap_alloc_new W (.cells #[x, y, z] t)) rfl hk v hv
theorem st_new1 (P : Program) (W : World) (x y z v : Value) (t : TypeId) (o : Obj) (k : Nat) (hk : k < 3) (hv : v.oneCell' = true) :
    (store ⟨W.heap.size, k, none⟩ v).run P ((W.alloc (.cells #[x, y, z] t)).alloc o) = .ok () (((W.alloc (.cells #[x, y, z] t)).alloc o).setCell ⟨W.heap.size, k, none⟩ v) :=
  store_at (n := 3) (by rw [Below.heap_alloc _ _ _ (by simp)]; exact heap_alloc_new W (.cells #[x, y, z] t)) rfl hk v hv

set_option maxHeartbeats 400000 in
theorem l_toLeg (h : Int) (s : Nat) (n : Int) (w : World) :
    Calls Try.prog 30 #[.agg #[.int .i64 h, .float .f32 s, .int .i64 n]] w fun e w' => e = .returned (.agg #[.int .i64 h, .float .f32 s, .int .i64 n]) ∧ Below w.heap.size w w' := by
  have a1 := fun (x y z : Value) (s : Nat) => st_new Try.prog ((w.alloc (.cells #[.int .i64 h, .float .f32 s, .int .i64 n] 59)).alloc (.cells #[.int .i64 0, .float .f32 0, .int .i64 0] 45)) x y z (.float .f32 s) 45 1 (by omega) rfl
  have a2 := fun (x y z : Value) (s : Nat) => st_new Try.prog ((w.alloc (.cells #[.int .i64 h, .float .f32 s, .int .i64 n] 59)).alloc (.cells #[.int .i64 0, .float .f32 0, .int .i64 0] 45)) x y z (.int .i64 n) 45 2 (by omega) rfl
  have b1 := fun (x y z : Value) (o : Obj) => st_new1 Try.prog (w.alloc (.cells #[.int .i64 h, .float .f32 s, .int .i64 n] 59)) x y z (.float .f32 s) 45 o 1 (by omega) rfl
  have b2 := fun (x y z : Value) (o : Obj) => st_new1 Try.prog (w.alloc (.cells #[.int .i64 h, .float .f32 s, .int .i64 n] 59)) x y z (.int .i64 n) 45 o 2 (by omega) rfl
  simp only [World.size_alloc] at a1 a2 b1 b2
  have p9 : (((w.alloc (.cells #[.int .i64 h, .float .f32 s, .int .i64 n] 59)).alloc (.cells #[.int .i64 h, .float .f32 s, .int .i64 n] 45)).alloc (.cells #[.int .i64 h, .float .f32 s, .int .i64 n] 45)).heap[w.heap.size + 1]? = some (.cells #[.int .i64 h, .float .f32 s, .int .i64 n] 45 (0, 0)) := by
    have p := heap_alloc_new (w.alloc (.cells #[.int .i64 h, .float .f32 s, .int .i64 n] 59)) (.cells #[.int .i64 h, .float .f32 s, .int .i64 n] 45)
    rw [World.size_alloc] at p
    rw [Below.heap_alloc _ _ _ (by simp)]
    exact p
  have HP := Lib.hid p9
  clear p9
  go_enter Try.func30, Try.ntmps30
  go_wp2
  exact bodyPost_ret (v := .agg #[.int .i64 h, .float .f32 s, .int .i64 n]) (results_cell_row (p := 2) (ty := 45) (by rfl) _ _ (w.heap.size + 1) _ #[.int .i64 h, .float .f32 s, .int .i64 n] (0, 0) _ (by rfl) HP.out Try.underlying45 rfl Try.infoLg) rfl
    ⟨rfl, (((Below.refl _ w).alloc (Nat.le_refl _) _).alloc (by simp) _).alloc (by simp; omega) _⟩
set_option maxRecDepth 100000 in
set_option maxHeartbeats 800000 in
theorem v_FnExactLegOk (h : Int) (s : Nat) (n : Int) (w : World) (hs : s < 4294967296) :
    Calls Try.prog 8 #[.agg #[.int .i64 h, .float .f32 s, .int .i64 n]] w fun e w' => e = .returned (.bool true) ∧ Below w.heap.size w w' := by
  have hb := heap_alloc_new w (.cells #[.int .i64 h, .float .f32 s, .int .i64 n] 59)
  go_enter Try.func8, Try.ntmps8
  go_wp2_with fail
  refine (l_toLeg h s n _).mono ?_
  rintro e w1 ⟨rfl, c1⟩
  have b1 : Below (w.heap.size + 1) (w.alloc (.cells #[.int .i64 h, .float .f32 s, .int .i64 n] 59)) w1 := by simpa using c1
  have z1 : w.heap.size + 1 ≤ w1.heap.size := by have := b1.size; rw [World.size_alloc] at this; exact this
  go_wp2_with fail
  refine (s_legOk h s n _ hs).mono ?_
  rintro e w2 ⟨rfl, c2⟩
  have b2 := b1.trans (c2.mono z1)
  have z2 := Nat.le_trans z1 c2.size
  have k := (b2.block _ (by omega)).trans hb
  have k0 := cell_of_row _ _ 0 _ _ _ k
  have k1 := cell_of_row _ _ 1 _ _ _ k
  have k2 := cell_of_row _ _ 2 _ _ _ k
  clear k
  have HB := Lib.hid (And.intro b2 z2)
  clear b1 c1 c2 b2 z1 z2 hb
  obtain ⟨t, ht⟩ : ∃ t, lgB s n = t := ⟨_, rfl⟩
  rw [ht]
  go_wp2_with fail
  refine (l_toLeg h s n _).mono ?_
  rintro e w3 ⟨rfl, c3⟩
  have b3 := HB.out.1.trans (c3.mono HB.out.2)
  have z3 := Nat.le_trans HB.out.2 c3.size
  clear k0 k1 k2 HB c3
  go_wp2_with fail
  have ci := fun w => i_legOk h s n w hs
  rw [ht] at ci
  refine (ci _).mono ?_
  rintro e w4 ⟨rfl, c4⟩
  have b4 := b3.trans (c4.mono z3)
  clear b3 c4
  have b5 := ((Below.refl _ w).alloc (Nat.le_refl _) (.cells #[.int .i64 h, .float .f32 s, .int .i64 n] 59)).trans (b4.mono (Nat.le_succ _))
  clear b4
  cases t
  all_goals
    go_wp2
    go_ret
    exact ⟨rfl, b5⟩
end Go.Proofs.Ytonfenekjocopaa
