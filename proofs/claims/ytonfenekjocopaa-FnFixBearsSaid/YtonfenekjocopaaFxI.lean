/- The walks of FixOf (impl and spec). -/
import Derived.Test.YtonfenekjocopaaFxH
import Derived.Test.YtonfenekjocopaaRkC
namespace Go.Proofs.Ytonfenekjocopaa
open Go.RowKit Ieee
set_option linter.unusedVariables false
set_option linter.unusedSimpArgs false
attribute [local go_sem] st_cplx

/-- The number of a turn. -/
def dgn (k : Int) : Nat := (k % 360).toNat
theorem dgn_lt (k : Int) : dgn k < 360 := by unfold dgn; omega
noncomputable def spanB (ka kb : Int) : Bool := decide (20 ≤ btw ka kb ∧ btw ka kb ≤ 160)
theorem cut_in {ka kb : Int} (h : spanB ka kb = true) : (dgn ka < dgn kb ∧ inD (dgn kb - dgn ka) = true) ∨ (dgn kb < dgn ka ∧ inD (dgn ka - dgn kb) = true) := by
  have h2 : 20 ≤ btw ka kb ∧ btw ka kb ≤ 160 := by unfold spanB at h; exact of_decide_eq_true h
  unfold btw at h2
  unfold dgn
  rcases Nat.lt_or_ge (ka % 360).toNat (kb % 360).toNat with g | g
  · left; refine ⟨g, inD_of ?_⟩; split at h2 <;> omega
  · right; refine ⟨by split at h2 <;> omega, inD_of ?_⟩; split at h2 <;> omega
theorem tnR_ex {k : Nat} (hk : k < 360) : ∃ a b, TnR k a b := by
  obtain ⟨_, X, Y, _, hT, _⟩ := turn_cutC k hk
  exact ⟨_, _, turn_rat hT⟩

noncomputable def geB (m : Nat) : Bool := decide (0 ≤ fval m)
theorem num0 : isNum 0 := zero_isNum
theorem ge_ord {m : Nat} (h : isNum m) : (FloatKind.f64.format.order m 0 == some .gt || FloatKind.f64.format.order m 0 == some .eq) = geB m ∧ (FloatKind.f64.format.order m 0 == some .lt) = !geB m := by
  have e : FloatKind.f64.format.order m 0 = some (compare (fval m) 0) := by
    have := order_val h num0
    rw [nought_val] at this
    exact this
  rw [e]
  unfold geB
  rcases Int.lt_trichotomy (fval m) 0 with g | g | g
  · rw [Int.compare_eq_lt.2 g, decide_eq_false (by omega)]; exact ⟨rfl, rfl⟩
  · rw [Int.compare_eq_eq.2 g, decide_eq_true (by omega)]; exact ⟨rfl, rfl⟩
  · rw [Int.compare_eq_gt.2 g, decide_eq_true (by omega)]; exact ⟨rfl, rfl⟩
/-- Whether two marks tell a fix, and the fix. -/
noncomputable def fxB (a b : Nat × Nat) (ka kb : Int) : Bool := vcB a && vcB b && spanB ka kb && (geB (fxM a b (dgn ka) (dgn kb)) && geB (fxN a b (dgn ka) (dgn kb)) && vcB (fxP a b (dgn ka) (dgn kb)))
noncomputable def fxF (a b : Nat × Nat) (ka kb : Int) : Nat × Nat := if fxB a b ka kb = true then fxP a b (dgn ka) (dgn kb) else (0, 0)

/-- The two blocks of a function that tells a position. -/
def PosX (w : World) (r : Nat × Nat) (t : Bool) (wr : World) : Prop := wr.heap[w.heap.size]? = some (.cells #[.complex .f64 r.1 r.2] 24 (0, 0)) ∧ wr.heap[w.heap.size + 1]? = some (.cells #[.bool t] 4 (0, 0)) ∧ Below w.heap.size w wr
theorem PosX.cells {w wr : World} {t : Bool} {r : Nat × Nat} (h : PosX w r t wr) : wr.cell? ⟨w.heap.size, 0, none⟩ = some (.complex .f64 r.1 r.2) ∧ wr.frozen? ⟨w.heap.size, 0, none⟩ = false ∧ wr.cell? ⟨w.heap.size + 1, 0, none⟩ = some (.bool t) ∧ wr.frozen? ⟨w.heap.size + 1, 0, none⟩ = false :=
  ⟨cell_of_row _ _ 0 _ _ _ h.1, (cell_at h.1 rfl Nat.one_pos).choose_spec.2, cell_of_row _ _ 0 _ _ _ h.2.1, (cell_at h.2.1 rfl Nat.one_pos).choose_spec.2⟩
theorem PosX.step {w w1 w2 : World} {t : Bool} {r : Nat × Nat} (h : PosX w r t w1) (k : Below w1.heap.size w1 w2) : PosX w r t w2 := by
  have hz := block_lt h.2.1
  exact ⟨(k.block _ (by omega)).trans h.1, (k.block _ (by omega)).trans h.2.1, h.2.2.trans (k.mono (by omega))⟩
theorem PosX.set0 {w wr : World} {t : Bool} {r : Nat × Nat} (h : PosX w r t wr) (r' : Nat × Nat) : PosX w r' t (wr.setCell ⟨w.heap.size, 0, none⟩ (.complex .f64 r'.1 r'.2)) := by
  have a0 := heap_set_self (k := 0) h.1 (.complex .f64 r'.1 r'.2)
  exact ⟨by simpa using a0, (Below.heap_setCell _ _ _ _ (show w.heap.size + 1 ≠ w.heap.size by omega)).trans h.2.1, h.2.2.setCell (p := ⟨w.heap.size, 0, none⟩) (Nat.le_refl _) _⟩
theorem PosX.set1 {w wr : World} {t : Bool} {r : Nat × Nat} (h : PosX w r t wr) (t' : Bool) : PosX w r t' (wr.setCell ⟨w.heap.size + 1, 0, none⟩ (.bool t')) := by
  have a0 := heap_set_self (k := 0) h.2.1 (.bool t')
  exact ⟨(Below.heap_setCell _ _ _ _ (show w.heap.size ≠ w.heap.size + 1 by omega)).trans h.1, by simpa using a0, h.2.2.setCell (p := ⟨w.heap.size + 1, 0, none⟩) (Nat.le_succ _) _⟩
theorem PosX.drew {w wr : World} {t : Bool} {r : Nat × Nat} (h : PosX w r t wr) : PosX w r t wr.drew := ⟨h.1, h.2.1, h.2.2.drew⟩
theorem PosX.new (w : World) (r : Nat × Nat) (t : Bool) : PosX w r t ((w.alloc (.cells #[.complex .f64 r.1 r.2] 24)).alloc (.cells #[.bool t] 4)) := by
  refine ⟨(Below.heap_alloc (w.alloc (.cells #[.complex .f64 r.1 r.2] 24)) (.cells #[.bool t] 4) w.heap.size (by simp)).trans (heap_alloc_new w (.cells #[.complex .f64 r.1 r.2] 24)), ?_, ((Below.refl _ w).alloc (Nat.le_refl _) _).alloc (by simp) _⟩
  have H1 := heap_alloc_new (w.alloc (.cells #[.complex .f64 r.1 r.2] 24)) (.cells #[.bool t] 4)
  rw [World.size_alloc] at H1
  exact H1

/-- The door of FixOf. -/
theorem doorX {fn : Func} {tmps : Array Value} {w W : World} {t : Bool} {c : Nat × Nat} (hres : fn.results = #[.cell 8 24, .cell 9 4])
    (h6 : tmps.getD 8 undef = .pointer (some ⟨w.heap.size, 0, none⟩)) (h7 : tmps.getD 9 undef = .pointer (some ⟨w.heap.size + 1, 0, none⟩)) (H : PosX w c t W) :
    bodyPostD Try.prog fn (fun e w' => e = .returned (.tuple #[.complex .f64 (if t = true then c else (0, 0)).1 (if t = true then c else (0, 0)).2, .bool t]) ∧ Below w.heap.size w w') Exit.ret
      { tmps := tmps, defers := [{ target := Target.fn (Fn.func 36) #[], args := #[.pointer (some ⟨w.heap.size + 1, 0, none⟩), .pointer (some ⟨w.heap.size, 0, none⟩)] }] } W := by
  obtain ⟨k0, f0, k1, f1⟩ := H.cells
  refine leaves_cons (f := 36) (args := #[.pointer (some ⟨w.heap.size + 1, 0, none⟩), .pointer (some ⟨w.heap.size, 0, none⟩)]) (by simp) (by simp [go_sem]) ?_
  refine (i_reset _ _ t _ .returning _ k1 k0 f0).mono ?_
  rintro e u' w'' ⟨rfl, rfl, rfl⟩
  cases t
  · have H2 := H.set0 (0, 0)
    obtain ⟨k0', _, k1', _⟩ := H2.cells
    exact ⟨_, res_cells2 hres _ _ _ _ _ _ h6 h7 (run_loadVar_one Try.underlying24 rfl k0') (run_loadVar_one Try.underlying4 rfl k1'), rfl, H2.2.2⟩
  · exact ⟨_, res_cells2 hres _ _ _ _ _ _ h6 h7 (run_loadVar_one Try.underlying24 rfl k0) (run_loadVar_one Try.underlying4 rfl k1), rfl, H.2.2⟩
set_option maxRecDepth 100000 in
set_option maxHeartbeats 2000000 in
theorem i_fix_no (a b : Nat × Nat) (ka kb : Int) (w : World) (ha : W64 a) (hb : W64 b) (hno : (vcB a && vcB b && spanB ka kb) = false) :
    Calls Try.prog 22 #[.complex .f64 a.1 a.2, .int .i64 ka, .complex .f64 b.1 b.2, .int .i64 kb] w fun e w' => e = .returned (.tuple #[.complex .f64 0 0, .bool false]) ∧ Below w.heap.size w w' := by
  have ca := fun w => i_vecB a w ha
  have cb := fun w => i_vecB b w hb
  have cc := fun w => i_btw ka kb w
  have HP := Lib.hid (PosX.new w (0, 0) false)
  generalize vcB a = t1 at *
  generalize vcB b = t2 at *
  obtain ⟨a1, a2⟩ := a
  obtain ⟨b1, b2⟩ := b
  dsimp only at *
  clear ha hb
  have hq : t1 = false ∨ (t1 = true ∧ t2 = false) ∨ (t1 = true ∧ t2 = true ∧ btw ka kb < 20) ∨ (t1 = true ∧ t2 = true ∧ ¬ btw ka kb < 20 ∧ 160 < btw ka kb) := by
    cases t1
    · left; rfl
    · cases t2
      · right; left; exact ⟨rfl, rfl⟩
      · right; right
        have h3 : ¬ (20 ≤ btw ka kb ∧ btw ka kb ≤ 160) := by unfold spanB at hno; simpa using hno
        rcases Int.lt_or_le (btw ka kb) 20 with g | g
        · left; exact ⟨rfl, rfl, g⟩
        · right; exact ⟨rfl, rfl, by omega, by omega⟩
  clear hno
  generalize btw ka kb = c at *
  rcases hq with rfl | ⟨rfl, rfl⟩ | ⟨rfl, rfl, hc⟩ | ⟨rfl, rfl, hc, hc2⟩
  all_goals
    go_enter_defers Try.func22, Try.ntmps22
    go_wp2_with (first
      | (go_at_call 60; ((with_reducible refine (cc _).mono ?_); rintro e w' ⟨rfl, rfl⟩))
      | (go_at_call 37; ((with_reducible refine (ca _).mono ?_); rintro e w' ⟨rfl, rfl⟩))
      | (go_at_call 37; ((with_reducible refine (cb _).mono ?_); rintro e w' ⟨rfl, rfl⟩)))
    exact doorX (c := (0, 0)) (t := false) (by rfl) (by rfl) (by rfl) HP.out
end Go.Proofs.Ytonfenekjocopaa
