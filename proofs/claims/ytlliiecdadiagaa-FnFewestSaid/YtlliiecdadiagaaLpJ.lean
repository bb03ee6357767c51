/- The laws' own copies of sails and moments; sizes, comparisons. -/
import Derived.Test.YtlliiecdadiagaaLpC
import Derived.Test.YtlliiecdadiagaaWd
import Derived.Test.YtlliiecdadiagaaFA
import Derived.Deep.RegionWith
namespace Go.Proofs.Ytlliiecdadiagaa
open Go.RowKit Ieee
set_option linter.unusedVariables false
set_option linter.unusedSimpArgs false

/-- Widening at any word: one word, or what is no number. -/
theorem wide_any11 (src dst : TypeId) (hs : (Try.prog.underlying src).isSome = true) (hd : Try.prog.underlying dst = some (.float .f64)) (x : Nat) (hx : x < 4294967296) :
    (∃ y, ∀ w, (convert src dst (.float .f32 x)).run Try.prog w = .ok (.float .f64 y) w) ∨
    ∃ nb : World → Nat, (∀ w z, FloatKind.f64.format.order (nb w) z = none) ∧ ∀ w, (convert src dst (.float .f32 x)).run Try.prog w = .ok (.float .f64 (nb w)) w.drew := by
  cases h : floatToFloatBits .f32 x .f64 with
  | some r => exact .inl ⟨r, fun w => run_convert_float_float (P := Try.prog) w src dst .f32 .f64 x r hs hd h⟩
  | none =>
    right
    obtain ⟨u, hs'⟩ := Option.isSome_iff_exists.1 hs
    unfold floatToFloatBits at h
    rw [if_neg (by decide)] at h
    split at h
    · rename_i a b he
      refine ⟨fun w => (Question.nanConv .f64 x).cut (w.tape w.drawn (.nanConv .f64 x)), fun w => ?_, fun w => ?_⟩
      · obtain ⟨_, _, h2, _⟩ := nan_cut 0 0 (w.tape w.drawn (.nanConv .f64 x)) _ rfl
        exact h2
      · cases u <;> simp [convert, run_underlying hs', run_underlying hd, Conv.floatToFloat, he, Question.forced]
    · cases h
    · rename_i s m e he
      split at h
      · rename_i ho
        exfalso
        have hn : S.isNum x := S.isNum_of he
        have := (wid_num hx hn).1
        unfold floatToFloatBits at this
        rw [if_neg (by decide), he] at this
        simp only [ho, if_true] at this
        cases this
      · cases h
set_option maxHeartbeats 400000 in
theorem same_nan11 (x y : Nat) (w : World) (hx : ∀ z, FloatKind.f64.format.order x z = none) (hy : ∀ z, FloatKind.f64.format.order y z = none) :
    Calls Try.prog 82 #[.float .f64 x, .float .f64 y] w fun e w' => e = .returned (.bool true) ∧ w = w' := by
  have h1 := hx x
  have h2 := hy y
  clear hx hy
  go_enter Try.func82, Try.ntmps82
  go_wp2
  go_ret
  exact ⟨rfl, rfl⟩

theorem st_newB (P : Program) (W : World) (x y z u r v : Value) (t : TypeId) (o : Obj) (k : Nat) (hk : k < 5) (hv : v.oneCell' = true) :
    (store ⟨W.heap.size, k, none⟩ v).run P ((W.alloc (.cells #[x, y, z, u, r] t)).alloc o) = .ok () (((W.alloc (.cells #[x, y, z, u, r] t)).alloc o).setCell ⟨W.heap.size, k, none⟩ v) :=
  store_at (n := 5) (by rw [Below.heap_alloc _ _ _ (by simp)]; exact heap_alloc_new W (.cells #[x, y, z, u, r] t)) rfl hk v hv
theorem st_new2 (P : Program) (W : World) (x y v : Value) (t : TypeId) (k : Nat) (hk : k < 2) (hv : v.oneCell' = true) :
    (store ⟨W.heap.size, k, none⟩ v).run P (W.alloc (.cells #[x, y] t)) = .ok () ((W.alloc (.cells #[x, y] t)).setCell ⟨W.heap.size, k, none⟩ v) :=
  store_at (n := 2) (heap_alloc_new W (.cells #[x, y] t)) rfl hk v hv
theorem st_newB2 (P : Program) (W : World) (x y v : Value) (t : TypeId) (o : Obj) (k : Nat) (hk : k < 2) (hv : v.oneCell' = true) :
    (store ⟨W.heap.size, k, none⟩ v).run P ((W.alloc (.cells #[x, y] t)).alloc o) = .ok () (((W.alloc (.cells #[x, y] t)).alloc o).setCell ⟨W.heap.size, k, none⟩ v) :=
  store_at (n := 2) (by rw [Below.heap_alloc _ _ _ (by simp)]; exact heap_alloc_new W (.cells #[x, y] t)) rfl hk v hv
theorem Try.infoSl : (Try.prog.info? 40).map (·.size) = some 5 := by kernel_rfl
set_option maxRecDepth 100000 in
set_option maxHeartbeats 1000000 in
theorem l_sail (s : Sl) (w : World) :
    Calls Try.prog 34 #[.agg #[.string s.nm, .float .f32 s.lo, .float .f32 s.hi, .int .i64 s.fr, .int .i64 s.to]] w fun e w' => e = .returned (.agg #[.string s.nm, .float .f32 s.lo, .float .f32 s.hi, .int .i64 s.fr, .int .i64 s.to]) ∧ Below w.heap.size w w' := by
  have a0 := fun (x y z u r : Value) => st_new5 Try.prog ((w.alloc (.cells #[.string s.nm, .float .f32 s.lo, .float .f32 s.hi, .int .i64 s.fr, .int .i64 s.to] 51)).alloc (.cells #[.string ⟨#[]⟩, .float .f32 0, .float .f32 0, .int .i64 0, .int .i64 0] 40)) x y z u r (.string s.nm) 40 0 (by omega) rfl
  have b0 := fun (x y z u r : Value) (o : Obj) => st_newB Try.prog (w.alloc (.cells #[.string s.nm, .float .f32 s.lo, .float .f32 s.hi, .int .i64 s.fr, .int .i64 s.to] 51)) x y z u r (.string s.nm) 40 o 0 (by omega) rfl
  have a1 := fun (x y z u r : Value) => st_new5 Try.prog ((w.alloc (.cells #[.string s.nm, .float .f32 s.lo, .float .f32 s.hi, .int .i64 s.fr, .int .i64 s.to] 51)).alloc (.cells #[.string ⟨#[]⟩, .float .f32 0, .float .f32 0, .int .i64 0, .int .i64 0] 40)) x y z u r (.float .f32 s.lo) 40 1 (by omega) rfl
  have b1 := fun (x y z u r : Value) (o : Obj) => st_newB Try.prog (w.alloc (.cells #[.string s.nm, .float .f32 s.lo, .float .f32 s.hi, .int .i64 s.fr, .int .i64 s.to] 51)) x y z u r (.float .f32 s.lo) 40 o 1 (by omega) rfl
  have a2 := fun (x y z u r : Value) => st_new5 Try.prog ((w.alloc (.cells #[.string s.nm, .float .f32 s.lo, .float .f32 s.hi, .int .i64 s.fr, .int .i64 s.to] 51)).alloc (.cells #[.string ⟨#[]⟩, .float .f32 0, .float .f32 0, .int .i64 0, .int .i64 0] 40)) x y z u r (.float .f32 s.hi) 40 2 (by omega) rfl
  have b2 := fun (x y z u r : Value) (o : Obj) => st_newB Try.prog (w.alloc (.cells #[.string s.nm, .float .f32 s.lo, .float .f32 s.hi, .int .i64 s.fr, .int .i64 s.to] 51)) x y z u r (.float .f32 s.hi) 40 o 2 (by omega) rfl
  have a3 := fun (x y z u r : Value) => st_new5 Try.prog ((w.alloc (.cells #[.string s.nm, .float .f32 s.lo, .float .f32 s.hi, .int .i64 s.fr, .int .i64 s.to] 51)).alloc (.cells #[.string ⟨#[]⟩, .float .f32 0, .float .f32 0, .int .i64 0, .int .i64 0] 40)) x y z u r (.int .i64 s.fr) 40 3 (by omega) rfl
  have b3 := fun (x y z u r : Value) (o : Obj) => st_newB Try.prog (w.alloc (.cells #[.string s.nm, .float .f32 s.lo, .float .f32 s.hi, .int .i64 s.fr, .int .i64 s.to] 51)) x y z u r (.int .i64 s.fr) 40 o 3 (by omega) rfl
  have a4 := fun (x y z u r : Value) => st_new5 Try.prog ((w.alloc (.cells #[.string s.nm, .float .f32 s.lo, .float .f32 s.hi, .int .i64 s.fr, .int .i64 s.to] 51)).alloc (.cells #[.string ⟨#[]⟩, .float .f32 0, .float .f32 0, .int .i64 0, .int .i64 0] 40)) x y z u r (.int .i64 s.to) 40 4 (by omega) rfl
  have b4 := fun (x y z u r : Value) (o : Obj) => st_newB Try.prog (w.alloc (.cells #[.string s.nm, .float .f32 s.lo, .float .f32 s.hi, .int .i64 s.fr, .int .i64 s.to] 51)) x y z u r (.int .i64 s.to) 40 o 4 (by omega) rfl
  simp only [World.size_alloc] at a0 a1 a2 a3 a4 b0 b1 b2 b3 b4
  have p9 : (((w.alloc (.cells #[.string s.nm, .float .f32 s.lo, .float .f32 s.hi, .int .i64 s.fr, .int .i64 s.to] 51)).alloc (.cells #[.string s.nm, .float .f32 s.lo, .float .f32 s.hi, .int .i64 s.fr, .int .i64 s.to] 40)).alloc (.cells #[.string s.nm, .float .f32 s.lo, .float .f32 s.hi, .int .i64 s.fr, .int .i64 s.to] 40)).heap[w.heap.size + 1]? = some (.cells #[.string s.nm, .float .f32 s.lo, .float .f32 s.hi, .int .i64 s.fr, .int .i64 s.to] 40 (0, 0)) := by
    have p := heap_alloc_new (w.alloc (.cells #[.string s.nm, .float .f32 s.lo, .float .f32 s.hi, .int .i64 s.fr, .int .i64 s.to] 51)) (.cells #[.string s.nm, .float .f32 s.lo, .float .f32 s.hi, .int .i64 s.fr, .int .i64 s.to] 40)
    rw [World.size_alloc] at p
    rw [Below.heap_alloc _ _ _ (by simp)]
    exact p
  have HP := Lib.hid p9
  clear p9
  go_enter Try.func34, Try.ntmps34
  go_wp2
  exact bodyPost_ret (v := .agg #[.string s.nm, .float .f32 s.lo, .float .f32 s.hi, .int .i64 s.fr, .int .i64 s.to]) (results_cell_row (p := 2) (ty := 40) (by rfl) _ _ (w.heap.size + 1) _ #[.string s.nm, .float .f32 s.lo, .float .f32 s.hi, .int .i64 s.fr, .int .i64 s.to] (0, 0) _ (by rfl) HP.out Try.underlying40 rfl Try.infoSl) rfl
    ⟨rfl, (((Below.refl _ w).alloc (Nat.le_refl _) _).alloc (by simp) _).alloc (by simp; omega) _⟩
theorem Try.infoMm : (Try.prog.info? 42).map (·.size) = some 2 := by kernel_rfl
set_option maxRecDepth 100000 in
set_option maxHeartbeats 1000000 in
theorem l_mom (m : Mm) (w : World) :
    Calls Try.prog 35 #[.agg #[.float .f32 m.1, .int .i64 m.2]] w fun e w' => e = .returned (.agg #[.float .f32 m.1, .int .i64 m.2]) ∧ Below w.heap.size w w' := by
  have a0 := fun (x y : Value) => st_new2 Try.prog ((w.alloc (.cells #[.float .f32 m.1, .int .i64 m.2] 52)).alloc (.cells #[.float .f32 0, .int .i64 0] 42)) x y (.float .f32 m.1) 42 0 (by omega) rfl
  have b0 := fun (x y : Value) (o : Obj) => st_newB2 Try.prog (w.alloc (.cells #[.float .f32 m.1, .int .i64 m.2] 52)) x y (.float .f32 m.1) 42 o 0 (by omega) rfl
  have a1 := fun (x y : Value) => st_new2 Try.prog ((w.alloc (.cells #[.float .f32 m.1, .int .i64 m.2] 52)).alloc (.cells #[.float .f32 0, .int .i64 0] 42)) x y (.int .i64 m.2) 42 1 (by omega) rfl
  have b1 := fun (x y : Value) (o : Obj) => st_newB2 Try.prog (w.alloc (.cells #[.float .f32 m.1, .int .i64 m.2] 52)) x y (.int .i64 m.2) 42 o 1 (by omega) rfl
  simp only [World.size_alloc] at a0 a1 b0 b1
  have p9 : (((w.alloc (.cells #[.float .f32 m.1, .int .i64 m.2] 52)).alloc (.cells #[.float .f32 m.1, .int .i64 m.2] 42)).alloc (.cells #[.float .f32 m.1, .int .i64 m.2] 42)).heap[w.heap.size + 1]? = some (.cells #[.float .f32 m.1, .int .i64 m.2] 42 (0, 0)) := by
    have p := heap_alloc_new (w.alloc (.cells #[.float .f32 m.1, .int .i64 m.2] 52)) (.cells #[.float .f32 m.1, .int .i64 m.2] 42)
    rw [World.size_alloc] at p
    rw [Below.heap_alloc _ _ _ (by simp)]
    exact p
  have HP := Lib.hid p9
  clear p9
  go_enter Try.func35, Try.ntmps35
  go_wp2
  exact bodyPost_ret (v := .agg #[.float .f32 m.1, .int .i64 m.2]) (results_cell_row (p := 2) (ty := 42) (by rfl) _ _ (w.heap.size + 1) _ #[.float .f32 m.1, .int .i64 m.2] (0, 0) _ (by rfl) HP.out Try.underlying42 rfl Try.infoMm) rfl
    ⟨rfl, (((Below.refl _ w).alloc (Nat.le_refl _) _).alloc (by simp) _).alloc (by simp; omega) _⟩
set_option maxRecDepth 100000 in
set_option maxHeartbeats 1000000 in
theorem l_eqSl (s : Sl) (w : World) (hw : SlWf s) :
    Calls Try.prog 70 #[.agg #[.string s.nm, .float .f32 s.lo, .float .f32 s.hi, .int .i64 s.fr, .int .i64 s.to], .agg #[.string s.nm, .float .f32 s.lo, .float .f32 s.hi, .int .i64 s.fr, .int .i64 s.to]] w fun e w' => e = .returned (.bool true) ∧ Below w.heap.size w w' := by
  have h32 : (Try.prog.underlying 38).isSome = true := by rw [Try.underlying38]; rfl
  obtain ⟨_, w1, w2, _⟩ := hw
  have q1 : (s.nm.toList == s.nm.toList) = true := by simp
  have q2 : (s.fr == s.fr) = true := by simp
  have q3 : (s.to == s.to) = true := by simp
  have hs := Lib.hid (Bx2.new w #[.string s.nm, .float .f32 s.lo, .float .f32 s.hi, .int .i64 s.fr, .int .i64 s.to] 40 #[.string s.nm, .float .f32 s.lo, .float .f32 s.hi, .int .i64 s.fr, .int .i64 s.to] 40)
  obtain ⟨c0, c1, c2, c3, c4⟩ := cells5 hs.out.1
  obtain ⟨d0, d1, d2, d3, d4⟩ := cells5 hs.out.2.1
  rcases wide_any11 38 109 h32 Try.underlying109 s.lo w1 with ⟨y, hy⟩ | ⟨nb, hnb, hy⟩
  all_goals
    rcases wide_any11 38 109 h32 Try.underlying109 s.hi w2 with ⟨z, hz⟩ | ⟨nc, hnc, hz⟩
  all_goals
    go_enter Try.func70, Try.ntmps70
    go_wp2_with fail
    first
      | (refine (same_float y _).mono ?_; rintro e w3 ⟨rfl, rfl⟩)
      | (refine (same_nan11 _ _ _ (hnb _) (hnb _)).mono ?_; rintro e w3 ⟨rfl, rfl⟩)
    go_wp2_with fail
    first
      | (refine (same_float z _).mono ?_; rintro e w4 ⟨rfl, rfl⟩)
      | (refine (same_nan11 _ _ _ (hnc _) (hnc _)).mono ?_; rintro e w4 ⟨rfl, rfl⟩)
    go_wp2
    go_ret
    first
      | exact ⟨rfl, hs.out.2.2⟩
      | exact ⟨rfl, hs.out.2.2.drew.drew⟩
      | exact ⟨rfl, hs.out.2.2.drew.drew.drew.drew⟩
set_option maxRecDepth 100000 in
set_option maxHeartbeats 1000000 in
theorem l_eqMm (m : Mm) (w : World) (hw : MmWf m) :
    Calls Try.prog 71 #[.agg #[.float .f32 m.1, .int .i64 m.2], .agg #[.float .f32 m.1, .int .i64 m.2]] w fun e w' => e = .returned (.bool true) ∧ Below w.heap.size w w' := by
  have h32 : (Try.prog.underlying 38).isSome = true := by rw [Try.underlying38]; rfl
  obtain ⟨w1, _⟩ := hw
  have q2 : (m.2 == m.2) = true := by simp
  have hs := Lib.hid (Bx2.new w #[.float .f32 m.1, .int .i64 m.2] 42 #[.float .f32 m.1, .int .i64 m.2] 42)
  obtain ⟨c0, c1⟩ : _ ∧ _ := ⟨cell_of_row _ _ 0 _ _ _ hs.out.1, cell_of_row _ _ 1 _ _ _ hs.out.1⟩
  obtain ⟨d0, d1⟩ : _ ∧ _ := ⟨cell_of_row _ _ 0 _ _ _ hs.out.2.1, cell_of_row _ _ 1 _ _ _ hs.out.2.1⟩
  rcases wide_any11 38 109 h32 Try.underlying109 m.1 w1 with ⟨y, hy⟩ | ⟨nb, hnb, hy⟩
  all_goals
    go_enter Try.func71, Try.ntmps71
    go_wp2_with fail
    first
      | (refine (same_float y _).mono ?_; rintro e w3 ⟨rfl, rfl⟩)
      | (refine (same_nan11 _ _ _ (hnb _) (hnb _)).mono ?_; rintro e w3 ⟨rfl, rfl⟩)
    go_wp2
    go_ret
    first
      | exact ⟨rfl, hs.out.2.2⟩
      | exact ⟨rfl, hs.out.2.2.drew.drew⟩
end Go.Proofs.Ytlliiecdadiagaa
