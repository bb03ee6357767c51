/- Courses (spec): marks in memory; origins, CourseOk, dots, PassRay. -/
import Derived.Test.YthahakefmpajfaaLiC
import Derived.Test.YthahakefmpajfaaLkB
import Derived.Laws.StructEq
namespace Go.Proofs.Ythahakefmpajfaa
open Go.RowKit
set_option linter.unusedVariables false
set_option linter.unusedSimpArgs false

/-- The marks that lie in a block, from a cell on. -/
def MksIn (w : World) (g o n : Nat) (f : Nat → Mk) : Prop := ∀ j, j < n → w.cell? ⟨g, o + j * 3, none⟩ = some (.int .i64 (f j).1.1) ∧ w.cell? ⟨g, o + j * 3 + 1, none⟩ = some (.int .i64 (f j).1.2) ∧ w.cell? ⟨g, o + j * 3 + 2, none⟩ = some (.bool (f j).2)
theorem MksIn.same {w w' : World} {g o n : Nat} {f : Nat → Mk} (h : MksIn w g o n f) (hs : w'.heap[g]? = w.heap[g]?) : MksIn w' g o n f := fun j hj => by
  obtain ⟨a, b, c⟩ := h j hj
  have e : ∀ k, w'.cell? ⟨g, k, none⟩ = w.cell? ⟨g, k, none⟩ := fun k => by simp only [World.cell?, hs]
  exact ⟨(e _).trans a, (e _).trans b, (e _).trans c⟩
theorem MksIn.lt {w : World} {g o n : Nat} {f : Nat → Mk} (h : MksIn w g o n f) (hn : 0 < n) : g < w.heap.size := by
  obtain ⟨a, _⟩ := h 0 hn
  rcases Nat.lt_or_ge g w.heap.size with h' | h'
  · exact h'
  · simp [World.cell?, Array.getElem?_eq_none h'] at a
theorem MksIn.below {w w' : World} {B g o n : Nat} {f : Nat → Mk} (h : MksIn w g o n f) (hb : Below B w w') (hB : w.heap.size ≤ B) : MksIn w' g o n f := fun j hj => by
  have hg := h.lt (by omega)
  exact h.same (hb.block g (by omega)) j hj
/-- A course in a box, and its marks. -/
def CoS (w : World) (c : Array Value) (ty : TypeId) (g o n : Nat) (f : Nat → Mk) (wr : World) : Prop := Bx1 w c ty wr ∧ MksIn wr g o n f
theorem CoS.step {w w1 w2 : World} {c : Array Value} {ty : TypeId} {g o n : Nat} {f : Nat → Mk} (h : CoS w c ty g o n f w1) (b : Below w1.heap.size w1 w2) : CoS w c ty g o n f w2 := ⟨h.1.step b, h.2.below b (Nat.le_refl _)⟩
theorem CoS.drew {w w1 : World} {c : Array Value} {ty : TypeId} {g o n : Nat} {f : Nat → Mk} (h : CoS w c ty g o n f w1) : CoS w c ty g o n f w1.drew := ⟨h.1.drew, h.2⟩
theorem CoS.below {w w1 : World} {c : Array Value} {ty : TypeId} {g o n : Nat} {f : Nat → Mk} (h : CoS w c ty g o n f w1) : Below w.heap.size w w1 := h.1.2
theorem CoS.new {w : World} {c : Array Value} {ty : TypeId} {g o n : Nat} {f : Nat → Mk} (h : MksIn w g o n f) : CoS w c ty g o n f (w.alloc (.cells c ty)) :=
  ⟨Bx1.new w c ty, h.below ((Below.refl _ w).alloc (Nat.le_refl _) _) (Nat.le_refl _)⟩
theorem cells9 {w : World} {g : Nat} {t : TypeId} {a0 a1 a2 a3 a4 a5 a6 a7 a8 : Value} (h : w.heap[g]? = some (.cells #[a0, a1, a2, a3, a4, a5, a6, a7, a8] t (0, 0))) :
    w.cell? ⟨g, 0, none⟩ = some a0 ∧ w.cell? ⟨g, 1, none⟩ = some a1 ∧ w.cell? ⟨g, 2, none⟩ = some a2 ∧ w.cell? ⟨g, 3, none⟩ = some a3 ∧ w.cell? ⟨g, 4, none⟩ = some a4 ∧ w.cell? ⟨g, 5, none⟩ = some a5 ∧ w.cell? ⟨g, 6, none⟩ = some a6 ∧ w.cell? ⟨g, 7, none⟩ = some a7 ∧ w.cell? ⟨g, 8, none⟩ = some a8 :=
  ⟨cell_of_row w _ 0 _ _ _ h, cell_of_row w _ 1 _ _ _ h, cell_of_row w _ 2 _ _ _ h, cell_of_row w _ 3 _ _ _ h, cell_of_row w _ 4 _ _ _ h, cell_of_row w _ 5 _ _ _ h, cell_of_row w _ 6 _ _ _ h, cell_of_row w _ 7 _ _ _ h, cell_of_row w _ 8 _ _ _ h⟩
theorem Try.infoPl4 : (Try.prog.info? 25).map (·.size) = some 2 := by kernel_rfl
set_option maxRecDepth 100000 in
set_option maxHeartbeats 1000000 in
theorem s_org (c : Crs) (A : Option Addr) (g o cap : Nat) (k : Nat) (w : World) (hk : k ≤ c.n) (hn : c.n ≤ 1048576) (hA : 0 < c.n → A = some ⟨g, o, none⟩) (hw : MksIn w g o c.n c.mf) :
    Calls Try.prog 60 #[.agg #[.int .i64 c.st.1.1, .int .i64 c.st.1.2, .int .i64 c.st.2.1, .int .i64 c.st.2.2, .slice A c.n cap, .int .i64 c.fi.1.1, .int .i64 c.fi.1.2, .int .i64 c.fi.2.1, .int .i64 c.fi.2.2], .int .i64 k] w
      fun e w' => e = .returned (.agg #[.int .i64 (orgW c k).1, .int .i64 (orgW c k).2]) ∧ Below w.heap.size w w' := by
  unfold orgW
  obtain ⟨⟨⟨x1, x2⟩, x3, x4⟩, n, f, ⟨t1, t2⟩, t3, t4⟩ := c
  dsimp only at *
  by_cases hk0 : k = 0
  · rw [if_pos hk0]
    subst hk0
    have k0 := ((Bxs.nil (Below.refl w.heap.size w)).add rfl #[.int .i64 x1, .int .i64 x2, .int .i64 x3, .int .i64 x4, .slice A n cap, .int .i64 t1, .int .i64 t2, .int .i64 t3, .int .i64 t4] 36).add (q := w.heap.size + 1) (by simp) #[.int .i64 x1, .int .i64 x2] 25
    have HB := Lib.hid (And.intro (k0.1 _ (.head _)) k0.2)
    clear k0 hw hA
    go_enter Try.func60, Try.ntmps60
    go_wp2
    exact bodyPost_ret (v := .agg #[.int .i64 x1, .int .i64 x2]) (results_cell_row (p := 4) (ty := 25) (by rfl) _ _ (w.heap.size + 1) _ #[.int .i64 x1, .int .i64 x2] (0, 0) _ (by rfl) HB.out.1 Try.underlying25 rfl Try.infoPl4) rfl
      ⟨rfl, HB.out.2⟩
  · rw [if_neg hk0]
    obtain rfl := hA (by omega)
    obtain ⟨⟨⟨y1, y2⟩, y3⟩, hy⟩ : ∃ s, f (k - 1) = s := ⟨_, rfl⟩
    obtain ⟨d0, d1, d2⟩ := hw (k - 1) (by omega)
    have hg := hw.lt (by omega)
    rw [hy] at d0 d1 d2 ⊢
    dsimp only at d0 d1 d2 ⊢
    have k0 := ((Bxs.nil (Below.refl w.heap.size w)).add rfl #[.int .i64 x1, .int .i64 x2, .int .i64 x3, .int .i64 x4, .slice (some ⟨g, o, none⟩) n cap, .int .i64 t1, .int .i64 t2, .int .i64 t3, .int .i64 t4] 36)
    have k1 := k0.add (q := w.heap.size + 1) (by simp) #[.int .i64 y1, .int .i64 y2] 25
    have k2 := k0.add (q := w.heap.size + 1) (by simp) #[.int .i64 0, .int .i64 0] 25
    have d3 := (Below.cell (p := ⟨g, o + (k - 1) * 3, none⟩) k2.2 hg).trans d0
    have d4 := (Below.cell (p := ⟨g, o + (k - 1) * 3 + 1, none⟩) k2.2 hg).trans d1
    have HB := Lib.hid (And.intro (k1.1 _ (.head _)) k1.2)
    have hz : (((k : Int)) == 0) = false := by rw [beq_eq_false_iff_ne]; omega
    have hz2 : ¬ ((k : Int)) = 0 := by omega
    have hidx : (k : Int) - 1 = ((k - 1 : Nat) : Int) := by omega
    have hidx2 : ((k - 1 : Nat) : Int) < (n : Int) := by omega
    have hidx4 : (0 : Int) ≤ ((k - 1 : Nat) : Int) := by omega
    clear k0 k1 k2 hw hA d0 d1 d2
    go_enter Try.func60, Try.ntmps60
    go_wp2
    exact bodyPost_ret (v := .agg #[.int .i64 y1, .int .i64 y2]) (results_cell_row (p := 4) (ty := 25) (by rfl) _ _ (w.heap.size + 1) _ #[.int .i64 y1, .int .i64 y2] (0, 0) _ (by rfl) HB.out.1 Try.underlying25 rfl Try.infoPl4) rfl
      ⟨rfl, HB.out.2⟩
set_option maxRecDepth 100000 in
set_option maxHeartbeats 1000000 in
theorem s_dtx (a b c d : Int × Int) (w : World) (ha : plB a = true) (hb : plB b = true) (hc : plB c = true) (hd : plB d = true) :
    Calls Try.prog 50 #[.agg #[.int .i64 a.1, .int .i64 a.2], .agg #[.int .i64 b.1, .int .i64 b.2], .agg #[.int .i64 c.1, .int .i64 c.2], .agg #[.int .i64 d.1, .int .i64 d.2]] w
      fun e w' => e = .returned (.int .i64 (dtx a b c d)) ∧ Below w.heap.size w w' := by
  obtain ⟨⟨m1, m2⟩, ⟨m3, m4⟩, ⟨m5, m6⟩, ⟨m7, m8⟩, ⟨p1, p2⟩, ⟨q1, q2⟩, r1, r2⟩ := dtx_bd ha hb hc hd
  have b4 := ((((Below.refl w.heap.size w).alloc (Nat.le_refl _) (.cells #[.int .i64 a.1, .int .i64 a.2] 25)).alloc (by simp) (.cells #[.int .i64 b.1, .int .i64 b.2] 25)).alloc (by simp; omega) (.cells #[.int .i64 c.1, .int .i64 c.2] 25)).alloc (by simp; omega) (.cells #[.int .i64 d.1, .int .i64 d.2] 25)
  unfold dtx at *
  clear ha hb hc hd
  obtain ⟨a1, a2⟩ := a
  obtain ⟨b1, b2⟩ := b
  obtain ⟨c1, c2⟩ := c
  obtain ⟨d1, d2⟩ := d
  dsimp only at *
  go_enter Try.func50, Try.ntmps50
  go_wp2
  go_ret
  exact ⟨rfl, b4⟩
theorem cells2p {w : World} {g : Nat} {t : TypeId} {a b : Value} (h : w.heap[g]? = some (.cells #[a, b] t (0, 0))) : w.cell? ⟨g, 0, none⟩ = some a ∧ w.cell? ⟨g, 1, none⟩ = some b :=
  ⟨cell_of_row w _ 0 _ _ _ h, cell_of_row w _ 1 _ _ _ h⟩
set_option maxRecDepth 100000 in
set_option maxHeartbeats 4000000 in
theorem s_pr (o m a b : Int × Int) (w : World) :
    Calls Try.prog 17 #[.agg #[.int .i64 o.1, .int .i64 o.2], .agg #[.int .i64 m.1, .int .i64 m.2], .agg #[.int .i64 a.1, .int .i64 a.2], .agg #[.int .i64 b.1, .int .i64 b.2]] w
      fun e w' => e = .returned (.int .i64 (prW o m a b)) ∧ Below w.heap.size w w' := by
  have H1 := Lib.hid (fun w => s_plB o w)
  have H2 := Lib.hid (fun w => s_plB m w)
  have H3 := Lib.hid (fun w => s_plB a w)
  have H4 := Lib.hid (fun w => s_plB b w)
  have hq : (plB o = false ∧ prW o m a b = 0) ∨ (plB o = true ∧ plB m = false ∧ prW o m a b = 0) ∨ (plB o = true ∧ plB m = true ∧ plB a = false ∧ prW o m a b = 0) ∨ (plB o = true ∧ plB m = true ∧ plB a = true ∧ plB b = false ∧ prW o m a b = 0) ∨
      (plB o = true ∧ plB m = true ∧ plB a = true ∧ plB b = true ∧ o = m ∧ prW o m a b = 0) ∨ (plB o = true ∧ plB m = true ∧ plB a = true ∧ plB b = true ∧ ¬ o = m ∧ prW o m a b = prV (crx o m m a) (crx o m m b) (dtx o m m a) (dtx o m m b)) := by
    unfold prW prB
    by_cases e : o = m
    · cases plB o <;> cases plB m <;> cases plB a <;> cases plB b <;> simp [e]
    · cases plB o <;> cases plB m <;> cases plB a <;> cases plB b <;> simp [e]
  rcases hq with ⟨e1, e0⟩ | ⟨e1, e2, e0⟩ | ⟨e1, e2, e3, e0⟩ | ⟨e1, e2, e3, e4, e0⟩ | ⟨e1, e2, e3, e4, e5, e0⟩ | ⟨e1, e2, e3, e4, e5, e0⟩
  · rw [e0]
    rw [e1] at H1
    clear e0 e1
    obtain ⟨o1, o2⟩ := o
    obtain ⟨m1, m2⟩ := m
    obtain ⟨a1, a2⟩ := a
    obtain ⟨b1, b2⟩ := b
    dsimp only at *
    have hs := Lib.hid (((((Bxs.nil (Below.refl w.heap.size w)).add rfl #[.int .i64 o1, .int .i64 o2] 25).add (q := w.heap.size + 1) (by simp) #[.int .i64 m1, .int .i64 m2] 25).add (q := w.heap.size + 2) (by simp) #[.int .i64 a1, .int .i64 a2] 25).add (q := w.heap.size + 3) (by simp) #[.int .i64 b1, .int .i64 b2] 25)
    go_enter Try.func17, Try.ntmps17
    obtain ⟨c00, c01⟩ := cells2p (hs.out.1 _ (.tail _ (.tail _ (.tail _ (.head _)))))
    obtain ⟨c10, c11⟩ := cells2p (hs.out.1 _ (.tail _ (.tail _ (.head _))))
    obtain ⟨c20, c21⟩ := cells2p (hs.out.1 _ (.tail _ (.head _)))
    obtain ⟨c30, c31⟩ := cells2p (hs.out.1 _ (.head _))
    go_wp2_with fail
    refine (H1.out _).mono ?_
    rintro e w1 ⟨rfl, b⟩
    have hs' := Lib.hid (hs.out.step b)
    clear hs b c00 c01 c10 c11 c20 c21 c30 c31
    have hs := hs'
    clear hs'
    go_wp2
    go_ret
    exact ⟨rfl, hs.out.2⟩
  · rw [e0]
    rw [e1] at H1
    rw [e2] at H2
    clear e0 e1 e2
    obtain ⟨o1, o2⟩ := o
    obtain ⟨m1, m2⟩ := m
    obtain ⟨a1, a2⟩ := a
    obtain ⟨b1, b2⟩ := b
    dsimp only at *
    have hs := Lib.hid (((((Bxs.nil (Below.refl w.heap.size w)).add rfl #[.int .i64 o1, .int .i64 o2] 25).add (q := w.heap.size + 1) (by simp) #[.int .i64 m1, .int .i64 m2] 25).add (q := w.heap.size + 2) (by simp) #[.int .i64 a1, .int .i64 a2] 25).add (q := w.heap.size + 3) (by simp) #[.int .i64 b1, .int .i64 b2] 25)
    go_enter Try.func17, Try.ntmps17
    obtain ⟨c00, c01⟩ := cells2p (hs.out.1 _ (.tail _ (.tail _ (.tail _ (.head _)))))
    obtain ⟨c10, c11⟩ := cells2p (hs.out.1 _ (.tail _ (.tail _ (.head _))))
    obtain ⟨c20, c21⟩ := cells2p (hs.out.1 _ (.tail _ (.head _)))
    obtain ⟨c30, c31⟩ := cells2p (hs.out.1 _ (.head _))
    go_wp2_with fail
    refine (H1.out _).mono ?_
    rintro e w1 ⟨rfl, b⟩
    have hs' := Lib.hid (hs.out.step b)
    clear hs b c00 c01 c10 c11 c20 c21 c30 c31
    have hs := hs'
    clear hs'
    obtain ⟨c00, c01⟩ := cells2p (hs.out.1 _ (.tail _ (.tail _ (.tail _ (.head _)))))
    obtain ⟨c10, c11⟩ := cells2p (hs.out.1 _ (.tail _ (.tail _ (.head _))))
    obtain ⟨c20, c21⟩ := cells2p (hs.out.1 _ (.tail _ (.head _)))
    obtain ⟨c30, c31⟩ := cells2p (hs.out.1 _ (.head _))
    go_wp2_with fail
    refine (H2.out _).mono ?_
    rintro e w2 ⟨rfl, b⟩
    have hs' := Lib.hid (hs.out.step b)
    clear hs b c00 c01 c10 c11 c20 c21 c30 c31
    have hs := hs'
    clear hs'
    go_wp2
    go_ret
    exact ⟨rfl, hs.out.2⟩
  · rw [e0]
    rw [e1] at H1
    rw [e2] at H2
    rw [e3] at H3
    clear e0 e1 e2 e3
    obtain ⟨o1, o2⟩ := o
    obtain ⟨m1, m2⟩ := m
    obtain ⟨a1, a2⟩ := a
    obtain ⟨b1, b2⟩ := b
    dsimp only at *
    have hs := Lib.hid (((((Bxs.nil (Below.refl w.heap.size w)).add rfl #[.int .i64 o1, .int .i64 o2] 25).add (q := w.heap.size + 1) (by simp) #[.int .i64 m1, .int .i64 m2] 25).add (q := w.heap.size + 2) (by simp) #[.int .i64 a1, .int .i64 a2] 25).add (q := w.heap.size + 3) (by simp) #[.int .i64 b1, .int .i64 b2] 25)
    go_enter Try.func17, Try.ntmps17
    obtain ⟨c00, c01⟩ := cells2p (hs.out.1 _ (.tail _ (.tail _ (.tail _ (.head _)))))
    obtain ⟨c10, c11⟩ := cells2p (hs.out.1 _ (.tail _ (.tail _ (.head _))))
    obtain ⟨c20, c21⟩ := cells2p (hs.out.1 _ (.tail _ (.head _)))
    obtain ⟨c30, c31⟩ := cells2p (hs.out.1 _ (.head _))
    go_wp2_with fail
    refine (H1.out _).mono ?_
    rintro e w1 ⟨rfl, b⟩
    have hs' := Lib.hid (hs.out.step b)
    clear hs b c00 c01 c10 c11 c20 c21 c30 c31
    have hs := hs'
    clear hs'
    obtain ⟨c00, c01⟩ := cells2p (hs.out.1 _ (.tail _ (.tail _ (.tail _ (.head _)))))
    obtain ⟨c10, c11⟩ := cells2p (hs.out.1 _ (.tail _ (.tail _ (.head _))))
    obtain ⟨c20, c21⟩ := cells2p (hs.out.1 _ (.tail _ (.head _)))
    obtain ⟨c30, c31⟩ := cells2p (hs.out.1 _ (.head _))
    go_wp2_with fail
    refine (H2.out _).mono ?_
    rintro e w2 ⟨rfl, b⟩
    have hs' := Lib.hid (hs.out.step b)
    clear hs b c00 c01 c10 c11 c20 c21 c30 c31
    have hs := hs'
    clear hs'
    obtain ⟨c00, c01⟩ := cells2p (hs.out.1 _ (.tail _ (.tail _ (.tail _ (.head _)))))
    obtain ⟨c10, c11⟩ := cells2p (hs.out.1 _ (.tail _ (.tail _ (.head _))))
    obtain ⟨c20, c21⟩ := cells2p (hs.out.1 _ (.tail _ (.head _)))
    obtain ⟨c30, c31⟩ := cells2p (hs.out.1 _ (.head _))
    go_wp2_with fail
    refine (H3.out _).mono ?_
    rintro e w3 ⟨rfl, b⟩
    have hs' := Lib.hid (hs.out.step b)
    clear hs b c00 c01 c10 c11 c20 c21 c30 c31
    have hs := hs'
    clear hs'
    go_wp2
    go_ret
    exact ⟨rfl, hs.out.2⟩
  · rw [e0]
    rw [e1] at H1
    rw [e2] at H2
    rw [e3] at H3
    rw [e4] at H4
    clear e0 e1 e2 e3 e4
    obtain ⟨o1, o2⟩ := o
    obtain ⟨m1, m2⟩ := m
    obtain ⟨a1, a2⟩ := a
    obtain ⟨b1, b2⟩ := b
    dsimp only at *
    have hs := Lib.hid (((((Bxs.nil (Below.refl w.heap.size w)).add rfl #[.int .i64 o1, .int .i64 o2] 25).add (q := w.heap.size + 1) (by simp) #[.int .i64 m1, .int .i64 m2] 25).add (q := w.heap.size + 2) (by simp) #[.int .i64 a1, .int .i64 a2] 25).add (q := w.heap.size + 3) (by simp) #[.int .i64 b1, .int .i64 b2] 25)
    go_enter Try.func17, Try.ntmps17
    obtain ⟨c00, c01⟩ := cells2p (hs.out.1 _ (.tail _ (.tail _ (.tail _ (.head _)))))
    obtain ⟨c10, c11⟩ := cells2p (hs.out.1 _ (.tail _ (.tail _ (.head _))))
    obtain ⟨c20, c21⟩ := cells2p (hs.out.1 _ (.tail _ (.head _)))
    obtain ⟨c30, c31⟩ := cells2p (hs.out.1 _ (.head _))
    go_wp2_with fail
    refine (H1.out _).mono ?_
    rintro e w1 ⟨rfl, b⟩
    have hs' := Lib.hid (hs.out.step b)
    clear hs b c00 c01 c10 c11 c20 c21 c30 c31
    have hs := hs'
    clear hs'
    obtain ⟨c00, c01⟩ := cells2p (hs.out.1 _ (.tail _ (.tail _ (.tail _ (.head _)))))
    obtain ⟨c10, c11⟩ := cells2p (hs.out.1 _ (.tail _ (.tail _ (.head _))))
    obtain ⟨c20, c21⟩ := cells2p (hs.out.1 _ (.tail _ (.head _)))
    obtain ⟨c30, c31⟩ := cells2p (hs.out.1 _ (.head _))
    go_wp2_with fail
    refine (H2.out _).mono ?_
    rintro e w2 ⟨rfl, b⟩
    have hs' := Lib.hid (hs.out.step b)
    clear hs b c00 c01 c10 c11 c20 c21 c30 c31
    have hs := hs'
    clear hs'
    obtain ⟨c00, c01⟩ := cells2p (hs.out.1 _ (.tail _ (.tail _ (.tail _ (.head _)))))
    obtain ⟨c10, c11⟩ := cells2p (hs.out.1 _ (.tail _ (.tail _ (.head _))))
    obtain ⟨c20, c21⟩ := cells2p (hs.out.1 _ (.tail _ (.head _)))
    obtain ⟨c30, c31⟩ := cells2p (hs.out.1 _ (.head _))
    go_wp2_with fail
    refine (H3.out _).mono ?_
    rintro e w3 ⟨rfl, b⟩
    have hs' := Lib.hid (hs.out.step b)
    clear hs b c00 c01 c10 c11 c20 c21 c30 c31
    have hs := hs'
    clear hs'
    obtain ⟨c00, c01⟩ := cells2p (hs.out.1 _ (.tail _ (.tail _ (.tail _ (.head _)))))
    obtain ⟨c10, c11⟩ := cells2p (hs.out.1 _ (.tail _ (.tail _ (.head _))))
    obtain ⟨c20, c21⟩ := cells2p (hs.out.1 _ (.tail _ (.head _)))
    obtain ⟨c30, c31⟩ := cells2p (hs.out.1 _ (.head _))
    go_wp2_with fail
    refine (H4.out _).mono ?_
    rintro e w4 ⟨rfl, b⟩
    have hs' := Lib.hid (hs.out.step b)
    clear hs b c00 c01 c10 c11 c20 c21 c30 c31
    have hs := hs'
    clear hs'
    go_wp2
    go_ret
    exact ⟨rfl, hs.out.2⟩
  · rw [e0]
    rw [e1] at H1
    rw [e2] at H2
    rw [e3] at H3
    rw [e4] at H4
    clear e0 e1 e2 e3 e4
    subst e5
    obtain ⟨o1, o2⟩ := o
    obtain ⟨a1, a2⟩ := a
    obtain ⟨b1, b2⟩ := b
    dsimp only at *
    have hs := Lib.hid (((((Bxs.nil (Below.refl w.heap.size w)).add rfl #[.int .i64 o1, .int .i64 o2] 25).add (q := w.heap.size + 1) (by simp) #[.int .i64 o1, .int .i64 o2] 25).add (q := w.heap.size + 2) (by simp) #[.int .i64 a1, .int .i64 a2] 25).add (q := w.heap.size + 3) (by simp) #[.int .i64 b1, .int .i64 b2] 25)
    go_enter Try.func17, Try.ntmps17
    have y1 : (o1 == o1) = true := by simp
    have y2 : (o2 == o2) = true := by simp
    obtain ⟨c00, c01⟩ := cells2p (hs.out.1 _ (.tail _ (.tail _ (.tail _ (.head _)))))
    obtain ⟨c10, c11⟩ := cells2p (hs.out.1 _ (.tail _ (.tail _ (.head _))))
    obtain ⟨c20, c21⟩ := cells2p (hs.out.1 _ (.tail _ (.head _)))
    obtain ⟨c30, c31⟩ := cells2p (hs.out.1 _ (.head _))
    go_wp2_with fail
    refine (H1.out _).mono ?_
    rintro e w1 ⟨rfl, b⟩
    have hs' := Lib.hid (hs.out.step b)
    clear hs b c00 c01 c10 c11 c20 c21 c30 c31
    have hs := hs'
    clear hs'
    obtain ⟨c00, c01⟩ := cells2p (hs.out.1 _ (.tail _ (.tail _ (.tail _ (.head _)))))
    obtain ⟨c10, c11⟩ := cells2p (hs.out.1 _ (.tail _ (.tail _ (.head _))))
    obtain ⟨c20, c21⟩ := cells2p (hs.out.1 _ (.tail _ (.head _)))
    obtain ⟨c30, c31⟩ := cells2p (hs.out.1 _ (.head _))
    go_wp2_with fail
    refine (H2.out _).mono ?_
    rintro e w2 ⟨rfl, b⟩
    have hs' := Lib.hid (hs.out.step b)
    clear hs b c00 c01 c10 c11 c20 c21 c30 c31
    have hs := hs'
    clear hs'
    obtain ⟨c00, c01⟩ := cells2p (hs.out.1 _ (.tail _ (.tail _ (.tail _ (.head _)))))
    obtain ⟨c10, c11⟩ := cells2p (hs.out.1 _ (.tail _ (.tail _ (.head _))))
    obtain ⟨c20, c21⟩ := cells2p (hs.out.1 _ (.tail _ (.head _)))
    obtain ⟨c30, c31⟩ := cells2p (hs.out.1 _ (.head _))
    go_wp2_with fail
    refine (H3.out _).mono ?_
    rintro e w3 ⟨rfl, b⟩
    have hs' := Lib.hid (hs.out.step b)
    clear hs b c00 c01 c10 c11 c20 c21 c30 c31
    have hs := hs'
    clear hs'
    obtain ⟨c00, c01⟩ := cells2p (hs.out.1 _ (.tail _ (.tail _ (.tail _ (.head _)))))
    obtain ⟨c10, c11⟩ := cells2p (hs.out.1 _ (.tail _ (.tail _ (.head _))))
    obtain ⟨c20, c21⟩ := cells2p (hs.out.1 _ (.tail _ (.head _)))
    obtain ⟨c30, c31⟩ := cells2p (hs.out.1 _ (.head _))
    go_wp2_with fail
    refine (H4.out _).mono ?_
    rintro e w4 ⟨rfl, b⟩
    have hs' := Lib.hid (hs.out.step b)
    clear hs b c00 c01 c10 c11 c20 c21 c30 c31
    have hs := hs'
    clear hs'
    obtain ⟨c00, c01⟩ := cells2p (hs.out.1 _ (.tail _ (.tail _ (.tail _ (.head _)))))
    obtain ⟨c10, c11⟩ := cells2p (hs.out.1 _ (.tail _ (.tail _ (.head _))))
    obtain ⟨c20, c21⟩ := cells2p (hs.out.1 _ (.tail _ (.head _)))
    obtain ⟨c30, c31⟩ := cells2p (hs.out.1 _ (.head _))
    go_wp2
    go_ret
    exact ⟨rfl, hs.out.2⟩
  · have X1 := Lib.hid (fun w => s_crx o m m a w e1 e2 e2 e3)
    have X2 := Lib.hid (fun w => s_crx o m m b w e1 e2 e2 e4)
    have X3 := Lib.hid (fun w => s_dtx o m m a w e1 e2 e2 e3)
    have X4 := Lib.hid (fun w => s_dtx o m m b w e1 e2 e2 e4)
    have n1 := crx_bd8 e1 e2 e2 e3
    have n2 := crx_bd8 e1 e2 e2 e4
    obtain ⟨_, _, _, _, _, _, n3⟩ := dtx_bd e1 e2 e2 e3
    obtain ⟨_, _, _, _, _, _, n4⟩ := dtx_bd e1 e2 e2 e4
    rw [e0]
    rw [e1] at H1
    rw [e2] at H2
    rw [e3] at H3
    rw [e4] at H4
    clear e0 e1 e2 e3 e4
    generalize crx o m m a = h at *
    generalize crx o m m b = k at *
    generalize dtx o m m a = u at *
    generalize dtx o m m b = v at *
    obtain ⟨nb1, nb2⟩ := prN_bd n1 n2 n3 n4
    have hw : (prV h k u v = 0 ∧ prN h k u v < 0 ∧ k < h ∧ decide (k < h) = true ∧ decide (h > k) = true) ∨ (prV h k u v = 0 ∧ ¬ prN h k u v < 0 ∧ 0 < prN h k u v ∧ h < k ∧ decide (h < k) = true ∧ decide (prN h k u v > 0) = true ∧ decide (0 < prN h k u v) = true) ∨ (prV h k u v = (if 0 < h ∧ k ≤ 0 then 1 else if h ≤ 0 ∧ 0 < k then -1 else 0) ∧ (prN h k u v < 0 ∧ ¬ k < h ∧ decide (k < h) = false ∧ decide (h > k) = false ∧ decide (0 < prN h k u v) = false ∧ decide (prN h k u v > 0) = false ∨ ¬ prN h k u v < 0 ∧ 0 < prN h k u v ∧ ¬ h < k ∧ decide (h < k) = false ∧ decide (0 < prN h k u v) = true ∧ decide (prN h k u v > 0) = true ∨ ¬ prN h k u v < 0 ∧ ¬ 0 < prN h k u v ∧ decide (0 < prN h k u v) = false ∧ decide (prN h k u v > 0) = false)) := by
      simp only [decide_eq_true_eq, decide_eq_false_iff_not]
      unfold prV
      rcases pr_ways h k (prN h k u v) with ⟨g1, g2⟩ | ⟨g1, g2, g3⟩ | ⟨g1, g2, g3⟩ | ⟨g1, g2, g3⟩ | ⟨g1, g2⟩
      · left; rw [if_pos (by omega)]; omega
      · right; right; rw [if_neg (by omega)]; exact ⟨rfl, .inl ⟨g1, g2, g2, g2, g3, g3⟩⟩
      · right; left; rw [if_pos (by omega)]; omega
      · right; right; rw [if_neg (by omega)]; exact ⟨rfl, .inr (.inl ⟨g1, g2, g3, g3, g2, g2⟩)⟩
      · right; right; rw [if_neg (by omega)]; exact ⟨rfl, .inr (.inr ⟨g1, g2, g2, g2⟩)⟩
    have hd : ((if 0 < h ∧ k ≤ 0 then (1 : Int) else if h ≤ 0 ∧ 0 < k then -1 else 0) = 1 ∧ 0 < h ∧ k ≤ 0 ∧ decide (k ≤ 0) = true) ∨ ((if 0 < h ∧ k ≤ 0 then (1 : Int) else if h ≤ 0 ∧ 0 < k then -1 else 0) = 0 ∧ 0 < h ∧ ¬ k ≤ 0 ∧ decide (k ≤ 0) = false ∧ ¬ h ≤ 0) ∨ ((if 0 < h ∧ k ≤ 0 then (1 : Int) else if h ≤ 0 ∧ 0 < k then -1 else 0) = -1 ∧ ¬ 0 < h ∧ h ≤ 0 ∧ 0 < k ∧ decide (0 < k) = true ∧ decide (k > 0) = true) ∨ ((if 0 < h ∧ k ≤ 0 then (1 : Int) else if h ≤ 0 ∧ 0 < k then -1 else 0) = 0 ∧ ¬ 0 < h ∧ h ≤ 0 ∧ ¬ 0 < k ∧ decide (0 < k) = false ∧ decide (k > 0) = false) := by
      simp only [decide_eq_true_eq, decide_eq_false_iff_not]
      rcases pr_dir h k with ⟨g1, g2⟩ | ⟨g1, g2, g3⟩ | ⟨g1, g2, g3⟩ | ⟨g1, g2, g3⟩
      · left; rw [if_pos ⟨g1, g2⟩]; exact ⟨rfl, g1, g2, g2⟩
      · right; left; rw [if_neg (by omega), if_neg (by omega)]; exact ⟨rfl, g1, g2, g2, g3⟩
      · right; right; left; rw [if_neg (by omega), if_pos ⟨g2, g3⟩]; exact ⟨rfl, g1, g2, g3, g3, g3⟩
      · right; right; right; rw [if_neg (by omega), if_neg (by omega)]; exact ⟨rfl, g1, g2, g3, g3, g3⟩
    have hne : ((o.1 == m.1) && (o.2 == m.2)) = false := by
      obtain ⟨o1, o2⟩ := o
      obtain ⟨m1, m2⟩ := m
      by_cases y1 : o1 = m1 <;> by_cases y2 : o2 = m2 <;> simp [y1, y2]
      subst y1 y2
      exact e5 rfl
    generalize (if 0 < h ∧ k ≤ 0 then (1 : Int) else if h ≤ 0 ∧ 0 < k then -1 else 0) = R at *
    generalize prV h k u v = Q at *
    unfold prN at hw
    have HW := Lib.hid hw
    have HD := Lib.hid hd
    clear hw hd e5
    obtain ⟨o1, o2⟩ := o
    obtain ⟨m1, m2⟩ := m
    obtain ⟨a1, a2⟩ := a
    obtain ⟨b1, b2⟩ := b
    dsimp only at *
    have hs := Lib.hid (((((Bxs.nil (Below.refl w.heap.size w)).add rfl #[.int .i64 o1, .int .i64 o2] 25).add (q := w.heap.size + 1) (by simp) #[.int .i64 m1, .int .i64 m2] 25).add (q := w.heap.size + 2) (by simp) #[.int .i64 a1, .int .i64 a2] 25).add (q := w.heap.size + 3) (by simp) #[.int .i64 b1, .int .i64 b2] 25)
    go_enter Try.func17, Try.ntmps17
    generalize y1 : (o1 == m1) = v1 at *
    generalize y2 : (o2 == m2) = v2 at *
    obtain ⟨c00, c01⟩ := cells2p (hs.out.1 _ (.tail _ (.tail _ (.tail _ (.head _)))))
    obtain ⟨c10, c11⟩ := cells2p (hs.out.1 _ (.tail _ (.tail _ (.head _))))
    obtain ⟨c20, c21⟩ := cells2p (hs.out.1 _ (.tail _ (.head _)))
    obtain ⟨c30, c31⟩ := cells2p (hs.out.1 _ (.head _))
    go_wp2_with fail
    refine (H1.out _).mono ?_
    rintro e w1 ⟨rfl, b⟩
    have hs' := Lib.hid (hs.out.step b)
    clear hs b c00 c01 c10 c11 c20 c21 c30 c31
    have hs := hs'
    clear hs'
    obtain ⟨c00, c01⟩ := cells2p (hs.out.1 _ (.tail _ (.tail _ (.tail _ (.head _)))))
    obtain ⟨c10, c11⟩ := cells2p (hs.out.1 _ (.tail _ (.tail _ (.head _))))
    obtain ⟨c20, c21⟩ := cells2p (hs.out.1 _ (.tail _ (.head _)))
    obtain ⟨c30, c31⟩ := cells2p (hs.out.1 _ (.head _))
    go_wp2_with fail
    refine (H2.out _).mono ?_
    rintro e w2 ⟨rfl, b⟩
    have hs' := Lib.hid (hs.out.step b)
    clear hs b c00 c01 c10 c11 c20 c21 c30 c31
    have hs := hs'
    clear hs'
    obtain ⟨c00, c01⟩ := cells2p (hs.out.1 _ (.tail _ (.tail _ (.tail _ (.head _)))))
    obtain ⟨c10, c11⟩ := cells2p (hs.out.1 _ (.tail _ (.tail _ (.head _))))
    obtain ⟨c20, c21⟩ := cells2p (hs.out.1 _ (.tail _ (.head _)))
    obtain ⟨c30, c31⟩ := cells2p (hs.out.1 _ (.head _))
    go_wp2_with fail
    refine (H3.out _).mono ?_
    rintro e w3 ⟨rfl, b⟩
    have hs' := Lib.hid (hs.out.step b)
    clear hs b c00 c01 c10 c11 c20 c21 c30 c31
    have hs := hs'
    clear hs'
    obtain ⟨c00, c01⟩ := cells2p (hs.out.1 _ (.tail _ (.tail _ (.tail _ (.head _)))))
    obtain ⟨c10, c11⟩ := cells2p (hs.out.1 _ (.tail _ (.tail _ (.head _))))
    obtain ⟨c20, c21⟩ := cells2p (hs.out.1 _ (.tail _ (.head _)))
    obtain ⟨c30, c31⟩ := cells2p (hs.out.1 _ (.head _))
    go_wp2_with fail
    refine (H4.out _).mono ?_
    rintro e w4 ⟨rfl, b⟩
    have hs' := Lib.hid (hs.out.step b)
    clear hs b c00 c01 c10 c11 c20 c21 c30 c31
    have hs := hs'
    clear hs'
    cases v1 <;> cases v2
    case true.true => simp at hne
    all_goals
      obtain ⟨c00, c01⟩ := cells2p (hs.out.1 _ (.tail _ (.tail _ (.tail _ (.head _)))))
      obtain ⟨c10, c11⟩ := cells2p (hs.out.1 _ (.tail _ (.tail _ (.head _))))
      obtain ⟨c20, c21⟩ := cells2p (hs.out.1 _ (.tail _ (.head _)))
      obtain ⟨c30, c31⟩ := cells2p (hs.out.1 _ (.head _))
      go_wp2_with fail
      refine (X1.out _).mono ?_
      rintro e w5 ⟨rfl, b⟩
      have hs' := Lib.hid (hs.out.step b)
      clear hs b c00 c01 c10 c11 c20 c21 c30 c31
      have hs := hs'
      clear hs'
      obtain ⟨c00, c01⟩ := cells2p (hs.out.1 _ (.tail _ (.tail _ (.tail _ (.head _)))))
      obtain ⟨c10, c11⟩ := cells2p (hs.out.1 _ (.tail _ (.tail _ (.head _))))
      obtain ⟨c20, c21⟩ := cells2p (hs.out.1 _ (.tail _ (.head _)))
      obtain ⟨c30, c31⟩ := cells2p (hs.out.1 _ (.head _))
      go_wp2_with fail
      refine (X2.out _).mono ?_
      rintro e w6 ⟨rfl, b⟩
      have hs' := Lib.hid (hs.out.step b)
      clear hs b c00 c01 c10 c11 c20 c21 c30 c31
      have hs := hs'
      clear hs'
      obtain ⟨c00, c01⟩ := cells2p (hs.out.1 _ (.tail _ (.tail _ (.tail _ (.head _)))))
      obtain ⟨c10, c11⟩ := cells2p (hs.out.1 _ (.tail _ (.tail _ (.head _))))
      obtain ⟨c20, c21⟩ := cells2p (hs.out.1 _ (.tail _ (.head _)))
      obtain ⟨c30, c31⟩ := cells2p (hs.out.1 _ (.head _))
      go_wp2_with fail
      refine (X3.out _).mono ?_
      rintro e w7 ⟨rfl, b⟩
      have hs' := Lib.hid (hs.out.step b)
      clear hs b c00 c01 c10 c11 c20 c21 c30 c31
      have hs := hs'
      clear hs'
      obtain ⟨c00, c01⟩ := cells2p (hs.out.1 _ (.tail _ (.tail _ (.tail _ (.head _)))))
      obtain ⟨c10, c11⟩ := cells2p (hs.out.1 _ (.tail _ (.tail _ (.head _))))
      obtain ⟨c20, c21⟩ := cells2p (hs.out.1 _ (.tail _ (.head _)))
      obtain ⟨c30, c31⟩ := cells2p (hs.out.1 _ (.head _))
      go_wp2_with fail
      refine (X4.out _).mono ?_
      rintro e w8 ⟨rfl, b⟩
      have hs' := Lib.hid (hs.out.step b)
      clear hs b c00 c01 c10 c11 c20 c21 c30 c31
      have hs := hs'
      clear hs'
      rcases HW.out with ⟨rfl, g1, g2, g3, g4⟩ | ⟨rfl, g1, g2, g3, g4, g5, g6⟩ | ⟨rfl, hg⟩
      · go_wp2
        go_ret
        exact ⟨rfl, hs.out.2⟩
      · go_wp2
        go_ret
        exact ⟨rfl, hs.out.2⟩
      · rcases HD.out with ⟨rfl, d1, d2, d3⟩ | ⟨rfl, d1, d2, d3, d4⟩ | ⟨rfl, d1, d2, d3, d4, d5⟩ | ⟨rfl, d1, d2, d3, d4, d5⟩
        all_goals
          rcases hg with ⟨g1, g2, g3, g4, g5, g6⟩ | ⟨g1, g2, g3, g4, g5, g6⟩ | ⟨g1, g2, g3, g4⟩
          all_goals
            go_wp2
            all_goals (go_ret; exact ⟨rfl, hs.out.2⟩)
end Go.Proofs.Ythahakefmpajfaa
