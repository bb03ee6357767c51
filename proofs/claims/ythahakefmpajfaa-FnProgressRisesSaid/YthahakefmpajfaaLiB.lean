/- Places and lines (spec): PlaceOk, LineOk, heights, SideOf, Crossing. -/
import Derived.Test.YthahakefmpajfaaLiA
import Derived.Test.YthahakefmpajfaaLwA
import Derived.Laws.StructEq
namespace Go.Proofs.Ythahakefmpajfaa
open Go.RowKit
set_option linter.unusedVariables false
set_option linter.unusedSimpArgs false

/-! ### Boxes: what a function has laid of its own stands, and nothing old has turned -/
theorem heap_lt {w : World} {g : Nat} {o : Obj} (h : w.heap[g]? = some o) : g < w.heap.size := by
  rcases Nat.lt_or_ge g w.heap.size with h' | h'
  · exact h'
  · rw [Array.getElem?_eq_none h'] at h; cases h
def Bx1 (w : World) (c1 : Array Value) (t1 : TypeId) (wr : World) : Prop := wr.heap[w.heap.size]? = some (.cells c1 t1 (0, 0)) ∧ Below w.heap.size w wr
def Bx2 (w : World) (c1 : Array Value) (t1 : TypeId) (c2 : Array Value) (t2 : TypeId) (wr : World) : Prop :=
  wr.heap[w.heap.size]? = some (.cells c1 t1 (0, 0)) ∧ wr.heap[w.heap.size + 1]? = some (.cells c2 t2 (0, 0)) ∧ Below w.heap.size w wr
def Bx3 (w : World) (c1 : Array Value) (t1 : TypeId) (c2 : Array Value) (t2 : TypeId) (c3 : Array Value) (t3 : TypeId) (wr : World) : Prop :=
  wr.heap[w.heap.size]? = some (.cells c1 t1 (0, 0)) ∧ wr.heap[w.heap.size + 1]? = some (.cells c2 t2 (0, 0)) ∧ wr.heap[w.heap.size + 2]? = some (.cells c3 t3 (0, 0)) ∧ Below w.heap.size w wr
theorem Bx1.step {w w1 w2 : World} {c1 : Array Value} {t1 : TypeId} (h : Bx1 w c1 t1 w1) (b : Below w1.heap.size w1 w2) : Bx1 w c1 t1 w2 :=
  ⟨(b.block _ (heap_lt h.1)).trans h.1, h.2.trans (b.mono h.2.size)⟩
theorem Bx2.step {w w1 w2 : World} {c1 c2 : Array Value} {t1 t2 : TypeId} (h : Bx2 w c1 t1 c2 t2 w1) (b : Below w1.heap.size w1 w2) : Bx2 w c1 t1 c2 t2 w2 :=
  ⟨(b.block _ (heap_lt h.1)).trans h.1, (b.block _ (heap_lt h.2.1)).trans h.2.1, h.2.2.trans (b.mono h.2.2.size)⟩
theorem Bx3.step {w w1 w2 : World} {c1 c2 c3 : Array Value} {t1 t2 t3 : TypeId} (h : Bx3 w c1 t1 c2 t2 c3 t3 w1) (b : Below w1.heap.size w1 w2) : Bx3 w c1 t1 c2 t2 c3 t3 w2 :=
  ⟨(b.block _ (heap_lt h.1)).trans h.1, (b.block _ (heap_lt h.2.1)).trans h.2.1, (b.block _ (heap_lt h.2.2.1)).trans h.2.2.1, h.2.2.2.trans (b.mono h.2.2.2.size)⟩
theorem Bx1.drew {w w1 : World} {c1 : Array Value} {t1 : TypeId} (h : Bx1 w c1 t1 w1) : Bx1 w c1 t1 w1.drew := ⟨h.1, h.2.drew⟩
theorem Bx2.drew {w w1 : World} {c1 c2 : Array Value} {t1 t2 : TypeId} (h : Bx2 w c1 t1 c2 t2 w1) : Bx2 w c1 t1 c2 t2 w1.drew := ⟨h.1, h.2.1, h.2.2.drew⟩
theorem Bx3.drew {w w1 : World} {c1 c2 c3 : Array Value} {t1 t2 t3 : TypeId} (h : Bx3 w c1 t1 c2 t2 c3 t3 w1) : Bx3 w c1 t1 c2 t2 c3 t3 w1.drew := ⟨h.1, h.2.1, h.2.2.1, h.2.2.2.drew⟩
theorem Bx1.new (w : World) (c1 : Array Value) (t1 : TypeId) : Bx1 w c1 t1 (w.alloc (.cells c1 t1)) := ⟨heap_alloc_new w _, (Below.refl _ w).alloc (Nat.le_refl _) _⟩
theorem Bx2.new (w : World) (c1 : Array Value) (t1 : TypeId) (c2 : Array Value) (t2 : TypeId) : Bx2 w c1 t1 c2 t2 ((w.alloc (.cells c1 t1)).alloc (.cells c2 t2)) := by
  have h := Bx1.new w c1 t1
  have n := heap_alloc_new (w.alloc (.cells c1 t1)) (.cells c2 t2)
  rw [World.size_alloc] at n
  have k := h.step ((Below.refl _ _).alloc (Nat.le_refl _) (.cells c2 t2))
  exact ⟨k.1, n, k.2⟩
theorem Bx3.new (w : World) (c1 : Array Value) (t1 : TypeId) (c2 : Array Value) (t2 : TypeId) (c3 : Array Value) (t3 : TypeId) : Bx3 w c1 t1 c2 t2 c3 t3 (((w.alloc (.cells c1 t1)).alloc (.cells c2 t2)).alloc (.cells c3 t3)) := by
  have h := Bx2.new w c1 t1 c2 t2
  have n := heap_alloc_new ((w.alloc (.cells c1 t1)).alloc (.cells c2 t2)) (.cells c3 t3)
  rw [World.size_alloc, World.size_alloc] at n
  have k := h.step ((Below.refl _ _).alloc (Nat.le_refl _) (.cells c3 t3))
  exact ⟨k.1, k.2.1, n, k.2.2⟩
/-- A line in a box; a line and a place; a line and two places. -/
abbrev lnC (l : Ln) : Array Value := #[.int .i64 l.1.1, .int .i64 l.1.2, .int .i64 l.2.1, .int .i64 l.2.2]
abbrev plC (p : Int × Int) : Array Value := #[.int .i64 p.1, .int .i64 p.2]
theorem cells_ln {w : World} {g : Nat} {a b c d : Int} (h : w.heap[g]? = some (.cells #[.int .i64 a, .int .i64 b, .int .i64 c, .int .i64 d] 33 (0, 0))) :
    w.cell? ⟨g, 0, none⟩ = some (.int .i64 a) ∧ w.cell? ⟨g, 1, none⟩ = some (.int .i64 b) ∧ w.cell? ⟨g, 2, none⟩ = some (.int .i64 c) ∧ w.cell? ⟨g, 3, none⟩ = some (.int .i64 d) :=
  ⟨cell_of_row w _ 0 _ _ _ h, cell_of_row w _ 1 _ _ _ h, cell_of_row w _ 2 _ _ _ h, cell_of_row w _ 3 _ _ _ h⟩
theorem cells_pl {w : World} {g : Nat} {a b : Int} (h : w.heap[g]? = some (.cells #[.int .i64 a, .int .i64 b] 25 (0, 0))) :
    w.cell? ⟨g, 0, none⟩ = some (.int .i64 a) ∧ w.cell? ⟨g, 1, none⟩ = some (.int .i64 b) :=
  ⟨cell_of_row w _ 0 _ _ _ h, cell_of_row w _ 1 _ _ _ h⟩
theorem s_plB (p : Int × Int) (w : World) : Calls Try.prog 14 #[.agg #[.int .i64 p.1, .int .i64 p.2]] w fun e w' => e = .returned (.bool (plB p)) ∧ Below w.heap.size w w' := by
  have c1 := fun w => s_in p.1 (-10000) 10000 (decide (-10000 ≤ p.1 ∧ p.1 ≤ 10000)) w rfl
  have c2 := fun w => s_in p.2 (-10000) 10000 (decide (-10000 ≤ p.2 ∧ p.2 ≤ 10000)) w rfl
  unfold plB
  generalize decide (-10000 ≤ p.1 ∧ p.1 ≤ 10000) = t at *
  generalize decide (-10000 ≤ p.2 ∧ p.2 ≤ 10000) = u at *
  obtain ⟨x, y⟩ := p
  dsimp only at *
  cases t <;> cases u
  all_goals
    go_enter Try.func14, Try.ntmps14
    go_wp2_with (first
      | (go_at_call 45; ((with_reducible refine (c1 _).mono ?_); rintro e w' ⟨rfl, rfl⟩))
      | (go_at_call 45; ((with_reducible refine (c2 _).mono ?_); rintro e w' ⟨rfl, rfl⟩)))
    go_ret
    exact ⟨rfl, (Below.refl _ _).alloc (Nat.le_refl _) _⟩
theorem liB_bool (l : Ln) : liB l = ((plB l.1 && plB l.2) && !((l.1.1 == l.2.1) && (l.1.2 == l.2.2))) := by
  unfold liB
  congr 1
  obtain ⟨⟨a, b⟩, c, d⟩ := l
  by_cases h1 : a = c <;> by_cases h2 : b = d <;> simp [h1, h2]
set_option maxRecDepth 100000 in
set_option maxHeartbeats 1000000 in
theorem s_liB (l : Ln) (w : World) : Calls Try.prog 59 #[.agg #[.int .i64 l.1.1, .int .i64 l.1.2, .int .i64 l.2.1, .int .i64 l.2.2]] w fun e w' => e = .returned (.bool (liB l)) ∧ Below w.heap.size w w' := by
  have H1 := Lib.hid (fun w => s_plB l.1 w)
  have H2 := Lib.hid (fun w => s_plB l.2 w)
  rw [liB_bool]
  obtain ⟨⟨x1, x2⟩, x3, x4⟩ := l
  dsimp only at *
  generalize plB (x1, x2) = t at *
  generalize plB (x3, x4) = u at *
  have hst := Lib.hid (Bx1.new w #[.int .i64 x1, .int .i64 x2, .int .i64 x3, .int .i64 x4] 33)
  have q0 := cells_ln hst.out.1
  obtain ⟨c00, c01, c02, c03⟩ := q0
  obtain ⟨v1, e1⟩ : ∃ v, (x1 == x3) = v := ⟨_, rfl⟩
  obtain ⟨v2, e2⟩ : ∃ v, (x2 == x4) = v := ⟨_, rfl⟩
  rw [e1, e2]
  cases t <;> cases u <;> cases v1 <;> cases v2
  all_goals
    go_enter Try.func59, Try.ntmps59
    go_wp2_with (first
      | (go_at_call 14; ((with_reducible refine (H1.out _).mono ?_); rintro e w' ⟨rfl, b⟩; have hs2 := Lib.hid (hst.out.step b); clear hst b c00 c01 c02 c03; have hst := hs2; clear hs2; have q0 := cells_ln hst.out.1; obtain ⟨c00, c01, c02, c03⟩ := q0))
      | (go_at_call 14; ((with_reducible refine (H2.out _).mono ?_); rintro e w' ⟨rfl, b⟩; have hs2 := Lib.hid (hst.out.step b); clear hst b c00 c01 c02 c03; have hst := hs2; clear hs2; have q0 := cells_ln hst.out.1; obtain ⟨c00, c01, c02, c03⟩ := q0)))
    go_ret
    exact ⟨rfl, hst.out.2⟩
set_option maxRecDepth 100000 in
set_option maxHeartbeats 1000000 in
theorem s_crx (a b c d : Int × Int) (w : World) (ha : plB a = true) (hb : plB b = true) (hc : plB c = true) (hd : plB d = true) :
    Calls Try.prog 49 #[.agg #[.int .i64 a.1, .int .i64 a.2], .agg #[.int .i64 b.1, .int .i64 b.2], .agg #[.int .i64 c.1, .int .i64 c.2], .agg #[.int .i64 d.1, .int .i64 d.2]] w
      fun e w' => e = .returned (.int .i64 (crx a b c d)) ∧ Below w.heap.size w w' := by
  obtain ⟨⟨m1, m2⟩, ⟨m3, m4⟩, ⟨m5, m6⟩, ⟨m7, m8⟩, ⟨p1, p2⟩, ⟨q1, q2⟩, r1, r2⟩ := crx_bd ha hb hc hd
  have b4 := ((((Below.refl w.heap.size w).alloc (Nat.le_refl _) (.cells #[.int .i64 a.1, .int .i64 a.2] 25)).alloc (by simp) (.cells #[.int .i64 b.1, .int .i64 b.2] 25)).alloc (by simp; omega) (.cells #[.int .i64 c.1, .int .i64 c.2] 25)).alloc (by simp; omega) (.cells #[.int .i64 d.1, .int .i64 d.2] 25)
  unfold crx at *
  clear ha hb hc hd
  obtain ⟨a1, a2⟩ := a
  obtain ⟨b1, b2⟩ := b
  obtain ⟨c1, c2⟩ := c
  obtain ⟨d1, d2⟩ := d
  dsimp only at *
  go_enter Try.func49, Try.ntmps49
  go_wp2
  go_ret
  exact ⟨rfl, b4⟩
set_option maxRecDepth 100000 in
set_option maxHeartbeats 1000000 in
theorem s_hgt (l : Ln) (p : Int × Int) (w : World) (hl : plB l.1 = true) (hm : plB l.2 = true) (hp : plB p = true) :
    Calls Try.prog 88 #[.agg #[.int .i64 l.1.1, .int .i64 l.1.2, .int .i64 l.2.1, .int .i64 l.2.2], .agg #[.int .i64 p.1, .int .i64 p.2]] w
      fun e w' => e = .returned (.int .i64 (hgt l p)) ∧ Below w.heap.size w w' := by
  have H1 := Lib.hid (fun w => s_crx l.1 l.2 l.1 p w hl hm hl hp)
  unfold hgt
  generalize crx l.1 l.2 l.1 p = r at *
  clear hl hm hp
  obtain ⟨⟨x1, x2⟩, x3, x4⟩ := l
  obtain ⟨y1, y2⟩ := p
  dsimp only at *
  have hst := Lib.hid (Bx2.new w #[.int .i64 x1, .int .i64 x2, .int .i64 x3, .int .i64 x4] 33 #[.int .i64 y1, .int .i64 y2] 25)
  have q0 := cells_ln hst.out.1
  obtain ⟨c00, c01, c02, c03⟩ := q0
  have q1 := cells_pl hst.out.2.1
  obtain ⟨c10, c11⟩ := q1
  go_enter Try.func88, Try.ntmps88
  go_wp2_with (first
    | (go_at_call 49; ((with_reducible refine (H1.out _).mono ?_); rintro e w' ⟨rfl, b⟩; have hs2 := Lib.hid (hst.out.step b); clear hst b c00 c01 c02 c03 c10 c11; have hst := hs2; clear hs2; have q0 := cells_ln hst.out.1; obtain ⟨c00, c01, c02, c03⟩ := q0; have q1 := cells_pl hst.out.2.1; obtain ⟨c10, c11⟩ := q1)))
  go_ret
  exact ⟨rfl, hst.out.2.2⟩
set_option maxRecDepth 100000 in
set_option maxHeartbeats 1000000 in
theorem s_side (l : Ln) (p : Int × Int) (w : World) :
    Calls Try.prog 87 #[.agg #[.int .i64 l.1.1, .int .i64 l.1.2, .int .i64 l.2.1, .int .i64 l.2.2], .agg #[.int .i64 p.1, .int .i64 p.2]] w
      fun e w' => e = .returned (.int .i64 (sdW l p)) ∧ Below w.heap.size w w' := by
  have H1 := Lib.hid (fun w => s_liB l w)
  have H2 := Lib.hid (fun w => s_plB p w)
  have hw := sd_ways l p
  have H3 : Hid (liB l = true → plB p = true → ∀ w, Calls Try.prog 88 #[.agg #[.int .i64 l.1.1, .int .i64 l.1.2, .int .i64 l.2.1, .int .i64 l.2.2], .agg #[.int .i64 p.1, .int .i64 p.2]] w
      fun e w' => e = .returned (.int .i64 (hgt l p)) ∧ Below w.heap.size w w') := Lib.hid (fun h1 h2 w => s_hgt l p w (liB_iff.1 h1).1 (liB_iff.1 h1).2.1 h2)
  generalize sdW l p = r at *
  generalize hgt l p = h at *
  generalize liB l = t at *
  generalize plB p = u at *
  obtain ⟨⟨x1, x2⟩, x3, x4⟩ := l
  obtain ⟨y1, y2⟩ := p
  dsimp only at *
  have hst := Lib.hid (Bx2.new w #[.int .i64 x1, .int .i64 x2, .int .i64 x3, .int .i64 x4] 33 #[.int .i64 y1, .int .i64 y2] 25)
  have q0 := cells_ln hst.out.1
  obtain ⟨c00, c01, c02, c03⟩ := q0
  have q1 := cells_pl hst.out.2.1
  obtain ⟨c10, c11⟩ := q1
  rcases hw with ⟨rfl, rfl⟩ | ⟨rfl, rfl, rfl⟩ | ⟨rfl, rfl, hh, rfl⟩ | ⟨rfl, rfl, hh, hh2, rfl⟩ | ⟨rfl, rfl, hh, hh2, rfl⟩
  · clear H3
    go_enter Try.func87, Try.ntmps87
    go_wp2_with (first
      | (go_at_call 59; ((with_reducible refine (H1.out _).mono ?_); rintro e w' ⟨rfl, b⟩; have hs2 := Lib.hid (hst.out.step b); clear hst b c00 c01 c02 c03 c10 c11; have hst := hs2; clear hs2; have q0 := cells_ln hst.out.1; obtain ⟨c00, c01, c02, c03⟩ := q0; have q1 := cells_pl hst.out.2.1; obtain ⟨c10, c11⟩ := q1))
      | (go_at_call 14; ((with_reducible refine (H2.out _).mono ?_); rintro e w' ⟨rfl, b⟩; have hs2 := Lib.hid (hst.out.step b); clear hst b c00 c01 c02 c03 c10 c11; have hst := hs2; clear hs2; have q0 := cells_ln hst.out.1; obtain ⟨c00, c01, c02, c03⟩ := q0; have q1 := cells_pl hst.out.2.1; obtain ⟨c10, c11⟩ := q1)))
    go_ret
    exact ⟨rfl, hst.out.2.2⟩
  · clear H3
    go_enter Try.func87, Try.ntmps87
    go_wp2_with (first
      | (go_at_call 59; ((with_reducible refine (H1.out _).mono ?_); rintro e w' ⟨rfl, b⟩; have hs2 := Lib.hid (hst.out.step b); clear hst b c00 c01 c02 c03 c10 c11; have hst := hs2; clear hs2; have q0 := cells_ln hst.out.1; obtain ⟨c00, c01, c02, c03⟩ := q0; have q1 := cells_pl hst.out.2.1; obtain ⟨c10, c11⟩ := q1))
      | (go_at_call 14; ((with_reducible refine (H2.out _).mono ?_); rintro e w' ⟨rfl, b⟩; have hs2 := Lib.hid (hst.out.step b); clear hst b c00 c01 c02 c03 c10 c11; have hst := hs2; clear hs2; have q0 := cells_ln hst.out.1; obtain ⟨c00, c01, c02, c03⟩ := q0; have q1 := cells_pl hst.out.2.1; obtain ⟨c10, c11⟩ := q1)))
    go_ret
    exact ⟨rfl, hst.out.2.2⟩
  all_goals
    have H4 := Lib.hid (H3.out rfl rfl)
    clear H3
    go_enter Try.func87, Try.ntmps87
    go_wp2_with (first
      | (go_at_call 59; ((with_reducible refine (H1.out _).mono ?_); rintro e w' ⟨rfl, b⟩; have hs2 := Lib.hid (hst.out.step b); clear hst b c00 c01 c02 c03 c10 c11; have hst := hs2; clear hs2; have q0 := cells_ln hst.out.1; obtain ⟨c00, c01, c02, c03⟩ := q0; have q1 := cells_pl hst.out.2.1; obtain ⟨c10, c11⟩ := q1))
      | (go_at_call 14; ((with_reducible refine (H2.out _).mono ?_); rintro e w' ⟨rfl, b⟩; have hs2 := Lib.hid (hst.out.step b); clear hst b c00 c01 c02 c03 c10 c11; have hst := hs2; clear hs2; have q0 := cells_ln hst.out.1; obtain ⟨c00, c01, c02, c03⟩ := q0; have q1 := cells_pl hst.out.2.1; obtain ⟨c10, c11⟩ := q1))
      | (go_at_call 88; ((with_reducible refine (H4.out _).mono ?_); rintro e w' ⟨rfl, b⟩; have hs2 := Lib.hid (hst.out.step b); clear hst b c00 c01 c02 c03 c10 c11; have hst := hs2; clear hs2; have q0 := cells_ln hst.out.1; obtain ⟨c00, c01, c02, c03⟩ := q0; have q1 := cells_pl hst.out.2.1; obtain ⟨c10, c11⟩ := q1)))
    go_ret
    exact ⟨rfl, hst.out.2.2⟩
set_option maxRecDepth 100000 in
set_option maxHeartbeats 2000000 in
theorem s_cr_no (l : Ln) (a b : Int × Int) (w : World) (hno : (liB l && plB a && plB b) = false) :
    Calls Try.prog 69 #[.agg #[.int .i64 l.1.1, .int .i64 l.1.2, .int .i64 l.2.1, .int .i64 l.2.2], .agg #[.int .i64 a.1, .int .i64 a.2], .agg #[.int .i64 b.1, .int .i64 b.2]] w
      fun e w' => e = .returned (.int .i64 0) ∧ Below w.heap.size w w' := by
  have H1 := Lib.hid (fun w => s_liB l w)
  have H2 := Lib.hid (fun w => s_plB a w)
  have H3 := Lib.hid (fun w => s_plB b w)
  generalize liB l = t at *
  generalize plB a = u at *
  generalize plB b = v at *
  obtain ⟨⟨x1, x2⟩, x3, x4⟩ := l
  obtain ⟨y1, y2⟩ := a
  obtain ⟨z1, z2⟩ := b
  dsimp only at *
  have hst := Lib.hid (Bx3.new w #[.int .i64 x1, .int .i64 x2, .int .i64 x3, .int .i64 x4] 33 #[.int .i64 y1, .int .i64 y2] 25 #[.int .i64 z1, .int .i64 z2] 25)
  have q0 := cells_ln hst.out.1
  obtain ⟨c00, c01, c02, c03⟩ := q0
  have q1 := cells_pl hst.out.2.1
  obtain ⟨c10, c11⟩ := q1
  have q2 := cells_pl hst.out.2.2.1
  obtain ⟨c20, c21⟩ := q2
  have hq : t = false ∨ (t = true ∧ u = false) ∨ (t = true ∧ u = true ∧ v = false) := by cases t <;> cases u <;> cases v <;> simp_all
  clear hno
  rcases hq with rfl | ⟨rfl, rfl⟩ | ⟨rfl, rfl, rfl⟩
  all_goals
    go_enter Try.func69, Try.ntmps69
    go_wp2_with (first
      | (go_at_call 59; ((with_reducible refine (H1.out _).mono ?_); rintro e w' ⟨rfl, b⟩; have hs2 := Lib.hid (hst.out.step b); clear hst b c00 c01 c02 c03 c10 c11 c20 c21; have hst := hs2; clear hs2; have q0 := cells_ln hst.out.1; obtain ⟨c00, c01, c02, c03⟩ := q0; have q1 := cells_pl hst.out.2.1; obtain ⟨c10, c11⟩ := q1; have q2 := cells_pl hst.out.2.2.1; obtain ⟨c20, c21⟩ := q2))
      | (go_at_call 14; ((with_reducible refine (H2.out _).mono ?_); rintro e w' ⟨rfl, b⟩; have hs2 := Lib.hid (hst.out.step b); clear hst b c00 c01 c02 c03 c10 c11 c20 c21; have hst := hs2; clear hs2; have q0 := cells_ln hst.out.1; obtain ⟨c00, c01, c02, c03⟩ := q0; have q1 := cells_pl hst.out.2.1; obtain ⟨c10, c11⟩ := q1; have q2 := cells_pl hst.out.2.2.1; obtain ⟨c20, c21⟩ := q2))
      | (go_at_call 14; ((with_reducible refine (H3.out _).mono ?_); rintro e w' ⟨rfl, b⟩; have hs2 := Lib.hid (hst.out.step b); clear hst b c00 c01 c02 c03 c10 c11 c20 c21; have hst := hs2; clear hs2; have q0 := cells_ln hst.out.1; obtain ⟨c00, c01, c02, c03⟩ := q0; have q1 := cells_pl hst.out.2.1; obtain ⟨c10, c11⟩ := q1; have q2 := cells_pl hst.out.2.2.1; obtain ⟨c20, c21⟩ := q2)))
    go_ret
    exact ⟨rfl, hst.out.2.2.2⟩
set_option maxRecDepth 100000 in
set_option maxHeartbeats 4000000 in
theorem s_cr_yes (l : Ln) (a b : Int × Int) (w : World) (h1 : liB l = true) (h2 : plB a = true) (h3 : plB b = true) :
    Calls Try.prog 69 #[.agg #[.int .i64 l.1.1, .int .i64 l.1.2, .int .i64 l.2.1, .int .i64 l.2.2], .agg #[.int .i64 a.1, .int .i64 a.2], .agg #[.int .i64 b.1, .int .i64 b.2]] w
      fun e w' => e = .returned (.int .i64 (crV (crx a b a l.1) (crx a b a l.2) (sdW l a) (sdW l b))) ∧ Below w.heap.size w w' := by
  have H1 := Lib.hid (fun w => h1 ▸ s_liB l w)
  have H2 := Lib.hid (fun w => h2 ▸ s_plB a w)
  have H3 := Lib.hid (fun w => h3 ▸ s_plB b w)
  have HX := Lib.hid (fun w => s_crx a b a l.1 w h2 h3 h2 (liB_iff.1 h1).1)
  have HY := Lib.hid (fun w => s_crx a b a l.2 w h2 h3 h2 (liB_iff.1 h1).2.1)
  have HS := Lib.hid (fun w => s_side l a w)
  have HT := Lib.hid (fun w => s_side l b w)
  have g := cr_gate (crx a b a l.1) (crx a b a l.2)
  have d := cr_dir (s := sdW l a) (t := sdW l b) (sd_bd l a).2
  generalize crx a b a l.1 = x at *
  generalize crx a b a l.2 = y at *
  generalize sdW l a = s at *
  generalize sdW l b = t at *
  clear h1 h2 h3
  obtain ⟨⟨x1, x2⟩, x3, x4⟩ := l
  obtain ⟨y1, y2⟩ := a
  obtain ⟨z1, z2⟩ := b
  dsimp only at *
  have hst := Lib.hid (Bx3.new w #[.int .i64 x1, .int .i64 x2, .int .i64 x3, .int .i64 x4] 33 #[.int .i64 y1, .int .i64 y2] 25 #[.int .i64 z1, .int .i64 z2] 25)
  have q0 := cells_ln hst.out.1
  obtain ⟨c00, c01, c02, c03⟩ := q0
  have q1 := cells_pl hst.out.2.1
  obtain ⟨c10, c11⟩ := q1
  have q2 := cells_pl hst.out.2.2.1
  obtain ⟨c20, c21⟩ := q2
  rcases g with ⟨g1, g2⟩ | ⟨g1, g2, g3⟩ | ⟨g1, g2, g3⟩ | ⟨g1, g2, g3⟩ | ⟨g1, g2⟩
  · rw [show crV x y s t = 0 by unfold crV; rw [if_pos (by omega)]]
    clear d
    go_enter Try.func69, Try.ntmps69
    go_wp2_with (first
      | (go_at_call 59; ((with_reducible refine (H1.out _).mono ?_); rintro e w' ⟨rfl, b⟩; have hs2 := Lib.hid (hst.out.step b); clear hst b c00 c01 c02 c03 c10 c11 c20 c21; have hst := hs2; clear hs2; have q0 := cells_ln hst.out.1; obtain ⟨c00, c01, c02, c03⟩ := q0; have q1 := cells_pl hst.out.2.1; obtain ⟨c10, c11⟩ := q1; have q2 := cells_pl hst.out.2.2.1; obtain ⟨c20, c21⟩ := q2))
      | (go_at_call 14; ((with_reducible refine (H2.out _).mono ?_); rintro e w' ⟨rfl, b⟩; have hs2 := Lib.hid (hst.out.step b); clear hst b c00 c01 c02 c03 c10 c11 c20 c21; have hst := hs2; clear hs2; have q0 := cells_ln hst.out.1; obtain ⟨c00, c01, c02, c03⟩ := q0; have q1 := cells_pl hst.out.2.1; obtain ⟨c10, c11⟩ := q1; have q2 := cells_pl hst.out.2.2.1; obtain ⟨c20, c21⟩ := q2))
      | (go_at_call 14; ((with_reducible refine (H3.out _).mono ?_); rintro e w' ⟨rfl, b⟩; have hs2 := Lib.hid (hst.out.step b); clear hst b c00 c01 c02 c03 c10 c11 c20 c21; have hst := hs2; clear hs2; have q0 := cells_ln hst.out.1; obtain ⟨c00, c01, c02, c03⟩ := q0; have q1 := cells_pl hst.out.2.1; obtain ⟨c10, c11⟩ := q1; have q2 := cells_pl hst.out.2.2.1; obtain ⟨c20, c21⟩ := q2))
      | (go_at_call 49; ((with_reducible refine (HX.out _).mono ?_); rintro e w' ⟨rfl, b⟩; have hs2 := Lib.hid (hst.out.step b); clear hst b c00 c01 c02 c03 c10 c11 c20 c21; have hst := hs2; clear hs2; have q0 := cells_ln hst.out.1; obtain ⟨c00, c01, c02, c03⟩ := q0; have q1 := cells_pl hst.out.2.1; obtain ⟨c10, c11⟩ := q1; have q2 := cells_pl hst.out.2.2.1; obtain ⟨c20, c21⟩ := q2))
      | (go_at_call 49; ((with_reducible refine (HY.out _).mono ?_); rintro e w' ⟨rfl, b⟩; have hs2 := Lib.hid (hst.out.step b); clear hst b c00 c01 c02 c03 c10 c11 c20 c21; have hst := hs2; clear hs2; have q0 := cells_ln hst.out.1; obtain ⟨c00, c01, c02, c03⟩ := q0; have q1 := cells_pl hst.out.2.1; obtain ⟨c10, c11⟩ := q1; have q2 := cells_pl hst.out.2.2.1; obtain ⟨c20, c21⟩ := q2)))
    go_ret
    exact ⟨rfl, hst.out.2.2.2⟩
  rotate_left
  · rw [show crV x y s t = 0 by unfold crV; rw [if_pos (by omega)]]
    clear d
    go_enter Try.func69, Try.ntmps69
    go_wp2_with (first
      | (go_at_call 59; ((with_reducible refine (H1.out _).mono ?_); rintro e w' ⟨rfl, b⟩; have hs2 := Lib.hid (hst.out.step b); clear hst b c00 c01 c02 c03 c10 c11 c20 c21; have hst := hs2; clear hs2; have q0 := cells_ln hst.out.1; obtain ⟨c00, c01, c02, c03⟩ := q0; have q1 := cells_pl hst.out.2.1; obtain ⟨c10, c11⟩ := q1; have q2 := cells_pl hst.out.2.2.1; obtain ⟨c20, c21⟩ := q2))
      | (go_at_call 14; ((with_reducible refine (H2.out _).mono ?_); rintro e w' ⟨rfl, b⟩; have hs2 := Lib.hid (hst.out.step b); clear hst b c00 c01 c02 c03 c10 c11 c20 c21; have hst := hs2; clear hs2; have q0 := cells_ln hst.out.1; obtain ⟨c00, c01, c02, c03⟩ := q0; have q1 := cells_pl hst.out.2.1; obtain ⟨c10, c11⟩ := q1; have q2 := cells_pl hst.out.2.2.1; obtain ⟨c20, c21⟩ := q2))
      | (go_at_call 14; ((with_reducible refine (H3.out _).mono ?_); rintro e w' ⟨rfl, b⟩; have hs2 := Lib.hid (hst.out.step b); clear hst b c00 c01 c02 c03 c10 c11 c20 c21; have hst := hs2; clear hs2; have q0 := cells_ln hst.out.1; obtain ⟨c00, c01, c02, c03⟩ := q0; have q1 := cells_pl hst.out.2.1; obtain ⟨c10, c11⟩ := q1; have q2 := cells_pl hst.out.2.2.1; obtain ⟨c20, c21⟩ := q2))
      | (go_at_call 49; ((with_reducible refine (HX.out _).mono ?_); rintro e w' ⟨rfl, b⟩; have hs2 := Lib.hid (hst.out.step b); clear hst b c00 c01 c02 c03 c10 c11 c20 c21; have hst := hs2; clear hs2; have q0 := cells_ln hst.out.1; obtain ⟨c00, c01, c02, c03⟩ := q0; have q1 := cells_pl hst.out.2.1; obtain ⟨c10, c11⟩ := q1; have q2 := cells_pl hst.out.2.2.1; obtain ⟨c20, c21⟩ := q2))
      | (go_at_call 49; ((with_reducible refine (HY.out _).mono ?_); rintro e w' ⟨rfl, b⟩; have hs2 := Lib.hid (hst.out.step b); clear hst b c00 c01 c02 c03 c10 c11 c20 c21; have hst := hs2; clear hs2; have q0 := cells_ln hst.out.1; obtain ⟨c00, c01, c02, c03⟩ := q0; have q1 := cells_pl hst.out.2.1; obtain ⟨c10, c11⟩ := q1; have q2 := cells_pl hst.out.2.2.1; obtain ⟨c20, c21⟩ := q2)))
    go_ret
    exact ⟨rfl, hst.out.2.2.2⟩
  all_goals
    have hv : crV x y s t = if s ≤ 0 ∧ t = 1 then 1 else if s = 1 ∧ t ≤ 0 then -1 else 0 := by unfold crV; rw [if_neg (by omega)]
    rw [hv]
    clear hv
    rcases d with ⟨d1, d2⟩ | ⟨d1, d2, d3⟩ | ⟨d1, d2, d3⟩ | ⟨d1, d2, d3⟩
    · rw [if_pos ⟨d1, d2⟩]
      subst d2
      go_enter Try.func69, Try.ntmps69
      go_wp2_with (first
        | (go_at_call 59; ((with_reducible refine (H1.out _).mono ?_); rintro e w' ⟨rfl, b⟩; have hs2 := Lib.hid (hst.out.step b); clear hst b c00 c01 c02 c03 c10 c11 c20 c21; have hst := hs2; clear hs2; have q0 := cells_ln hst.out.1; obtain ⟨c00, c01, c02, c03⟩ := q0; have q1 := cells_pl hst.out.2.1; obtain ⟨c10, c11⟩ := q1; have q2 := cells_pl hst.out.2.2.1; obtain ⟨c20, c21⟩ := q2))
        | (go_at_call 14; ((with_reducible refine (H2.out _).mono ?_); rintro e w' ⟨rfl, b⟩; have hs2 := Lib.hid (hst.out.step b); clear hst b c00 c01 c02 c03 c10 c11 c20 c21; have hst := hs2; clear hs2; have q0 := cells_ln hst.out.1; obtain ⟨c00, c01, c02, c03⟩ := q0; have q1 := cells_pl hst.out.2.1; obtain ⟨c10, c11⟩ := q1; have q2 := cells_pl hst.out.2.2.1; obtain ⟨c20, c21⟩ := q2))
        | (go_at_call 14; ((with_reducible refine (H3.out _).mono ?_); rintro e w' ⟨rfl, b⟩; have hs2 := Lib.hid (hst.out.step b); clear hst b c00 c01 c02 c03 c10 c11 c20 c21; have hst := hs2; clear hs2; have q0 := cells_ln hst.out.1; obtain ⟨c00, c01, c02, c03⟩ := q0; have q1 := cells_pl hst.out.2.1; obtain ⟨c10, c11⟩ := q1; have q2 := cells_pl hst.out.2.2.1; obtain ⟨c20, c21⟩ := q2))
        | (go_at_call 49; ((with_reducible refine (HX.out _).mono ?_); rintro e w' ⟨rfl, b⟩; have hs2 := Lib.hid (hst.out.step b); clear hst b c00 c01 c02 c03 c10 c11 c20 c21; have hst := hs2; clear hs2; have q0 := cells_ln hst.out.1; obtain ⟨c00, c01, c02, c03⟩ := q0; have q1 := cells_pl hst.out.2.1; obtain ⟨c10, c11⟩ := q1; have q2 := cells_pl hst.out.2.2.1; obtain ⟨c20, c21⟩ := q2))
        | (go_at_call 49; ((with_reducible refine (HY.out _).mono ?_); rintro e w' ⟨rfl, b⟩; have hs2 := Lib.hid (hst.out.step b); clear hst b c00 c01 c02 c03 c10 c11 c20 c21; have hst := hs2; clear hs2; have q0 := cells_ln hst.out.1; obtain ⟨c00, c01, c02, c03⟩ := q0; have q1 := cells_pl hst.out.2.1; obtain ⟨c10, c11⟩ := q1; have q2 := cells_pl hst.out.2.2.1; obtain ⟨c20, c21⟩ := q2))
        | (go_at_call 87; ((with_reducible refine (HS.out _).mono ?_); rintro e w' ⟨rfl, b⟩; have hs2 := Lib.hid (hst.out.step b); clear hst b c00 c01 c02 c03 c10 c11 c20 c21; have hst := hs2; clear hs2; have q0 := cells_ln hst.out.1; obtain ⟨c00, c01, c02, c03⟩ := q0; have q1 := cells_pl hst.out.2.1; obtain ⟨c10, c11⟩ := q1; have q2 := cells_pl hst.out.2.2.1; obtain ⟨c20, c21⟩ := q2))
        | (go_at_call 87; ((with_reducible refine (HT.out _).mono ?_); rintro e w' ⟨rfl, b⟩; have hs2 := Lib.hid (hst.out.step b); clear hst b c00 c01 c02 c03 c10 c11 c20 c21; have hst := hs2; clear hs2; have q0 := cells_ln hst.out.1; obtain ⟨c00, c01, c02, c03⟩ := q0; have q1 := cells_pl hst.out.2.1; obtain ⟨c10, c11⟩ := q1; have q2 := cells_pl hst.out.2.2.1; obtain ⟨c20, c21⟩ := q2)))
      go_ret
      exact ⟨rfl, hst.out.2.2.2⟩
    · rw [if_neg (by omega), if_neg (by omega)]
      have e1 : (t == 1) = false := by rw [beq_eq_false_iff_ne]; exact d2
      have e2 : (s == 1) = false := by rw [beq_eq_false_iff_ne]; exact d3
      go_enter Try.func69, Try.ntmps69
      go_wp2_with (first
        | (go_at_call 59; ((with_reducible refine (H1.out _).mono ?_); rintro e w' ⟨rfl, b⟩; have hs2 := Lib.hid (hst.out.step b); clear hst b c00 c01 c02 c03 c10 c11 c20 c21; have hst := hs2; clear hs2; have q0 := cells_ln hst.out.1; obtain ⟨c00, c01, c02, c03⟩ := q0; have q1 := cells_pl hst.out.2.1; obtain ⟨c10, c11⟩ := q1; have q2 := cells_pl hst.out.2.2.1; obtain ⟨c20, c21⟩ := q2))
        | (go_at_call 14; ((with_reducible refine (H2.out _).mono ?_); rintro e w' ⟨rfl, b⟩; have hs2 := Lib.hid (hst.out.step b); clear hst b c00 c01 c02 c03 c10 c11 c20 c21; have hst := hs2; clear hs2; have q0 := cells_ln hst.out.1; obtain ⟨c00, c01, c02, c03⟩ := q0; have q1 := cells_pl hst.out.2.1; obtain ⟨c10, c11⟩ := q1; have q2 := cells_pl hst.out.2.2.1; obtain ⟨c20, c21⟩ := q2))
        | (go_at_call 14; ((with_reducible refine (H3.out _).mono ?_); rintro e w' ⟨rfl, b⟩; have hs2 := Lib.hid (hst.out.step b); clear hst b c00 c01 c02 c03 c10 c11 c20 c21; have hst := hs2; clear hs2; have q0 := cells_ln hst.out.1; obtain ⟨c00, c01, c02, c03⟩ := q0; have q1 := cells_pl hst.out.2.1; obtain ⟨c10, c11⟩ := q1; have q2 := cells_pl hst.out.2.2.1; obtain ⟨c20, c21⟩ := q2))
        | (go_at_call 49; ((with_reducible refine (HX.out _).mono ?_); rintro e w' ⟨rfl, b⟩; have hs2 := Lib.hid (hst.out.step b); clear hst b c00 c01 c02 c03 c10 c11 c20 c21; have hst := hs2; clear hs2; have q0 := cells_ln hst.out.1; obtain ⟨c00, c01, c02, c03⟩ := q0; have q1 := cells_pl hst.out.2.1; obtain ⟨c10, c11⟩ := q1; have q2 := cells_pl hst.out.2.2.1; obtain ⟨c20, c21⟩ := q2))
        | (go_at_call 49; ((with_reducible refine (HY.out _).mono ?_); rintro e w' ⟨rfl, b⟩; have hs2 := Lib.hid (hst.out.step b); clear hst b c00 c01 c02 c03 c10 c11 c20 c21; have hst := hs2; clear hs2; have q0 := cells_ln hst.out.1; obtain ⟨c00, c01, c02, c03⟩ := q0; have q1 := cells_pl hst.out.2.1; obtain ⟨c10, c11⟩ := q1; have q2 := cells_pl hst.out.2.2.1; obtain ⟨c20, c21⟩ := q2))
        | (go_at_call 87; ((with_reducible refine (HS.out _).mono ?_); rintro e w' ⟨rfl, b⟩; have hs2 := Lib.hid (hst.out.step b); clear hst b c00 c01 c02 c03 c10 c11 c20 c21; have hst := hs2; clear hs2; have q0 := cells_ln hst.out.1; obtain ⟨c00, c01, c02, c03⟩ := q0; have q1 := cells_pl hst.out.2.1; obtain ⟨c10, c11⟩ := q1; have q2 := cells_pl hst.out.2.2.1; obtain ⟨c20, c21⟩ := q2))
        | (go_at_call 87; ((with_reducible refine (HT.out _).mono ?_); rintro e w' ⟨rfl, b⟩; have hs2 := Lib.hid (hst.out.step b); clear hst b c00 c01 c02 c03 c10 c11 c20 c21; have hst := hs2; clear hs2; have q0 := cells_ln hst.out.1; obtain ⟨c00, c01, c02, c03⟩ := q0; have q1 := cells_pl hst.out.2.1; obtain ⟨c10, c11⟩ := q1; have q2 := cells_pl hst.out.2.2.1; obtain ⟨c20, c21⟩ := q2)))
      go_ret
      exact ⟨rfl, hst.out.2.2.2⟩
    · rw [if_neg (by omega), if_pos ⟨d2, d3⟩]
      subst d2
      go_enter Try.func69, Try.ntmps69
      go_wp2_with (first
        | (go_at_call 59; ((with_reducible refine (H1.out _).mono ?_); rintro e w' ⟨rfl, b⟩; have hs2 := Lib.hid (hst.out.step b); clear hst b c00 c01 c02 c03 c10 c11 c20 c21; have hst := hs2; clear hs2; have q0 := cells_ln hst.out.1; obtain ⟨c00, c01, c02, c03⟩ := q0; have q1 := cells_pl hst.out.2.1; obtain ⟨c10, c11⟩ := q1; have q2 := cells_pl hst.out.2.2.1; obtain ⟨c20, c21⟩ := q2))
        | (go_at_call 14; ((with_reducible refine (H2.out _).mono ?_); rintro e w' ⟨rfl, b⟩; have hs2 := Lib.hid (hst.out.step b); clear hst b c00 c01 c02 c03 c10 c11 c20 c21; have hst := hs2; clear hs2; have q0 := cells_ln hst.out.1; obtain ⟨c00, c01, c02, c03⟩ := q0; have q1 := cells_pl hst.out.2.1; obtain ⟨c10, c11⟩ := q1; have q2 := cells_pl hst.out.2.2.1; obtain ⟨c20, c21⟩ := q2))
        | (go_at_call 14; ((with_reducible refine (H3.out _).mono ?_); rintro e w' ⟨rfl, b⟩; have hs2 := Lib.hid (hst.out.step b); clear hst b c00 c01 c02 c03 c10 c11 c20 c21; have hst := hs2; clear hs2; have q0 := cells_ln hst.out.1; obtain ⟨c00, c01, c02, c03⟩ := q0; have q1 := cells_pl hst.out.2.1; obtain ⟨c10, c11⟩ := q1; have q2 := cells_pl hst.out.2.2.1; obtain ⟨c20, c21⟩ := q2))
        | (go_at_call 49; ((with_reducible refine (HX.out _).mono ?_); rintro e w' ⟨rfl, b⟩; have hs2 := Lib.hid (hst.out.step b); clear hst b c00 c01 c02 c03 c10 c11 c20 c21; have hst := hs2; clear hs2; have q0 := cells_ln hst.out.1; obtain ⟨c00, c01, c02, c03⟩ := q0; have q1 := cells_pl hst.out.2.1; obtain ⟨c10, c11⟩ := q1; have q2 := cells_pl hst.out.2.2.1; obtain ⟨c20, c21⟩ := q2))
        | (go_at_call 49; ((with_reducible refine (HY.out _).mono ?_); rintro e w' ⟨rfl, b⟩; have hs2 := Lib.hid (hst.out.step b); clear hst b c00 c01 c02 c03 c10 c11 c20 c21; have hst := hs2; clear hs2; have q0 := cells_ln hst.out.1; obtain ⟨c00, c01, c02, c03⟩ := q0; have q1 := cells_pl hst.out.2.1; obtain ⟨c10, c11⟩ := q1; have q2 := cells_pl hst.out.2.2.1; obtain ⟨c20, c21⟩ := q2))
        | (go_at_call 87; ((with_reducible refine (HS.out _).mono ?_); rintro e w' ⟨rfl, b⟩; have hs2 := Lib.hid (hst.out.step b); clear hst b c00 c01 c02 c03 c10 c11 c20 c21; have hst := hs2; clear hs2; have q0 := cells_ln hst.out.1; obtain ⟨c00, c01, c02, c03⟩ := q0; have q1 := cells_pl hst.out.2.1; obtain ⟨c10, c11⟩ := q1; have q2 := cells_pl hst.out.2.2.1; obtain ⟨c20, c21⟩ := q2))
        | (go_at_call 87; ((with_reducible refine (HT.out _).mono ?_); rintro e w' ⟨rfl, b⟩; have hs2 := Lib.hid (hst.out.step b); clear hst b c00 c01 c02 c03 c10 c11 c20 c21; have hst := hs2; clear hs2; have q0 := cells_ln hst.out.1; obtain ⟨c00, c01, c02, c03⟩ := q0; have q1 := cells_pl hst.out.2.1; obtain ⟨c10, c11⟩ := q1; have q2 := cells_pl hst.out.2.2.1; obtain ⟨c20, c21⟩ := q2)))
      go_ret
      exact ⟨rfl, hst.out.2.2.2⟩
    · rw [if_neg (by omega), if_neg (by omega)]
      subst d2
      go_enter Try.func69, Try.ntmps69
      go_wp2_with (first
        | (go_at_call 59; ((with_reducible refine (H1.out _).mono ?_); rintro e w' ⟨rfl, b⟩; have hs2 := Lib.hid (hst.out.step b); clear hst b c00 c01 c02 c03 c10 c11 c20 c21; have hst := hs2; clear hs2; have q0 := cells_ln hst.out.1; obtain ⟨c00, c01, c02, c03⟩ := q0; have q1 := cells_pl hst.out.2.1; obtain ⟨c10, c11⟩ := q1; have q2 := cells_pl hst.out.2.2.1; obtain ⟨c20, c21⟩ := q2))
        | (go_at_call 14; ((with_reducible refine (H2.out _).mono ?_); rintro e w' ⟨rfl, b⟩; have hs2 := Lib.hid (hst.out.step b); clear hst b c00 c01 c02 c03 c10 c11 c20 c21; have hst := hs2; clear hs2; have q0 := cells_ln hst.out.1; obtain ⟨c00, c01, c02, c03⟩ := q0; have q1 := cells_pl hst.out.2.1; obtain ⟨c10, c11⟩ := q1; have q2 := cells_pl hst.out.2.2.1; obtain ⟨c20, c21⟩ := q2))
        | (go_at_call 14; ((with_reducible refine (H3.out _).mono ?_); rintro e w' ⟨rfl, b⟩; have hs2 := Lib.hid (hst.out.step b); clear hst b c00 c01 c02 c03 c10 c11 c20 c21; have hst := hs2; clear hs2; have q0 := cells_ln hst.out.1; obtain ⟨c00, c01, c02, c03⟩ := q0; have q1 := cells_pl hst.out.2.1; obtain ⟨c10, c11⟩ := q1; have q2 := cells_pl hst.out.2.2.1; obtain ⟨c20, c21⟩ := q2))
        | (go_at_call 49; ((with_reducible refine (HX.out _).mono ?_); rintro e w' ⟨rfl, b⟩; have hs2 := Lib.hid (hst.out.step b); clear hst b c00 c01 c02 c03 c10 c11 c20 c21; have hst := hs2; clear hs2; have q0 := cells_ln hst.out.1; obtain ⟨c00, c01, c02, c03⟩ := q0; have q1 := cells_pl hst.out.2.1; obtain ⟨c10, c11⟩ := q1; have q2 := cells_pl hst.out.2.2.1; obtain ⟨c20, c21⟩ := q2))
        | (go_at_call 49; ((with_reducible refine (HY.out _).mono ?_); rintro e w' ⟨rfl, b⟩; have hs2 := Lib.hid (hst.out.step b); clear hst b c00 c01 c02 c03 c10 c11 c20 c21; have hst := hs2; clear hs2; have q0 := cells_ln hst.out.1; obtain ⟨c00, c01, c02, c03⟩ := q0; have q1 := cells_pl hst.out.2.1; obtain ⟨c10, c11⟩ := q1; have q2 := cells_pl hst.out.2.2.1; obtain ⟨c20, c21⟩ := q2))
        | (go_at_call 87; ((with_reducible refine (HS.out _).mono ?_); rintro e w' ⟨rfl, b⟩; have hs2 := Lib.hid (hst.out.step b); clear hst b c00 c01 c02 c03 c10 c11 c20 c21; have hst := hs2; clear hs2; have q0 := cells_ln hst.out.1; obtain ⟨c00, c01, c02, c03⟩ := q0; have q1 := cells_pl hst.out.2.1; obtain ⟨c10, c11⟩ := q1; have q2 := cells_pl hst.out.2.2.1; obtain ⟨c20, c21⟩ := q2))
        | (go_at_call 87; ((with_reducible refine (HT.out _).mono ?_); rintro e w' ⟨rfl, b⟩; have hs2 := Lib.hid (hst.out.step b); clear hst b c00 c01 c02 c03 c10 c11 c20 c21; have hst := hs2; clear hs2; have q0 := cells_ln hst.out.1; obtain ⟨c00, c01, c02, c03⟩ := q0; have q1 := cells_pl hst.out.2.1; obtain ⟨c10, c11⟩ := q1; have q2 := cells_pl hst.out.2.2.1; obtain ⟨c20, c21⟩ := q2)))
      go_ret
      exact ⟨rfl, hst.out.2.2.2⟩
theorem s_cr (l : Ln) (a b : Int × Int) (w : World) :
    Calls Try.prog 69 #[.agg #[.int .i64 l.1.1, .int .i64 l.1.2, .int .i64 l.2.1, .int .i64 l.2.2], .agg #[.int .i64 a.1, .int .i64 a.2], .agg #[.int .i64 b.1, .int .i64 b.2]] w
      fun e w' => e = .returned (.int .i64 (crW l a b)) ∧ Below w.heap.size w w' := by
  cases h : (liB l && plB a && plB b)
  · rw [crW_no h]; exact s_cr_no l a b w h
  · simp only [Bool.and_eq_true] at h
    rw [crW_yes h.1.1 h.1.2 h.2]; exact s_cr_yes l a b w h.1.1 h.1.2 h.2
end Go.Proofs.Ythahakefmpajfaa
