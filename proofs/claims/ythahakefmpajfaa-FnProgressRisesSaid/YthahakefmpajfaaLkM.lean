/- The drawing of courses: l10Course. -/
import Derived.Test.YthahakefmpajfaaLkK
import Derived.Test.YthahakefmpajfaaLkJ
namespace Go.Proofs.Ythahakefmpajfaa
open Go.RowKit
set_option linter.unusedVariables false
set_option linter.unusedSimpArgs false

/-- A list of marks of the call's own. -/
def IsMk (c : Nat) (x : Value) : Prop := (c < 2 → ∃ n, x = .int .i64 n) ∧ (c = 2 → ∃ t, x = .bool t)
theorem mk_cells (a b : Int) (t : Bool) : ∀ (k : Nat) (x : Value), [Value.int .i64 a, .int .i64 b, .bool t][k]? = some x → IsMk (k % 3) x := fun k x hx => by
  match k with
  | 0 => cases hx; exact ⟨fun _ => ⟨a, rfl⟩, fun e => by cases e⟩
  | 1 => cases hx; exact ⟨fun _ => ⟨b, rfl⟩, fun e => by cases e⟩
  | 2 => cases hx; exact ⟨fun e => absurd e (by decide), fun _ => ⟨t, rfl⟩⟩
  | k + 3 => simp at hx
def OwnM (w : World) (B : Nat) (v : Value) (n : Nat) : Prop := OwnC IsMk 88 3 w B v n
theorem Try.infoMkZ : (Try.prog.info? 88).map (fun i => (i.zero, i.size, i.bytes)) = some (some (.agg #[.int .i64 0, .int .i64 0, .bool false]), 3, 24) := by kernel_rfl
theorem Try.infoCoS : (Try.prog.info? 36).map (·.size) = some 9 := by kernel_rfl
theorem wrap_lt10 {n' : Nat} {x : Int} (h0 : 0 ≤ x) (h1 : x < 2) (h : decide ((n' : Int) < IntKind.i64.wrap (20 + x)) = true) : n' < 21 := by
  rw [IntWalk.i64_in _ (by omega)] at h
  have := of_decide_eq_true h
  omega
/-- The nine cells of a course. -/
def cs9 (s t : Ln) (v : Value) : Array Value := #[.int .i64 s.1.1, .int .i64 s.1.2, .int .i64 s.2.1, .int .i64 s.2.2, v, .int .i64 t.1.1, .int .i64 t.1.2, .int .i64 t.2.1, .int .i64 t.2.2]
/-- What stands while a course is drawn. -/
def CSv (w : World) (B g : Nat) (A : Option Addr) (len cap gx : Nat) (s t : Ln) (v : Value) (n : Nat) (wx : World) : Prop :=
  w.grownBy wx (some g) ∧ Cur wx B g A len cap ∧ g < w.heap.size ∧ w.heap.size < gx ∧ (∃ z, wx.heap[w.heap.size]? = some (.cells z 36 (0, 0)) ∧ z = cs9 ((0, 0), (0, 0)) ((0, 0), (0, 0)) (.slice none 0 0)) ∧ wx.heap[gx]? = some (.cells (cs9 s t v) 36 (0, 0)) ∧ OwnM wx w.heap.size v n ∧ v.ownBlock ≠ some gx ∧ v.ownBlock ≠ some w.heap.size
theorem CSv.draw {w w1 w2 : World} {B g : Nat} {A : Option Addr} {len cap gx : Nat} {s t : Ln} {v : Value} {n : Nat} (h : CSv w B g A len cap gx s t v n w1) (c : Cur w2 B g A len cap) (k : w1.grownBy w2 (some g)) : CSv w B g A len cap gx s t v n w2 := by
  obtain ⟨h1, h2, h3, h4, ⟨z, h5, h6⟩, h7, h8, h9, h10⟩ := h
  exact ⟨grown_trans h1 k, c, h3, h4, ⟨z, box_far h5 k (fun e => by cases e; omega), h6⟩, box_far h7 k (fun e => by cases e; omega), h8.kept k (fun j e q => by cases e; have := (h8.lt q).1; omega), h9, h10⟩
theorem CSv.alloc {w w1 : World} {B g : Nat} {A : Option Addr} {len cap gx : Nat} {s t : Ln} {v : Value} {n : Nat} (h : CSv w B g A len cap gx s t v n w1) (o : Obj) : CSv w B g A len cap gx s t v n (w1.alloc o) :=
  h.draw (h.2.1.alloc o) (World.grownBy_alloc w1 o _)
theorem CSv.drew {w w1 : World} {B g : Nat} {A : Option Addr} {len cap gx : Nat} {s t : Ln} {v : Value} {n : Nat} (h : CSv w B g A len cap gx s t v n w1) : CSv w B g A len cap gx s t v n w1.drew :=
  h.draw (h.2.1.grown_far (grown_drewN w1 1 none) (by simp) (fun _ e => by cases e)) ⟨rfl, rfl, rfl, Nat.le_refl _, fun _ _ _ => rfl⟩
/-- A store into the course. -/
theorem CSv.put {w w1 : World} {B g : Nat} {A : Option Addr} {len cap gx c : Nat} {s t s' t' : Ln} {v x : Value} {n : Nat} (h : CSv w B g A len cap gx s t v n w1) (e : (cs9 s t v).setIfInBounds c x = cs9 s' t' v) : CSv w B g A len cap gx s' t' v n (w1.setCell ⟨gx, c, none⟩ x) := by
  obtain ⟨h1, h2, h3, h4, ⟨z, h5, h6⟩, h7, h8, h9, h10⟩ := h
  have k := grown_set w1 gx c x
  have hB := h2.1
  refine ⟨gr_new h1 k fun j q => .inr (by cases q; omega), h2.grown_far k (fun q => by cases q; omega) (fun j q => by cases q; omega), h3, h4, ⟨z, box_far h5 k (fun q => by cases q; omega), h6⟩, ?_, h8.kept k (fun j q => by cases q; exact h9), h9, h10⟩
  rw [← e]; exact heap_set_self h7 x
/-- A mark more. -/
theorem CSv.add {w w1 w7 : World} {B g : Nat} {A : Option Addr} {len cap gx : Nat} {s t : Ln} {v v' : Value} {n n' : Nat} (h : CSv w B g A len cap gx s t v n w1) (k : w1.grownBy w7 v.ownBlock) (ho : OwnM w7 w.heap.size v' n') : CSv w B g A len cap gx s t v' n' (w7.setCell ⟨gx, 4, none⟩ v') := by
  obtain ⟨h1, h2, h3, h4, ⟨z, h5, h6⟩, h7, h8, h9, h10⟩ := h
  have hB := h2.1
  have h7' := box_far h7 k h9
  have h5' := box_far h5 k h10
  have k2 := grown_set w7 gx 4 v'
  have q9 : v'.ownBlock ≠ some gx := ho.ne h7' (by decide)
  refine ⟨gr_new (gr_new h1 k fun j q => .inr (h8.lt q).1) k2 fun j q => .inr (by cases q; omega), (h2.grown_far k (fun q => by have := (h8.lt q).1; omega) (fun j q => by have := (h8.lt q).1; omega)).grown_far k2 (fun q => by cases q; omega) (fun j q => by cases q; omega), h3, h4, ⟨z, box_far h5' k2 (fun q => by cases q; omega), h6⟩, ?_, ho.kept k2 (fun j q => by cases q; exact q9), q9, ho.ne h5' (by decide)⟩
  exact heap_set_self h7' v'
theorem CSv.field {w w1 w7 : World} {B g : Nat} {A : Option Addr} {len cap gx : Nat} {s t : Ln} {v : Value} {n : Nat} (h : CSv w B g A len cap gx s t v n w1) (k : w1.grownBy w7 v.ownBlock) : w7.cell? ⟨gx, 4, none⟩ = some v ∧ w7.frozen? ⟨gx, 4, none⟩ = false := by
  obtain ⟨h1, h2, h3, h4, _, h7, h8, h9, h10⟩ := h
  have h7' := box_far h7 k h9
  exact ⟨cell_of_row w7 _ 4 _ _ _ h7', by simp [World.frozen?, h7']⟩
/-- A store into the first mark. -/
theorem CSv.elem {w w1 : World} {B g : Nat} {A : Option Addr} {len cap gx c gM : Nat} {s t : Ln} {v x : Value} {n : Nat} (h : CSv w B g A len cap gx s t v n w1) (e : v.ownBlock = some gM) (hx : IsMk (c % 3) x) : CSv w B g A len cap gx s t v n (w1.setCell ⟨gM, c, none⟩ x) := by
  obtain ⟨h1, h2, h3, h4, ⟨z, h5, h6⟩, h7, h8, h9, h10⟩ := h
  have k := grown_set w1 gM c x
  have hB := h2.1
  have hl := h8.lt e
  exact ⟨gr_new h1 k fun j q => .inr (by cases q; omega), h2.grown_far k (fun q => by cases q; omega) (fun j q => by cases q; omega), h3, h4, ⟨z, box_far h5 k (fun q => h10 (e.trans q)), h6⟩, box_far h7 k (fun q => h9 (e.trans q)), h8.set e hx, h9, h10⟩
theorem CSv.mark {w w1 : World} {B g : Nat} {A : Option Addr} {len cap gx c gM : Nat} {s t : Ln} {v : Value} {n : Nat} (h : CSv w B g A len cap gx s t v n w1) (e : v.ownBlock = some gM) (hc : c < n * 3) : ∃ x, w1.cell? ⟨gM, c, none⟩ = some x ∧ w1.frozen? ⟨gM, c, none⟩ = false := by
  obtain ⟨g', cap', cs, rfl, a1, a2, a3, a4, a5, a6⟩ := h.2.2.2.2.2.2.1.form (by omega)
  cases e
  have : n * 3 ≤ cap' * 3 := Nat.mul_le_mul_right 3 a1
  exact cell_at a4 a5 (by omega)
/-- No marks. -/
theorem CSv.bare {w w1 : World} {B g : Nat} {A : Option Addr} {len cap gx : Nat} {s t : Ln} {v : Value} {n : Nat} (h : CSv w B g A len cap gx s t v n w1) :
    CSv w B g A len cap gx s t (.slice (some ⟨w1.heap.size, 0, none⟩) 0 0) 0 ((w1.alloc (.cells #[] 88)).setCell ⟨gx, 4, none⟩ (.slice (some ⟨w1.heap.size, 0, none⟩) 0 0)) := by
  have ga := World.grownBy_alloc w1 (.cells #[] 88) v.ownBlock
  have hs := h.1.size
  exact h.add ga ⟨[], (fun c x hx => by simp at hx), by simp, .inr ⟨_, 0, #[], rfl, hs, heap_alloc_new w1 _, Nat.le_refl _, by simp [maxLen], by simp, by simp⟩⟩
theorem CSv.new {w w1 : World} {B g : Nat} {A : Option Addr} {len cap : Nat} (s t : Ln) {z : Array Value} (h1 : w.grownBy w1 (some g)) (h2 : Cur w1 B g A len cap) (h3 : g < w.heap.size) (h5 : w1.heap[w.heap.size]? = some (.cells z 36 (0, 0))) (h6 : z = cs9 ((0, 0), (0, 0)) ((0, 0), (0, 0)) (.slice none 0 0)) :
    CSv w B g A len cap w1.heap.size s t (.slice none 0 0) 0 (w1.alloc (.cells (cs9 s t (.slice none 0 0)) 36)) :=
  ⟨grown_trans h1 (World.grownBy_alloc w1 _ _), h2.alloc _, h3, block_lt h5, ⟨z, (Below.heap_alloc w1 _ _ (block_lt h5)).trans h5, h6⟩, heap_alloc_new w1 _, own_none _ _ _ _ _, by simp [Value.ownBlock], by simp [Value.ownBlock]⟩
/-- The cells of the course. -/
theorem CSv.cells {w w1 : World} {B g : Nat} {A : Option Addr} {len cap gx : Nat} {s t : Ln} {v : Value} {n : Nat} (h : CSv w B g A len cap gx s t v n w1) :
    w1.cell? ⟨gx, 0, none⟩ = some (.int .i64 s.1.1) ∧ w1.cell? ⟨gx, 1, none⟩ = some (.int .i64 s.1.2) ∧ w1.cell? ⟨gx, 2, none⟩ = some (.int .i64 s.2.1) ∧ w1.cell? ⟨gx, 3, none⟩ = some (.int .i64 s.2.2) ∧ w1.cell? ⟨gx, 4, none⟩ = some v ∧ w1.cell? ⟨gx, 5, none⟩ = some (.int .i64 t.1.1) ∧ w1.cell? ⟨gx, 6, none⟩ = some (.int .i64 t.1.2) ∧ w1.cell? ⟨gx, 7, none⟩ = some (.int .i64 t.2.1) ∧ w1.cell? ⟨gx, 8, none⟩ = some (.int .i64 t.2.2) :=
  have h7 := h.2.2.2.2.2.1
  ⟨cell_of_row w1 _ 0 _ _ _ h7, cell_of_row w1 _ 1 _ _ _ h7, cell_of_row w1 _ 2 _ _ _ h7, cell_of_row w1 _ 3 _ _ _ h7, cell_of_row w1 _ 4 _ _ _ h7, cell_of_row w1 _ 5 _ _ _ h7, cell_of_row w1 _ 6 _ _ _ h7, cell_of_row w1 _ 7 _ _ _ h7, cell_of_row w1 _ 8 _ _ _ h7⟩
theorem CSv.soft {w w1 : World} {B g : Nat} {A : Option Addr} {len cap gx : Nat} {s t : Ln} {v : Value} {n : Nat} (h : CSv w B g A len cap gx s t v n w1) (k : Nat) : w1.frozen? ⟨gx, k, none⟩ = false := by
  have h7 := h.2.2.2.2.2.1
  simp [World.frozen?, h7]
def CSt (w : World) (B g : Nat) (A : Option Addr) (len cap gx n : Nat) (wx : World) : Prop := ∃ s t v, CSv w B g A len cap gx s t v n wx
set_option maxRecDepth 100000 in
set_option maxHeartbeats 8000000 in
theorem d_course (w : World) (B g len cap : Nat) (A : Option Addr) (hc : Cur w B g A len cap) :
    Calls Try.prog 51 #[.pointer (some ⟨g, 0, none⟩)] w fun e w' => ∃ (s t : Ln) (v : Value) (n : Nat), n ≤ 21 ∧ e = .returned (.agg (cs9 s t v)) ∧ OwnM w' w.heap.size v n ∧ Cur w' B g A len cap ∧ w.grownBy w' (some g) := by
  obtain ⟨i0, hi, hz0, hz1, hz2⟩ := info_parts Try.infoMkZ
  have hgl := hc.lt
  have hR0 := heap_alloc_new w (.cells (cs9 ((0, 0), (0, 0)) ((0, 0), (0, 0)) (.slice none 0 0)) 36)
  have g0 := World.grownBy_alloc w (.cells (cs9 ((0, 0), (0, 0)) ((0, 0), (0, 0)) (.slice none 0 0)) 36) (some g)
  have cu0 := hc.alloc (.cells (cs9 ((0, 0), (0, 0)) ((0, 0), (0, 0)) (.slice none 0 0)) 36)
  have hs0 : (w.alloc (.cells (cs9 ((0, 0), (0, 0)) ((0, 0), (0, 0)) (.slice none 0 0)) 36)).heap.size = w.heap.size + 1 := by simp
  simp only [cs9] at hR0 g0 cu0 hs0
  go_enter Try.func51, Try.ntmps51
  go_wp2_with fail
  refine (d_below 9 _ B g len cap A cu0 (by omega)).mono ?_
  rintro e w1 ⟨x, x0, x1, _, rfl, cu1, gr1⟩
  have hR1 := box_far hR0 gr1 (fun e => by cases e; omega)
  have gg1 := grown_trans g0 gr1
  clear hR0 g0 cu0 gr1
  have HC1 := Lib.hid (CSv.new ((0, -20), (x - 4, 20)) ((0, 0), (0, 0)) gg1 cu1 hgl hR1 rfl)
  clear gg1 hR1 cu1 hs0
  go_wp2_with fail
  have hcu := HC1.out.2.1
  simp only [cs9] at hcu
  refine (d_below 3 _ B g len cap A hcu (by omega)).mono ?_
  rintro e w2 ⟨y, y0, y1, _, rfl, cu2, gr2⟩
  have HC2 := Lib.hid (HC1.out.draw cu2 gr2)
  clear hcu cu2 gr2
  generalize hgx : w1.heap.size = gx at *
  clear HC1 hgx
  have y3 := y1 (by omega)
  clear y1 x1
  obtain ⟨y, rfl⟩ : ∃ k : Nat, y = k := ⟨y.toNat, by omega⟩
  have vy : IntKind.i64.wrap (1 + (y : Int)) = ((1 + y : Nat) : Int) := by rw [IntWalk.i64_in _ (by omega)]; omega
  have H2 := Lib.hid (show ∃ s t v, CSv w B g A len cap gx s t v 0 w2 from ⟨_, _, _, HC2.out⟩)
  clear HC2
  go_wp2
  go_loopw [4] (fun n wr => ∃ (k m : Nat), n = .int .i64 k ∧ k + m = 1 + y ∧ ∃ s t v, CSv w B g A len cap gx s t v m wr) (fun n _ => (intOf n).toNat)
  case atStart => exact ⟨1 + y, 0, by rw [show ((1 + y : Nat) : Int) = 1 + (y : Int) by omega], by omega, H2.out⟩
  case round =>
    obtain ⟨k, m, rfl, hkm, s, t, v, hC⟩ := hrel
    obtain ⟨Am, cm, rfl, _⟩ := hC.2.2.2.2.2.2.1.value
    obtain ⟨c0, c1, c2, c3, c4, c5, c6, c7, c8⟩ := hC.cells
    have HC := Lib.hid hC
    clear H2 hC
    have hm : m ≤ 3 := by omega
    by_cases hk : 0 < k
    · have hk' : (0 : Int) < (k : Int) := by omega
      go_wp2_with fail
      refine (d_near (_, _) 40 _ B g len cap A (by omega) HC.out.2.1).mono ?_
      rintro e w3 ⟨⟨q1, q2⟩, rfl, cu3, gr3⟩
      dsimp only at *
      have HC3 := Lib.hid (HC.out.draw cu3 gr3)
      clear cu3 gr3 HC c0 c1 c2 c3 c4 c5 c6 c7 c8
      go_wp2_with fail
      refine (d_once 2 _ B g len cap A HC3.out.2.1 (by omega)).mono ?_
      rintro e w4 ⟨t4, rfl, cu4, gr4⟩
      have HC4 := Lib.hid (HC3.out.draw cu4 gr4)
      clear cu4 gr4 HC3
      obtain ⟨xs, hxs, hown⟩ := HC4.out.2.2.2.2.2.2.1
      have hxl : xs.length = m * 3 := hown.1
      have HA := Lib.hid ((HC4.out.alloc (.cells #[.int .i64 q1, .int .i64 q2, .bool t4] 88)).alloc (.cells #[.int .i64 q1, .int .i64 q2, .bool t4] 88))
      have hszw : w.heap.size ≤ w4.heap.size := HC4.out.1.size
      obtain ⟨_, _, _, _, c4, _, _, _, _⟩ := HC4.out.cells
      have c4a := (HC4.out.alloc (.cells #[.int .i64 q1, .int .i64 q2, .bool t4] 88)).cells.2.2.2.2.1
      go_wp2_with (at_builtin; refine wpList_append_lies _ rfl _ _ 34 rfl w.heap.size 88 i0 (.agg #[.int .i64 0, .int .i64 0, .bool false]) 3 24 Try.underlying34 hi hz0 hz1 hz2 rfl (by decide) _ m xs rfl ((hown.alloc _).alloc _) ⟨w4.heap.size + 1, 0, none⟩ 1 1 [.int .i64 q1, .int .i64 q2, .bool t4] rfl rfl (by have h := World.news_of_block (cs := #[.int .i64 q1, .int .i64 q2, .bool t4]) (t := 88) (fr := (0, 0)) (heap_alloc_new (w4.alloc (.cells #[.int .i64 q1, .int .i64 q2, .bool t4] 88)) (.cells #[.int .i64 q1, .int .i64 q2, .bool t4] 88)); simpa using h) (by simp [Value.oneCell']) (by omega) (by unfold maxLen; omega) (by omega) (by simp; omega) _ rfl ?_; intro g7 c7 w7 hown7 hgrow hat hlt; obtain ⟨x7, f7⟩ := HA.out.field hgrow)
      have HD := Lib.hid (HA.out.add hgrow (own_add hown7 hxs (mk_cells q1 q2 t4) (by omega)))
      clear hown7 hgrow hat hlt x7 f7 HA hxs hown HC4 c4 c4a
      go_wp2
      go_roundw
      case rel => exact ⟨k - 1, m + 1, by go_num, by omega, s, t, _, HD.out⟩
      case measure => simp [intOf]; omega
    · obtain rfl : k = 0 := by omega
      have hm1 : 1 ≤ m := by omega
      go_wp2_with fail
      refine (d_near (50, -20) 20 _ B g len cap A (by omega) HC.out.2.1).mono ?_
      rintro e w3 ⟨⟨f1, f2⟩, rfl, cu3, gr3⟩
      dsimp only at *
      have HC3 := Lib.hid (HC.out.draw cu3 gr3)
      clear cu3 gr3 HC c0 c1 c2 c3 c4 c5 c6 c7 c8
      go_wp2_with fail
      refine (d_near (50, 20) 20 _ B g len cap A (by omega) HC3.out.2.1).mono ?_
      rintro e w4 ⟨⟨f3, f4⟩, rfl, cu4, gr4⟩
      dsimp only at *
      have HC4 := Lib.hid (HC3.out.draw cu4 gr4)
      clear cu4 gr4 HC3
      have p1 := HC4.out.put (c := 5) (x := .int .i64 f1) (s' := s) (t' := ((f1, t.1.2), t.2)) rfl
      have p2 := p1.put (c := 6) (x := .int .i64 f2) (s' := s) (t' := ((f1, f2), t.2)) rfl
      have p3 := p2.put (c := 7) (x := .int .i64 f3) (s' := s) (t' := ((f1, f2), (f3, t.2.2))) rfl
      have HP := Lib.hid (p3.put (c := 8) (x := .int .i64 f4) (s' := s) (t' := ((f1, f2), (f3, f4))) rfl)
      have a5 := HC4.out.cells.2.2.2.2.2.1
      have a6 := p1.cells.2.2.2.2.2.2.1
      have a7 := p2.cells.2.2.2.2.2.2.2.1
      have a8 := p3.cells.2.2.2.2.2.2.2.2
      have b5 := HC4.out.soft 5
      have b6 := p1.soft 6
      have b7 := p2.soft 7
      have b8 := p3.soft 8
      clear p1 p2 p3
      go_wp2_with fail
      refine (d_below 20 _ B g len cap A HP.out.2.1 (by omega)).mono ?_
      rintro e w5 ⟨c, c0, c1, _, rfl, cu5, gr5⟩
      have HD := Lib.hid (HP.out.draw cu5 gr5)
      have c2 := c1 (by omega)
      clear cu5 gr5 HP a5 a6 a7 a8 b5 b6 b7 b8 HC4 c1
      go_upto_block 2 with fail
      go_cut [] (fun wx => ∃ n, n ≤ 21 ∧ ∃ s t v, CSv w B g A len cap gx s t v n wx)
      case first =>
        have hn0 : 0 < m := by omega
        have hn0' : (0 : Int) < (m : Int) := by omega
        by_cases e0 : c = 0
        · subst e0
          have hA := HD.out.alloc (.cells #[] 88)
          have a4 := hA.cells.2.2.2.2.1
          have b4 := hA.soft 4
          have HE := Lib.hid HD.out.bare
          clear hA
          go_wp2_with fail
          go_meet
          exact ⟨_, by omega, _, _, _, HE.out⟩
        by_cases e1 : c = 1
        · subst e1
          obtain ⟨k0, k1, k2, k3, k4, k5, k6, k7, k8⟩ := HD.out.cells
          obtain ⟨gM, cM, cs, e1, _⟩ := HD.out.2.2.2.2.2.2.1.form hn0
          cases e1
          obtain ⟨_, a0, b0⟩ := HD.out.mark rfl (show 0 < m * 3 by omega)
          have p1 := HD.out.elem (c := 0) (x := .int .i64 s.1.1) rfl ⟨fun _ => ⟨_, rfl⟩, fun e => by cases e⟩
          obtain ⟨_, a1, b1⟩ := p1.mark rfl (show 1 < m * 3 by omega)
          have HE := Lib.hid (p1.elem (c := 1) (x := .int .i64 s.1.2) rfl ⟨fun _ => ⟨_, rfl⟩, fun e => by cases e⟩)
          clear p1
          go_wp2_with fail
          go_meet
          exact ⟨_, by omega, _, _, _, HE.out⟩
        by_cases e2 : c = 2
        · subst e2
          go_wp2_with fail
          refine (d_line _ B g len cap A HD.out.2.1).mono ?_
          rintro e w6 ⟨⟨⟨l1, l2⟩, l3, l4⟩, rfl, cu6, gr6⟩
          dsimp only at *
          have HC6 := Lib.hid (HD.out.draw cu6 gr6)
          clear cu6 gr6
          have p1 := HC6.out.put (c := 0) (x := .int .i64 l1) (s' := ((l1, s.1.2), s.2)) rfl
          have p2 := p1.put (c := 1) (x := .int .i64 l2) (s' := ((l1, l2), s.2)) rfl
          have p3 := p2.put (c := 2) (x := .int .i64 l3) (s' := ((l1, l2), (l3, s.2.2))) rfl
          have HP := Lib.hid (p3.put (c := 3) (x := .int .i64 l4) (s' := ((l1, l2), (l3, l4))) rfl)
          have a5 := HC6.out.cells.1
          have a6 := p1.cells.2.1
          have a7 := p2.cells.2.2.1
          have a8 := p3.cells.2.2.2.1
          have b5 := HC6.out.soft 0
          have b6 := p1.soft 1
          have b7 := p2.soft 2
          have b8 := p3.soft 3
          clear p1 p2 p3
          go_wp2_with fail
          go_meet
          exact ⟨_, by omega, _, _, _, HP.out⟩
        by_cases e3 : c = 3
        · subst e3
          obtain ⟨k0, k1, k2, k3, k4, k5, k6, k7, k8⟩ := HD.out.cells
          have p1 := HD.out.put (c := 5) (x := .int .i64 f3) (s' := s) (t' := ((f3, f2), (f3, f4))) rfl
          have HP := Lib.hid (p1.put (c := 6) (x := .int .i64 f4) (s' := s) (t' := ((f3, f4), (f3, f4))) rfl)
          have a6 := p1.cells.2.2.2.2.2.2.1
          have b5 := HD.out.soft 5
          have b6 := p1.soft 6
          clear p1
          go_wp2_with fail
          go_meet
          exact ⟨_, by omega, _, _, _, HP.out⟩
        by_cases e4 : c = 4
        · subst e4
          have H4 := Lib.hid (show ∃ s t v, CSv w B g A len cap gx s t v m w5 from ⟨_, _, _, HD.out⟩)
          clear HD
          go_wp2_with fail
          go_loopg [] (24 - m) (fun gk wr => ∃ n', n' ≤ 21 ∧ gk = 24 - n' ∧ ∃ s t v, CSv w B g A len cap gx s t v n' wr)
          case atStart => exact ⟨m, by omega, rfl, H4.out⟩
          case round =>
            clear H4
            obtain ⟨n', a1, rfl, s, t, v, hd⟩ := hrel
            obtain ⟨An, cn, rfl, _⟩ := hd.2.2.2.2.2.2.1.value
            have HD4 := Lib.hid hd
            have k4 := hd.cells.2.2.2.2.1
            clear hd
            go_upto_region 18 with fail
            go_cut [80] (fun s80 wx => ∃ b : Bool, s80 = .bool b ∧ (b = true → n' < 21) ∧ CSv w B g A len cap gx s t (.slice An n' cn) n' wx)
            case first =>
              have HDd := Lib.hid (HD4.out.drew)
              go_region_with ((go_at_call 76; refine (d_below 2 _ B g len cap A HDd.out.2.1 (by omega)).mono ?_; rintro e w6 ⟨x, y0, y1, _, rfl, cu, gr⟩; have y3 := y1 (by omega); have HD5 := Lib.hid (HDd.out.draw cu gr); have k5 := HD5.out.cells.2.2.2.2.1; clear y1 cu gr))
              all_goals (go_wp2_with fail; go_meet; exact ⟨_, rfl, wrap_lt10 y0 y3, HD5.out⟩)
            case rest =>
            clear HD4 k4
            obtain ⟨b, rfl, hb, hd⟩ := hcut
            have HB := Lib.hid hb
            have HC4 := Lib.hid hd
            have k4 := hd.cells.2.2.2.2.1
            clear hb hd
            cases b
            · go_wp2_with fail
              go_meet
              exact ⟨_, by omega, _, _, _, HC4.out⟩
            · have hn21 := HB.out rfl
              obtain ⟨xs, hxs, hown⟩ := HC4.out.2.2.2.2.2.2.1
              have hxl : xs.length = n' * 3 := hown.1
              have HA := Lib.hid (HC4.out.alloc (.cells #[.int .i64 n', .int .i64 1000, .bool false] 88))
              have hszw : w.heap.size ≤ wc.heap.size := HC4.out.1.size
              go_wp2_with (at_builtin; refine wpList_append_lies _ rfl _ _ 34 rfl w.heap.size 88 i0 (.agg #[.int .i64 0, .int .i64 0, .bool false]) 3 24 Try.underlying34 hi hz0 hz1 hz2 rfl (by decide) _ n' xs rfl (hown.alloc _) ⟨wc.heap.size, 0, none⟩ 1 1 [.int .i64 n', .int .i64 1000, .bool false] rfl rfl (World.news_of_block (cs := #[.int .i64 n', .int .i64 1000, .bool false]) (t := 88) (fr := (0, 0)) (heap_alloc_new wc _)) (by simp [Value.oneCell']) (by omega) (by unfold maxLen; omega) (by omega) (by simp; omega) _ rfl ?_; intro g7 c7 w7 hown7 hgrow hat hlt; obtain ⟨x7, f7⟩ := HA.out.field hgrow)
              have HD7 := Lib.hid (HA.out.add hgrow (own_add hown7 hxs (mk_cells n' 1000 false) (by omega)))
              clear hown7 hgrow hat hlt x7 f7 HA hxs hown HC4 k4
              go_wp2_with fail
              go_roundg (24 - (n' + 1))
              case measure => omega
              case rel => exact ⟨n' + 1, by omega, rfl, _, _, _, HD7.out⟩
        go_wp2_with fail
        go_meet
        exact ⟨_, by omega, _, _, _, HD.out⟩
      case rest =>
      clear HD
      obtain ⟨n, hn, s, t, v, hd⟩ := hcut
      obtain ⟨An, cn, rfl, _⟩ := hd.2.2.2.2.2.2.1.value
      have HD := Lib.hid hd
      obtain ⟨k0, k1, k2, k3, k4, k5, k6, k7, k8⟩ := hd.cells
      obtain ⟨z, q0, rfl⟩ := hd.2.2.2.2.1
      obtain ⟨_, x0, y0⟩ := cell_at q0 (k := 0) rfl (show 0 < 9 by omega)
      have q1 : (wc.setCell ⟨w.heap.size, 0, none⟩ (.int .i64 s.1.1)).heap[w.heap.size]? = some (.cells #[.int .i64 s.1.1, .int .i64 0, .int .i64 0, .int .i64 0, .slice none 0 0, .int .i64 0, .int .i64 0, .int .i64 0, .int .i64 0] 36 (0, 0)) := heap_set_self (k := 0) q0 (.int .i64 s.1.1)
      obtain ⟨_, x1, y1⟩ := cell_at q1 (k := 1) rfl (show 1 < 9 by omega)
      have q2 : ((wc.setCell ⟨w.heap.size, 0, none⟩ (.int .i64 s.1.1)).setCell ⟨w.heap.size, 1, none⟩ (.int .i64 s.1.2)).heap[w.heap.size]? = some (.cells #[.int .i64 s.1.1, .int .i64 s.1.2, .int .i64 0, .int .i64 0, .slice none 0 0, .int .i64 0, .int .i64 0, .int .i64 0, .int .i64 0] 36 (0, 0)) := heap_set_self (k := 1) q1 (.int .i64 s.1.2)
      obtain ⟨_, x2, y2⟩ := cell_at q2 (k := 2) rfl (show 2 < 9 by omega)
      have q3 : (((wc.setCell ⟨w.heap.size, 0, none⟩ (.int .i64 s.1.1)).setCell ⟨w.heap.size, 1, none⟩ (.int .i64 s.1.2)).setCell ⟨w.heap.size, 2, none⟩ (.int .i64 s.2.1)).heap[w.heap.size]? = some (.cells #[.int .i64 s.1.1, .int .i64 s.1.2, .int .i64 s.2.1, .int .i64 0, .slice none 0 0, .int .i64 0, .int .i64 0, .int .i64 0, .int .i64 0] 36 (0, 0)) := heap_set_self (k := 2) q2 (.int .i64 s.2.1)
      obtain ⟨_, x3, y3⟩ := cell_at q3 (k := 3) rfl (show 3 < 9 by omega)
      have q4 : ((((wc.setCell ⟨w.heap.size, 0, none⟩ (.int .i64 s.1.1)).setCell ⟨w.heap.size, 1, none⟩ (.int .i64 s.1.2)).setCell ⟨w.heap.size, 2, none⟩ (.int .i64 s.2.1)).setCell ⟨w.heap.size, 3, none⟩ (.int .i64 s.2.2)).heap[w.heap.size]? = some (.cells #[.int .i64 s.1.1, .int .i64 s.1.2, .int .i64 s.2.1, .int .i64 s.2.2, .slice none 0 0, .int .i64 0, .int .i64 0, .int .i64 0, .int .i64 0] 36 (0, 0)) := heap_set_self (k := 3) q3 (.int .i64 s.2.2)
      obtain ⟨_, x4, y4⟩ := cell_at q4 (k := 4) rfl (show 4 < 9 by omega)
      have q5 : (((((wc.setCell ⟨w.heap.size, 0, none⟩ (.int .i64 s.1.1)).setCell ⟨w.heap.size, 1, none⟩ (.int .i64 s.1.2)).setCell ⟨w.heap.size, 2, none⟩ (.int .i64 s.2.1)).setCell ⟨w.heap.size, 3, none⟩ (.int .i64 s.2.2)).setCell ⟨w.heap.size, 4, none⟩ (.slice An n cn)).heap[w.heap.size]? = some (.cells #[.int .i64 s.1.1, .int .i64 s.1.2, .int .i64 s.2.1, .int .i64 s.2.2, .slice An n cn, .int .i64 0, .int .i64 0, .int .i64 0, .int .i64 0] 36 (0, 0)) := heap_set_self (k := 4) q4 (.slice An n cn)
      obtain ⟨_, x5, y5⟩ := cell_at q5 (k := 5) rfl (show 5 < 9 by omega)
      have q6 : ((((((wc.setCell ⟨w.heap.size, 0, none⟩ (.int .i64 s.1.1)).setCell ⟨w.heap.size, 1, none⟩ (.int .i64 s.1.2)).setCell ⟨w.heap.size, 2, none⟩ (.int .i64 s.2.1)).setCell ⟨w.heap.size, 3, none⟩ (.int .i64 s.2.2)).setCell ⟨w.heap.size, 4, none⟩ (.slice An n cn)).setCell ⟨w.heap.size, 5, none⟩ (.int .i64 t.1.1)).heap[w.heap.size]? = some (.cells #[.int .i64 s.1.1, .int .i64 s.1.2, .int .i64 s.2.1, .int .i64 s.2.2, .slice An n cn, .int .i64 t.1.1, .int .i64 0, .int .i64 0, .int .i64 0] 36 (0, 0)) := heap_set_self (k := 5) q5 (.int .i64 t.1.1)
      obtain ⟨_, x6, y6⟩ := cell_at q6 (k := 6) rfl (show 6 < 9 by omega)
      have q7 : (((((((wc.setCell ⟨w.heap.size, 0, none⟩ (.int .i64 s.1.1)).setCell ⟨w.heap.size, 1, none⟩ (.int .i64 s.1.2)).setCell ⟨w.heap.size, 2, none⟩ (.int .i64 s.2.1)).setCell ⟨w.heap.size, 3, none⟩ (.int .i64 s.2.2)).setCell ⟨w.heap.size, 4, none⟩ (.slice An n cn)).setCell ⟨w.heap.size, 5, none⟩ (.int .i64 t.1.1)).setCell ⟨w.heap.size, 6, none⟩ (.int .i64 t.1.2)).heap[w.heap.size]? = some (.cells #[.int .i64 s.1.1, .int .i64 s.1.2, .int .i64 s.2.1, .int .i64 s.2.2, .slice An n cn, .int .i64 t.1.1, .int .i64 t.1.2, .int .i64 0, .int .i64 0] 36 (0, 0)) := heap_set_self (k := 6) q6 (.int .i64 t.1.2)
      obtain ⟨_, x7, y7⟩ := cell_at q7 (k := 7) rfl (show 7 < 9 by omega)
      have q8 : ((((((((wc.setCell ⟨w.heap.size, 0, none⟩ (.int .i64 s.1.1)).setCell ⟨w.heap.size, 1, none⟩ (.int .i64 s.1.2)).setCell ⟨w.heap.size, 2, none⟩ (.int .i64 s.2.1)).setCell ⟨w.heap.size, 3, none⟩ (.int .i64 s.2.2)).setCell ⟨w.heap.size, 4, none⟩ (.slice An n cn)).setCell ⟨w.heap.size, 5, none⟩ (.int .i64 t.1.1)).setCell ⟨w.heap.size, 6, none⟩ (.int .i64 t.1.2)).setCell ⟨w.heap.size, 7, none⟩ (.int .i64 t.2.1)).heap[w.heap.size]? = some (.cells #[.int .i64 s.1.1, .int .i64 s.1.2, .int .i64 s.2.1, .int .i64 s.2.2, .slice An n cn, .int .i64 t.1.1, .int .i64 t.1.2, .int .i64 t.2.1, .int .i64 0] 36 (0, 0)) := heap_set_self (k := 7) q7 (.int .i64 t.2.1)
      obtain ⟨_, x8, y8⟩ := cell_at q8 (k := 8) rfl (show 8 < 9 by omega)
      have q9 : (((((((((wc.setCell ⟨w.heap.size, 0, none⟩ (.int .i64 s.1.1)).setCell ⟨w.heap.size, 1, none⟩ (.int .i64 s.1.2)).setCell ⟨w.heap.size, 2, none⟩ (.int .i64 s.2.1)).setCell ⟨w.heap.size, 3, none⟩ (.int .i64 s.2.2)).setCell ⟨w.heap.size, 4, none⟩ (.slice An n cn)).setCell ⟨w.heap.size, 5, none⟩ (.int .i64 t.1.1)).setCell ⟨w.heap.size, 6, none⟩ (.int .i64 t.1.2)).setCell ⟨w.heap.size, 7, none⟩ (.int .i64 t.2.1)).setCell ⟨w.heap.size, 8, none⟩ (.int .i64 t.2.2)).heap[w.heap.size]? = some (.cells #[.int .i64 s.1.1, .int .i64 s.1.2, .int .i64 s.2.1, .int .i64 s.2.2, .slice An n cn, .int .i64 t.1.1, .int .i64 t.1.2, .int .i64 t.2.1, .int .i64 t.2.2] 36 (0, 0)) := heap_set_self (k := 8) q8 (.int .i64 t.2.2)
      have gs := grown_trans (grown_trans (grown_trans (grown_trans (grown_trans (grown_trans (grown_trans (grown_trans (grown_set wc w.heap.size 0 (.int .i64 s.1.1)) (grown_set _ w.heap.size 1 (.int .i64 s.1.2))) (grown_set _ w.heap.size 2 (.int .i64 s.2.1))) (grown_set _ w.heap.size 3 (.int .i64 s.2.2))) (grown_set _ w.heap.size 4 (.slice An n cn))) (grown_set _ w.heap.size 5 (.int .i64 t.1.1))) (grown_set _ w.heap.size 6 (.int .i64 t.1.2))) (grown_set _ w.heap.size 7 (.int .i64 t.2.1))) (grown_set _ w.heap.size 8 (.int .i64 t.2.2))
      have hBg := hd.2.1.1
      have HF := Lib.hid (And.intro q9 (And.intro (hd.2.2.2.2.2.2.1.kept gs (fun j e e' => hd.2.2.2.2.2.2.2.2 (e'.trans e.symm))) (And.intro (hd.2.1.grown_far gs (fun e => by injection e with e; omega) (fun j e => by injection e with e; omega)) (gr_new hd.1 gs (fun j e => .inr (by injection e with e; omega))))))
      clear hd q0 q1 q2 q3 q4 q5 q6 q7 q8 q9 gs
      go_wp2_with fail
      obtain ⟨q9, o9, c9, g9⟩ := HF.out
      exact bodyPost_ret (v := .agg (cs9 s t (.slice An n cn))) (results_cell_row (p := 2) (ty := 36) (by rfl) _ _ w.heap.size _ (cs9 s t (.slice An n cn)) (0, 0) _ (by rfl) q9 Try.underlying36 rfl Try.infoCoS) rfl ⟨s, t, _, n, hn, rfl, o9, c9, g9⟩
end Go.Proofs.Ythahakefmpajfaa
