/- Fields drawn: l12Field. -/
import Derived.Test.YtibkhmdnfloemaaMaC
import Derived.OwnWalk
import Derived.Deep.Slices
namespace Go.Proofs.Ytibkhmdnfloemaa
open Go.RowKit Ieee
set_option linter.unusedVariables false
set_option linter.unusedSimpArgs false

/-- A field whose lists are the call's own. -/
def OwnFd (w : World) (B : Nat) (F : Fd) : Prop := FdWf F ∧ FdIn w F ∧ F.n ≤ 1000 ∧ (0 < F.n → B ≤ F.g) ∧ (∀ j, j < F.n → 0 < F.len j → B ≤ F.hg j)
theorem OwnFd.kept {w w' : World} {B : Nat} {F : Fd} {r : Option Nat} (h : OwnFd w B F) (gr : w.grownBy w' r) (hr : ∀ k, r = some k → k < B) : OwnFd w' B F := by
  obtain ⟨h1, h2, h3, h4, h5⟩ := h
  have e : ∀ b o, b < w.heap.size → B ≤ b → w'.cell? ⟨b, o, none⟩ = w.cell? ⟨b, o, none⟩ := fun b o hb hB => by
    simp only [World.cell?, gr.block b hb (fun e => by have := hr b e.symm; omega)]
  refine ⟨h1, fun j hj => ?_, h3, h4, h5⟩
  obtain ⟨c1, c2⟩ := h2 j hj
  refine ⟨(e _ _ (World.block_lt_of_cell? _ _ c1) (h4 (by omega))).trans c1, fun i hi => ?_⟩
  have c3 := c2 i hi
  exact (e _ _ (World.block_lt_of_cell? _ _ c3) (h5 j hj (by omega))).trans c3
theorem OwnFd.low {w : World} {B B' : Nat} {F : Fd} (h : OwnFd w B F) (hB : B' ≤ B) : OwnFd w B' F :=
  ⟨h.1, h.2.1, h.2.2.1, fun h0 => Nat.le_trans hB (h.2.2.2.1 h0), fun j hj h0 => Nat.le_trans hB (h.2.2.2.2 j hj h0)⟩
theorem InnerOk.alloc {w : World} {B b lo : Nat} {x : Value} (h : InnerOk w B b lo x) (hb : b ≤ w.heap.size) (o : Obj) : InnerOk (w.alloc o) B b lo x :=
  h.kept fun g cs hg hc => Below.heap_alloc _ _ _ (by omega)
theorem InnerOk.data {w : World} {B b lo : Nat} {x : Value} (h : InnerOk w B b lo x) : ∃ y : Option Addr × Nat × Nat × Nat × Nat × (Nat → Nat × Nat), x = .slice y.1 y.2.1 y.2.2.1 ∧ y.2.1 ≤ 1000 ∧ (0 < y.2.1 → y.1 = some ⟨y.2.2.2.1, y.2.2.2.2.1, none⟩ ∧ B ≤ y.2.2.2.1) ∧ ∀ i, i < y.2.1 → w.cell? ⟨y.2.2.2.1, y.2.2.2.2.1 + i, none⟩ = some (.complex .f32 (y.2.2.2.2.2 i).1 (y.2.2.2.2.2 i).2) ∧ (y.2.2.2.2.2 i).1 < 4294967296 ∧ (y.2.2.2.2.2 i).2 < 4294967296 := by
  obtain ⟨A, m, cp, rfl, hm, hc, h⟩ := h
  rcases Nat.eq_zero_or_pos m with rfl | h0
  · exact ⟨(A, 0, cp, 0, 0, fun _ => (0, 0)), rfl, by dsimp only; omega, fun h => absurd h (Nat.lt_irrefl 0), fun i hi => absurd hi (Nat.not_lt_zero _)⟩
  · obtain ⟨g, o, cs, rfl, h1, h2, h3, h4⟩ := h h0
    have each : ∀ i, i < m → ∃ p : Nat × Nat, cs[o + i]? = some (.complex .f32 p.1 p.2) ∧ p.1 < 4294967296 ∧ p.2 < 4294967296 := fun i hi => by
      obtain ⟨u, v, a, b⟩ := h4 i hi
      exact ⟨(u, v), a, b⟩
    obtain ⟨c, hcc⟩ := Go.Deep.choose_lt (α := Nat × Nat) each
    exact ⟨(_, m, cp, g, o, c), rfl, hm.2, fun _ => ⟨rfl, h1⟩, fun i hi => ⟨(cell_of_row w g _ _ _ _ h3).trans (hcc i hi).1, (hcc i hi).2⟩⟩
theorem OwnHs.fd {w : World} {B b lo : Nat} {v : Value} {n : Nat} (h : OwnHs w B b lo v n) (hn : n ≤ 1000) (wd hi me : Int) (hw : In64 wd ∧ In64 hi ∧ In64 me) : ∃ F : Fd, F.wd = wd ∧ F.hi = hi ∧ F.me = me ∧ v = .slice F.A F.n F.cap ∧ F.n = n ∧ OwnFd w B F := by
  rcases Nat.eq_zero_or_pos n with rfl | h0
  · obtain ⟨A, cap, rfl, _⟩ := h.c.value
    exact ⟨⟨wd, hi, me, 0, cap, A, 0, 0, fun _ => 0, fun _ => 0, fun _ => none, fun _ => 0, fun _ => 0, fun _ _ => (0, 0)⟩, rfl, rfl, rfl, rfl, rfl, ⟨hw, by dsimp only; omega, (fun j h => absurd h (Nat.not_lt_zero _)), (fun h => absurd h (Nat.lt_irrefl 0)), (fun j h => absurd h (Nat.not_lt_zero _)), (fun j h => absurd h (Nat.not_lt_zero _))⟩, (fun j h => absurd h (Nat.not_lt_zero _)), by dsimp only; omega, (fun h => absurd h (Nat.lt_irrefl 0)), (fun j h => absurd h (Nat.not_lt_zero _))⟩
  · obtain ⟨xs, ⟨hl, ⟨rfl, hz⟩ | ⟨g, cap, cur, rfl, hB, hg, hc, hm, hs, ht⟩⟩, hx⟩ := h
    · omega
    · rw [Nat.mul_one] at hl hs ht
      have hx2 : ∀ j, j < n → ∃ x, cur[j]? = some x ∧ InnerOk w B b lo x := fun j hj => by
        have hj2 : j < xs.length := by omega
        obtain ⟨x, hx0⟩ : ∃ x, xs[j]? = some x := ⟨_, List.getElem?_eq_getElem hj2⟩
        refine ⟨x, ?_, hx _ (List.mem_of_getElem? hx0)⟩
        rw [← Array.getElem?_toList]
        rw [← ht, List.getElem?_take, if_pos hj] at hx0
        exact hx0
      have each : ∀ j, j < n → ∃ y : Option Addr × Nat × Nat × Nat × Nat × (Nat → Nat × Nat), cur[j]? = some (.slice y.1 y.2.1 y.2.2.1) ∧ y.2.1 ≤ 1000 ∧ (0 < y.2.1 → y.1 = some ⟨y.2.2.2.1, y.2.2.2.2.1, none⟩ ∧ B ≤ y.2.2.2.1) ∧ ∀ i, i < y.2.1 → w.cell? ⟨y.2.2.2.1, y.2.2.2.2.1 + i, none⟩ = some (.complex .f32 (y.2.2.2.2.2 i).1 (y.2.2.2.2.2 i).2) ∧ (y.2.2.2.2.2 i).1 < 4294967296 ∧ (y.2.2.2.2.2 i).2 < 4294967296 := fun j hj => by
        obtain ⟨x, h1, h2⟩ := hx2 j hj
        obtain ⟨y, rfl, h3⟩ := h2.data
        exact ⟨y, h1, h3⟩
      obtain ⟨f, hf⟩ := Go.Deep.choose_lt (α := Option Addr × Nat × Nat × Nat × Nat × (Nat → Nat × Nat)) each
      refine ⟨⟨wd, hi, me, n, cap, some ⟨g, 0, none⟩, g, 0, fun j => (f j).2.1, fun j => (f j).2.2.1, fun j => (f j).1, fun j => (f j).2.2.2.1, fun j => (f j).2.2.2.2.1, fun j => (f j).2.2.2.2.2⟩, rfl, rfl, rfl, rfl, rfl, ⟨hw, by dsimp only; omega, fun j hj => by have := (hf j hj).2.1; dsimp only; omega, fun _ => rfl, fun j hj h => ((hf j hj).2.2.1 h).1, fun j hj i hi => ((hf j hj).2.2.2 i hi).2⟩, fun j hj => ⟨?_, fun i hi => ((hf j hj).2.2.2 i hi).1⟩, hn, fun _ => hB, fun j hj h => ((hf j hj).2.2.1 h).2⟩
      dsimp only
      rw [Nat.zero_add]
      exact (cell_of_row w g _ _ _ _ hg).trans (hf j hj).1
theorem InnerOk.less {w : World} {B b lo : Nat} {x : Value} (h : InnerOk w B b lo x) : InnerOk w B b 0 x := by
  obtain ⟨A, m, cp, e, hm, h⟩ := h
  exact ⟨A, m, cp, e, ⟨Nat.zero_le _, hm.2⟩, h⟩
/-- Another list in the place of one. -/
theorem FlV.elem {w w1 : World} {B g len cap q nh b lo gH : Nat} {A : Option Addr} {wd hi me : Int} {vB vH x : Value} (h : FlV w B g A len cap q wd hi me vB vH nh b lo w1) (e : vH.ownBlock = some gH) (c : Nat) (hx : InnerOk w1 w.heap.size b 0 x) (hv : x.oneCell' = true) : FlV w B g A len cap q wd hi me vB vH nh b 0 (w1.setCell ⟨gH, c, none⟩ x) := by
  obtain ⟨h1, h2, h3, h4, h5, h6, h7, h8, h9⟩ := h
  have k := grown_set w1 gH c x
  have hl := h8.c.lt e
  obtain ⟨cs, hb⟩ := cur_blk12 h2
  obtain ⟨cs2, hb2⟩ := h8.c.block e
  have key : ∀ y, InnerOk w1 w.heap.size b 0 y → InnerOk (w1.setCell ⟨gH, c, none⟩ x) w.heap.size b 0 y := fun y hy => hy.kept fun j cs' hj hc => k.block j (by omega) (fun e2 => by cases e2; rw [hb2] at hc; cases hc)
  obtain ⟨xs, ho, hxs⟩ := h8
  refine ⟨gr_new h1 k fun j e2 => .inr (by cases e2; omega), h2.grown_far k (fun e2 => by cases e2; rw [hb2] at hb; cases hb) (fun j e2 => by cases e2; have := h2.1; omega), h3, box_far h4 k (fun e2 => by cases e2; rw [hb2] at h4; cases h4), h5, box_far h6 k (fun e2 => by cases e2; rw [hb2] at h6; cases h6), h7, ?_, Nat.le_trans h9 k.size⟩
  obtain ⟨hl2, ⟨rfl, h0⟩ | ⟨g', cap', cur, rfl, hB, hg', hc, hm, hs, ht⟩⟩ := ho
  · cases e
  · cases e
    refine ⟨xs.set c x, ⟨by rw [List.length_set]; exact hl2, .inr ⟨_, cap', _, rfl, hB, heap_set_self hg' x, hc, hm, by simpa using hs, ?_⟩⟩, fun y hy => ?_⟩
    · rw [← ht]
      rw [Array.toList_setIfInBounds, List.take_set, Nat.mul_one]
    · rcases List.mem_or_eq_of_mem_set hy with h | rfl
      · exact key y (hxs y h).less
      · exact key _ hx
theorem FlV.drew {w w1 : World} {B g len cap q nh b lo : Nat} {A : Option Addr} {wd hi me : Int} {vB vH : Value} (h : FlV w B g A len cap q wd hi me vB vH nh b lo w1) : FlV w B g A len cap q wd hi me vB vH nh b lo w1.drew :=
  h.draw (h.2.1.grown_far (grown_drewN w1 1 none) (by simp) (fun _ e => by cases e)) ⟨rfl, rfl, rfl, Nat.le_refl _, fun _ _ _ => rfl⟩
/-- The first hour, and what is left of it behind its first wind. -/
theorem FlV.first {w w1 : World} {B g len cap q nh b gH : Nat} {A : Option Addr} {wd hi me : Int} {vB vH : Value} (h : FlV w B g A len cap q wd hi me vB vH nh b 1 w1) (e : vH.ownBlock = some gH) (hn : 0 < nh) :
    ∃ g0 o0 m0 c0 : Nat, w1.cell? ⟨gH, 0, none⟩ = some (.slice (some ⟨g0, o0, none⟩) m0 c0) ∧ w1.frozen? ⟨gH, 0, none⟩ = false ∧ 1 ≤ m0 ∧ m0 ≤ c0 ∧ m0 ≤ 1000 ∧ InnerOk w1 w.heap.size b 0 (.slice (some ⟨g0, o0 + 1, none⟩) (m0 - 1) (c0 - 1)) ∧ (m0 ≤ 1 → InnerOk w1 w.heap.size b 0 (.slice (some ⟨g0, o0, none⟩) 0 0)) := by
  obtain ⟨_, _, _, _, _, _, _, ⟨xs, ⟨hl, ⟨rfl, h0⟩ | ⟨g', cap', cur, rfl, hB, hg', hc, hm, hs, ht⟩⟩, hxs⟩, _⟩ := h
  · omega
  · cases e
    obtain ⟨x, hx0⟩ : ∃ x, xs[0]? = some x := ⟨_, List.getElem?_eq_getElem (show 0 < xs.length by omega)⟩
    obtain ⟨A0, m0, c0, rfl, hmm, hcc, hz⟩ := hxs x (List.mem_of_getElem? hx0)
    obtain ⟨g0, o0, cs, rfl, b1, b2, b3, b4⟩ := hz (by omega)
    rw [← ht, List.getElem?_take, if_pos (by omega)] at hx0
    refine ⟨g0, o0, m0, c0, (cell_of_row w1 _ 0 _ _ _ hg').trans (by rw [← Array.getElem?_toList]; exact hx0), by simp [World.frozen?, hg'], hmm.1, hcc, hmm.2, ⟨_, m0 - 1, c0 - 1, rfl, ⟨by omega, by omega⟩, by omega, fun _ => ⟨g0, o0 + 1, cs, rfl, b1, b2, b3, fun i hi => ?_⟩⟩, fun _ => ⟨_, 0, 0, rfl, ⟨by omega, by omega⟩, by omega, fun h => absurd h (Nat.lt_irrefl 0)⟩⟩
    obtain ⟨u, v, p⟩ := b4 (i + 1) (by omega)
    exact ⟨u, v, by rw [show o0 + 1 + i = o0 + (i + 1) by omega]; exact p.1, p.2⟩
/-- No hours. -/
theorem FlV.empty {w w1 : World} {B g len cap q nh b lo : Nat} {A : Option Addr} {wd hi me : Int} {vB vH : Value} (h : FlV w B g A len cap q wd hi me vB vH nh b lo w1) : FlV w B g A len cap q wd hi me vB (.slice (some ⟨w1.heap.size, 0, none⟩) 0 0) 0 b lo (w1.alloc (.cells #[] 37)) := by
  have h0 := h.1.size
  obtain ⟨h1, h2, h3, h4, h5, h6, h7, h8, h9⟩ := h.alloc (.cells #[] 37)
  exact ⟨h1, h2, h3, h4, h5, h6, h7, ⟨[], ⟨rfl, .inr ⟨w1.heap.size, 0, #[], rfl, h0, heap_alloc_new w1 _, Nat.le_refl _, by simp [maxLen], by simp, by simp⟩⟩, fun x hx => by cases hx⟩, h9⟩
/-- The end: the box is written into the result's. -/
theorem FlV.fin {w W : World} {B g len cap q nh b lo cH : Nat} {A AH : Option Addr} {wd hi me : Int} (h : FlV w B g A len cap q wd hi me (.slice AH nh cH) (.slice AH nh cH) nh b lo W) (hn : nh ≤ 1000) :
    (∃ v, W.cell? ⟨w.heap.size, 0, none⟩ = some v ∧ W.frozen? ⟨w.heap.size, 0, none⟩ = false) ∧ (∃ v, (W.setCell ⟨w.heap.size, 0, none⟩ (.int .i64 wd)).cell? ⟨w.heap.size, 1, none⟩ = some v ∧ (W.setCell ⟨w.heap.size, 0, none⟩ (.int .i64 wd)).frozen? ⟨w.heap.size, 1, none⟩ = false) ∧ (∃ v, ((W.setCell ⟨w.heap.size, 0, none⟩ (.int .i64 wd)).setCell ⟨w.heap.size, 1, none⟩ (.int .i64 hi)).cell? ⟨w.heap.size, 2, none⟩ = some v ∧ ((W.setCell ⟨w.heap.size, 0, none⟩ (.int .i64 wd)).setCell ⟨w.heap.size, 1, none⟩ (.int .i64 hi)).frozen? ⟨w.heap.size, 2, none⟩ = false) ∧ (∃ v, (((W.setCell ⟨w.heap.size, 0, none⟩ (.int .i64 wd)).setCell ⟨w.heap.size, 1, none⟩ (.int .i64 hi)).setCell ⟨w.heap.size, 2, none⟩ (.int .i64 me)).cell? ⟨w.heap.size, 3, none⟩ = some v ∧ (((W.setCell ⟨w.heap.size, 0, none⟩ (.int .i64 wd)).setCell ⟨w.heap.size, 1, none⟩ (.int .i64 hi)).setCell ⟨w.heap.size, 2, none⟩ (.int .i64 me)).frozen? ⟨w.heap.size, 3, none⟩ = false) ∧
    ((((W.setCell ⟨w.heap.size, 0, none⟩ (.int .i64 wd)).setCell ⟨w.heap.size, 1, none⟩ (.int .i64 hi)).setCell ⟨w.heap.size, 2, none⟩ (.int .i64 me)).setCell ⟨w.heap.size, 3, none⟩ (.slice AH nh cH)).heap[w.heap.size]? = some (.cells #[.int .i64 wd, .int .i64 hi, .int .i64 me, .slice AH nh cH] 26 (0, 0)) ∧ (∃ F : Fd, F.wd = wd ∧ F.hi = hi ∧ F.me = me ∧ Value.slice AH nh cH = .slice F.A F.n F.cap ∧ F.n = nh ∧ OwnFd ((((W.setCell ⟨w.heap.size, 0, none⟩ (.int .i64 wd)).setCell ⟨w.heap.size, 1, none⟩ (.int .i64 hi)).setCell ⟨w.heap.size, 2, none⟩ (.int .i64 me)).setCell ⟨w.heap.size, 3, none⟩ (.slice AH nh cH)) w.heap.size F) ∧ Cur ((((W.setCell ⟨w.heap.size, 0, none⟩ (.int .i64 wd)).setCell ⟨w.heap.size, 1, none⟩ (.int .i64 hi)).setCell ⟨w.heap.size, 2, none⟩ (.int .i64 me)).setCell ⟨w.heap.size, 3, none⟩ (.slice AH nh cH)) B g A len cap ∧ w.grownBy ((((W.setCell ⟨w.heap.size, 0, none⟩ (.int .i64 wd)).setCell ⟨w.heap.size, 1, none⟩ (.int .i64 hi)).setCell ⟨w.heap.size, 2, none⟩ (.int .i64 me)).setCell ⟨w.heap.size, 3, none⟩ (.slice AH nh cH)) (some g) := by
  obtain ⟨h1, h2, h3, h4, h5, h6, h7, h8, h9⟩ := h
  have a1 := heap_set_self (k := 0) h4 (.int .i64 wd)
  have a2 := heap_set_self (k := 1) a1 (.int .i64 hi)
  have a3 := heap_set_self (k := 2) a2 (.int .i64 me)
  have a4 := heap_set_self (k := 3) a3 (.slice AH nh cH)
  have gs := grown_trans (grown_trans (grown_trans (grown_set W w.heap.size 0 (.int .i64 wd)) (grown_set _ w.heap.size 1 (.int .i64 hi))) (grown_set _ w.heap.size 2 (.int .i64 me))) (grown_set _ w.heap.size 3 (.slice AH nh cH))
  have hB := h2.1
  exact ⟨cell_at h4 (n := 4) rfl (by omega), cell_at a1 (n := 4) rfl (by omega), cell_at a2 (n := 4) rfl (by omega), cell_at a3 (n := 4) rfl (by omega), a4,
    (h8.kept h9 gs (fun j e => by cases e; exact ⟨h8.c.ne h4 (by decide), fun _ => ne_cx h4 (by decide)⟩)).fd hn wd hi me h7, h2.grown_far gs (fun e => by cases e; omega) (fun j e => by cases e; omega), gr_new h1 gs fun j e => .inr (by cases e; omega)⟩
theorem Try.info12C : (Try.prog.info? 32).map (fun i => (i.zero, i.size, i.bytes)) = some (some (.complex .f32 0 0), 1, 8) := by kernel_rfl
theorem Try.info12H : (Try.prog.info? 37).map (fun i => (i.zero, i.size, i.bytes)) = some (some (.slice none 0 0), 1, 24) := by kernel_rfl
theorem Try.info12F : (Try.prog.info? 26).map (·.size) = some 4 := by kernel_rfl
set_option maxRecDepth 100000 in
set_option maxHeartbeats 8000000 in
theorem d_field (w : World) (B g len cap : Nat) (A : Option Addr) (hc : Cur w B g A len cap) :
    Calls Try.prog 12 #[.pointer (some ⟨g, 0, none⟩)] w fun e w' => ∃ F : Fd, e = .returned (.agg #[.int .i64 F.wd, .int .i64 F.hi, .int .i64 F.me, .slice F.A F.n F.cap]) ∧ OwnFd w' w.heap.size F ∧ Cur w' B g A len cap ∧ w.grownBy w' (some g) := by
  obtain ⟨i0, hi, hz0, hz1, hz2⟩ := info_parts Try.info12C
  obtain ⟨j0, hj, hy0, hy1, hy2⟩ := info_parts Try.info12H
  have hg0 := hc.lt
  have HC0 := Lib.hid (And.intro (hc.alloc (.cells #[.int .i64 0, .int .i64 0, .int .i64 0, .slice none 0 0] 26)) (And.intro (World.grownBy_alloc w (.cells #[.int .i64 0, .int .i64 0, .int .i64 0, .slice none 0 0] 26) (some g)) (heap_alloc_new w (.cells #[.int .i64 0, .int .i64 0, .int .i64 0, .slice none 0 0] 26))))
  have hs0 : (w.alloc (.cells #[.int .i64 0, .int .i64 0, .int .i64 0, .slice none 0 0] 26)).heap.size = w.heap.size + 1 := by simp
  clear hc
  go_enter Try.func12, Try.ntmps12
  go_wp2_with fail
  refine (d_below 2 _ B g len cap A HC0.out.1 (by omega)).mono ?_
  rintro e w1 ⟨x, x0, x1, _, rfl, cu, gr⟩
  have x2 := x1 (by omega)
  have H1 := Lib.hid (And.intro cu (And.intro (grown_trans HC0.out.2.1 gr) (box_far HC0.out.2.2 gr (fun e => by cases e; omega))))
  clear cu gr HC0 x1 hs0
  go_wp2_with fail
  refine (d_below 3000 _ B g len cap A H1.out.1 (by omega)).mono ?_
  rintro e w2 ⟨y, y0, y1, _, rfl, cu, gr⟩
  have y2 := y1 (by omega)
  have H2 := Lib.hid (And.intro cu (And.intro (grown_trans H1.out.2.1 gr) (box_far H1.out.2.2 gr (fun e => by cases e; omega))))
  clear cu gr H1 y1
  have hsz2 : w.heap.size < w2.heap.size := block_lt H2.out.2.2
  obtain ⟨wd, hwd, hw2⟩ : ∃ wd : Nat, 2 + x = (wd : Int) ∧ (2 ≤ wd ∧ wd ≤ 3) := ⟨(2 + x).toNat, by omega, by omega⟩
  obtain ⟨me, hme, hm2⟩ : ∃ me : Nat, 100 + y = (me : Int) ∧ me ≤ 4000 := ⟨(100 + y).toNat, by omega, by omega⟩
  have H3 := Lib.hid (show FlV w B g A len cap w2.heap.size wd 2 me (.slice none 0 0) (.slice none 0 0) 0 w.heap.size 1 (w2.alloc (.cells #[.int .i64 wd, .int .i64 2, .int .i64 me, .slice none 0 0] 26)) from
    ⟨grown_trans H2.out.2.1 (World.grownBy_alloc w2 _ _), H2.out.1.alloc _, hg0, (Below.heap_alloc _ _ _ (by omega)).trans H2.out.2.2, hsz2, heap_alloc_new w2 _, ⟨⟨by omega, by omega⟩, ⟨by omega, by omega⟩, ⟨by omega, by omega⟩⟩, ⟨[], ⟨rfl, .inl ⟨rfl, rfl⟩⟩, fun x hx => by cases hx⟩, by simp; omega⟩)
  clear H2 x0 x2 y0 y2
  go_upto_region 2 with fail
  generalize hW : w2.alloc _ = W at *
  generalize w2.heap.size = q at *
  clear hW hwd hme
  go_wp2_with fail
  refine (d_wind12 _ B g len cap A H3.out.2.1).mono ?_
  rintro e w3 ⟨u, v, hu, hv, rfl, cu, gr⟩
  have H4 := Lib.hid (H3.out.draw cu gr)
  clear cu gr H3
  go_wp2_with fail
  refine (d_below 3 _ B g len cap A H4.out.2.1 (by omega)).mono ?_
  rintro e w4 ⟨a, a0, a1, _, rfl, cu, gr⟩
  have a2 := a1 (by omega)
  have H5 := Lib.hid (H4.out.draw cu gr)
  clear cu gr H4 a1
  go_wp2_with fail
  refine (d_below 2 _ B g len cap A H5.out.2.1 (by omega)).mono ?_
  rintro e w5 ⟨c, c0, c1, _, rfl, cu, gr⟩
  have c2 := c1 (by omega)
  have H6 := Lib.hid (H5.out.draw cu gr)
  clear cu gr H5 c1
  obtain ⟨P, hP, hP2⟩ : ∃ P : Nat, a * c = (P : Int) ∧ P ≤ 2 := by
    have hc : c = 0 ∨ c = 1 := by omega
    rcases hc with rfl | rfl
    · exact ⟨0, by simp, by omega⟩
    · exact ⟨a.toNat, by rw [Int.mul_one]; omega, by omega⟩
  go_wp2_with fail
  go_loopw [5, 4, 6, 7] (fun n z _ _ wr => ∃ (k nh b u v : Nat) (vH : Value), n = .int .i64 k ∧ z = .complex .f32 u v ∧ (u < 4294967296 ∧ v < 4294967296) ∧ k + nh = 1 + P ∧ w.heap.size ≤ b ∧ FlV w B g A len cap q wd 2 me vH vH nh b 1 wr) (fun n _ _ _ _ => (intOf n).toNat)
  case atStart => exact ⟨1 + P, 0, w.heap.size, u, v, .slice none 0 0, by go_num, rfl, ⟨hu, hv⟩, by omega, Nat.le_refl _, H6.out⟩
  case round =>
    obtain ⟨k, nh, b, u, v, vH, rfl, rfl, hz, hk, hb, hst⟩ := hrel
    have HS := Lib.hid hst
    clear hst H6 hP
    by_cases hk0 : k = 0
    · subst hk0
      have hn3 : nh ≤ 3 := by omega
      have hn1 : 0 < nh := by omega
      clear hk
      obtain ⟨gH, cH, hvH, hgH⟩ : ∃ gH cH, vH = .slice (some ⟨gH, 0, none⟩) nh cH ∧ vH.ownBlock = some gH := by
        obtain ⟨g', cap', cs, e2, _⟩ := HS.out.2.2.2.2.2.2.2.1.c.form hn1
        exact ⟨g', cap', e2, by rw [e2]; rfl⟩
      subst hvH
      have HG := Lib.hid hgH
      clear hgH
      go_wp2_with fail
      refine (d_below 30 _ B g len cap A HS.out.2.1 (by omega)).mono ?_
      rintro e w6 ⟨z, y0, y1, _, rfl, cu, gr⟩
      have H6 := Lib.hid (HS.out.draw cu gr)
      have hw0 := HS.out.2.2.2.2.2.2.1
      clear cu gr HS y1
      have hzz : z = 0 ∨ z = 1 ∨ z = 2 ∨ z = 3 ∨ z = 4 ∨ 5 ≤ z := by omega
      rcases hzz with rfl | rfl | rfl | rfl | rfl | hz5
      · go_wp2_with fail
        refine (d_number _ B g len cap A H6.out.2.1).mono ?_
        rintro e w7 ⟨t, t0, t1, rfl, cu, gr⟩
        have H7 := Lib.hid (H6.out.draw cu gr)
        clear cu gr H6
        obtain ⟨_, e0, f0⟩ := cell_at H7.out.2.2.2.2.2.1 (k := 0) (n := 4) rfl (by omega)
        have H8 := Lib.hid (H7.out.set (c := 0) (x := .int .i64 t) rfl ⟨⟨t0, t1⟩, hw0.2⟩)
        clear H7
        obtain ⟨k0, k1, k2, k3⟩ := cells4f H8.out.2.2.2.2.2.1
        obtain ⟨⟨_, p0, q0⟩, ⟨_, p1, q1⟩, ⟨_, p2, q2⟩, ⟨_, p3, q3⟩, hrest⟩ := H8.out.fin (by omega)
        have HF := Lib.hid hrest
        clear hrest H8
        go_wp2_with fail
        obtain ⟨F, f1, f2, f3, f4, f5, f6⟩ := HF.out.2.1
        exact bodyPost_ret (v := .agg #[.int .i64 (t), .int .i64 (2), .int .i64 (me), .slice (some ⟨gH, 0, none⟩) (nh) (cH)]) (results_cell_row (p := 2) (ty := 26) (by rfl) _ _ w.heap.size _ #[.int .i64 (t), .int .i64 (2), .int .i64 (me), .slice (some ⟨gH, 0, none⟩) (nh) (cH)] (0, 0) _ (by rfl) HF.out.1 Try.underlying26 rfl Try.info12F) rfl ⟨F, by rw [f1, f2, f3, ← f4], f6, HF.out.2.2⟩
      · obtain ⟨k0, k1, k2, k3⟩ := cells4f H6.out.2.2.2.2.2.1
        obtain ⟨_, e0, f0⟩ := cell_at H6.out.2.2.2.2.2.1 (k := 1) (n := 4) rfl (by omega)
        have H8 := Lib.hid (H6.out.set (c := 1) (x := .int .i64 3) rfl ⟨hw0.1, ⟨by decide, by decide⟩, hw0.2.2⟩)
        clear H6 e0
        obtain ⟨r0, r1, r2, r3⟩ := cells4f H8.out.2.2.2.2.2.1
        obtain ⟨⟨_, p0, q0⟩, ⟨_, p1, q1⟩, ⟨_, p2, q2⟩, ⟨_, p3, q3⟩, hrest⟩ := H8.out.fin (by omega)
        have HF := Lib.hid hrest
        clear hrest H8
        go_wp2_with fail
        obtain ⟨F, f1, f2, f3, f4, f5, f6⟩ := HF.out.2.1
        exact bodyPost_ret (v := .agg #[.int .i64 (wd), .int .i64 (3), .int .i64 (me), .slice (some ⟨gH, 0, none⟩) (nh) (cH)]) (results_cell_row (p := 2) (ty := 26) (by rfl) _ _ w.heap.size _ #[.int .i64 (wd), .int .i64 (3), .int .i64 (me), .slice (some ⟨gH, 0, none⟩) (nh) (cH)] (0, 0) _ (by rfl) HF.out.1 Try.underlying26 rfl Try.info12F) rfl ⟨F, by rw [f1, f2, f3, ← f4], f6, HF.out.2.2⟩
      · have hne : w6.heap.size ≠ g := by have := H6.out.2.1.lt; omega
        have HP := Lib.hid (d_pickint (w6.alloc (.cells #[.int .i64 9, .int .i64 10, .int .i64 100000, .int .i64 100001, .int .i64 (-1)] 3)) B g len cap w6.heap.size 5 5 A 3 [9, 10, 100000, 100001, -1] (H6.out.2.1.alloc _) rfl (by omega) (by omega) hne (fun x hx => by
          simp only [List.mem_cons, List.not_mem_nil, or_false] at hx
          rcases hx with rfl | rfl | rfl | rfl | rfl <;> omega) (heap_alloc_new w6 _))
        clear hne
        go_wp2_with fail
        refine HP.out.mono ?_
        rintro e w7 ⟨t, t0, t1, rfl, cu, gr⟩
        have H7 := Lib.hid ((H6.out.alloc _).draw cu gr)
        clear cu gr H6 HP
        obtain ⟨_, e0, f0⟩ := cell_at H7.out.2.2.2.2.2.1 (k := 2) (n := 4) rfl (by omega)
        have H8 := Lib.hid (H7.out.set (c := 2) (x := .int .i64 t) rfl ⟨hw0.1, hw0.2.1, ⟨t0, t1⟩⟩)
        clear H7
        obtain ⟨k0, k1, k2, k3⟩ := cells4f H8.out.2.2.2.2.2.1
        obtain ⟨⟨_, p0, q0⟩, ⟨_, p1, q1⟩, ⟨_, p2, q2⟩, ⟨_, p3, q3⟩, hrest⟩ := H8.out.fin (by omega)
        have HF := Lib.hid hrest
        clear hrest H8
        go_wp2_with fail
        obtain ⟨F, f1, f2, f3, f4, f5, f6⟩ := HF.out.2.1
        exact bodyPost_ret (v := .agg #[.int .i64 (wd), .int .i64 (2), .int .i64 (t), .slice (some ⟨gH, 0, none⟩) (nh) (cH)]) (results_cell_row (p := 2) (ty := 26) (by rfl) _ _ w.heap.size _ #[.int .i64 (wd), .int .i64 (2), .int .i64 (t), .slice (some ⟨gH, 0, none⟩) (nh) (cH)] (0, 0) _ (by rfl) HF.out.1 Try.underlying26 rfl Try.info12F) rfl ⟨F, by rw [f1, f2, f3, ← f4], f6, HF.out.2.2⟩
      · have H7 := Lib.hid H6.out.empty
        obtain ⟨_, e0, f0⟩ := cell_at H7.out.2.2.2.2.2.1 (k := 3) (n := 4) rfl (by omega)
        have H8 := Lib.hid (H7.out.set (c := 3) (x := .slice (some ⟨w6.heap.size, 0, none⟩) 0 0) rfl hw0)
        clear H6 H7
        obtain ⟨k0, k1, k2, k3⟩ := cells4f H8.out.2.2.2.2.2.1
        obtain ⟨⟨_, p0, q0⟩, ⟨_, p1, q1⟩, ⟨_, p2, q2⟩, ⟨_, p3, q3⟩, hrest⟩ := H8.out.fin (by omega)
        have HF := Lib.hid hrest
        clear hrest H8
        go_wp2_with fail
        obtain ⟨F, f1, f2, f3, f4, f5, f6⟩ := HF.out.2.1
        exact bodyPost_ret (v := .agg #[.int .i64 (wd), .int .i64 (2), .int .i64 (me), .slice (some ⟨w6.heap.size, 0, none⟩) (0) (0)]) (results_cell_row (p := 2) (ty := 26) (by rfl) _ _ w.heap.size _ #[.int .i64 (wd), .int .i64 (2), .int .i64 (me), .slice (some ⟨w6.heap.size, 0, none⟩) (0) (0)] (0, 0) _ (by rfl) HF.out.1 Try.underlying26 rfl Try.info12F) rfl ⟨F, by rw [f1, f2, f3, ← f4], f6, HF.out.2.2⟩
      · have H7 := Lib.hid H6.out.drew
        obtain ⟨g0, o0, m0, c0, e0, f0, hm1, hm2, hm3, hin, hin1⟩ := H6.out.first HG.out hn1
        have e0 : w6.drew.cell? ⟨gH, 0, none⟩ = some (.slice (some ⟨g0, o0, none⟩) m0 c0) := e0
        have f0 : w6.drew.frozen? ⟨gH, 0, none⟩ = false := f0
        have HIN := Lib.hid (And.intro hin hin1)
        clear hin hin1
        obtain ⟨k0, k1, k2, k3⟩ := cells4f H7.out.2.2.2.2.2.1
        have z1 : (1 : Int) ≤ (m0 : Int) := by omega
        have z2 : (0 : Int) < (nh : Int) := by omega
        have z3 : (1 : Int) ≤ (c0 : Int) := by omega
        by_cases hc1 : c0 = 1
        · subst hc1
          obtain rfl : m0 = 1 := by omega
          have H8 := Lib.hid (H6.out.elem HG.out 0 (x := .slice (some ⟨g0, o0, none⟩) 0 0) (HIN.out.2 (by omega)) rfl).drew
          clear H6 H7
          go_wp2
          go_region
          generalize hW6 : World.drew (w6.setCell _ _) = W6 at *
          clear hW6 e0 f0 k0 k1 k2 k3 HIN
          obtain ⟨r0, r1, r2, r3⟩ := cells4f H8.out.2.2.2.2.2.1
          obtain ⟨⟨_, p0, q0⟩, ⟨_, p1, q1⟩, ⟨_, p2, q2⟩, ⟨_, p3, q3⟩, hrest⟩ := H8.out.fin (by omega)
          have HF := Lib.hid hrest
          clear hrest H8
          go_wp2_with fail
          obtain ⟨F, f1, f2, f3, f4, f5, f6⟩ := HF.out.2.1
          exact bodyPost_ret (v := .agg #[.int .i64 (wd), .int .i64 (2), .int .i64 (me), .slice (some ⟨gH, 0, none⟩) (nh) (cH)]) (results_cell_row (p := 2) (ty := 26) (by rfl) _ _ w.heap.size _ #[.int .i64 (wd), .int .i64 (2), .int .i64 (me), .slice (some ⟨gH, 0, none⟩) (nh) (cH)] (0, 0) _ (by rfl) HF.out.1 Try.underlying26 rfl Try.info12F) rfl ⟨F, by rw [f1, f2, f3, ← f4], f6, HF.out.2.2⟩
        · have H8 := Lib.hid (H6.out.elem HG.out 0 (x := .slice (some ⟨g0, o0 + 1, none⟩) (m0 - 1) (c0 - 1)) HIN.out.1 rfl).drew
          clear H6 H7
          go_wp2
          go_region
          generalize hW6 : World.drew (w6.setCell _ _) = W6 at *
          clear hW6 e0 f0 k0 k1 k2 k3 HIN
          obtain ⟨r0, r1, r2, r3⟩ := cells4f H8.out.2.2.2.2.2.1
          obtain ⟨⟨_, p0, q0⟩, ⟨_, p1, q1⟩, ⟨_, p2, q2⟩, ⟨_, p3, q3⟩, hrest⟩ := H8.out.fin (by omega)
          have HF := Lib.hid hrest
          clear hrest H8
          go_wp2_with fail
          obtain ⟨F, f1, f2, f3, f4, f5, f6⟩ := HF.out.2.1
          exact bodyPost_ret (v := .agg #[.int .i64 (wd), .int .i64 (2), .int .i64 (me), .slice (some ⟨gH, 0, none⟩) (nh) (cH)]) (results_cell_row (p := 2) (ty := 26) (by rfl) _ _ w.heap.size _ #[.int .i64 (wd), .int .i64 (2), .int .i64 (me), .slice (some ⟨gH, 0, none⟩) (nh) (cH)] (0, 0) _ (by rfl) HF.out.1 Try.underlying26 rfl Try.info12F) rfl ⟨F, by rw [f1, f2, f3, ← f4], f6, HF.out.2.2⟩
      · have n0 : (z == 0) = false := by rw [beq_eq_false_iff_ne]; omega
        have n1 : (z == 1) = false := by rw [beq_eq_false_iff_ne]; omega
        have n2 : (z == 2) = false := by rw [beq_eq_false_iff_ne]; omega
        have n3 : (z == 3) = false := by rw [beq_eq_false_iff_ne]; omega
        have n4 : (z == 4) = false := by rw [beq_eq_false_iff_ne]; omega
        obtain ⟨k0, k1, k2, k3⟩ := cells4f H6.out.2.2.2.2.2.1
        obtain ⟨⟨_, p0, q0⟩, ⟨_, p1, q1⟩, ⟨_, p2, q2⟩, ⟨_, p3, q3⟩, hrest⟩ := H6.out.fin (by omega)
        have HF := Lib.hid hrest
        clear hrest H6
        go_wp2_with fail
        obtain ⟨F, f1, f2, f3, f4, f5, f6⟩ := HF.out.2.1
        exact bodyPost_ret (v := .agg #[.int .i64 (wd), .int .i64 (2), .int .i64 (me), .slice (some ⟨gH, 0, none⟩) (nh) (cH)]) (results_cell_row (p := 2) (ty := 26) (by rfl) _ _ w.heap.size _ #[.int .i64 (wd), .int .i64 (2), .int .i64 (me), .slice (some ⟨gH, 0, none⟩) (nh) (cH)] (0, 0) _ (by rfl) HF.out.1 Try.underlying26 rfl Try.info12F) rfl ⟨F, by rw [f1, f2, f3, ← f4], f6, HF.out.2.2⟩
    have z1 : (0 : Int) < (k : Int) := by omega
    have zn : decide (0 < k) = true := decide_eq_true (by omega)
    have hbs := HS.out.2.2.2.2.2.2.2.2
    have hsz := block_lt HS.out.2.2.2.1
    have H7 := Lib.hid ((HS.out.alloc (.cells #[] 32)).up (b' := wr.heap.size) hbs (by simp))
    have HO := Lib.hid (show OwnC IsCx 32 1 (wr.alloc (.cells #[] 32)) wr.heap.size (.slice (some ⟨wr.heap.size, 0, none⟩) 0 0) 0 from ⟨[], (fun c x hx => by simp at hx), by simp, .inr ⟨wr.heap.size, 0, #[], rfl, Nat.le_refl _, heap_alloc_new wr _, Nat.le_refl _, by simp [maxLen], by simp, by simp⟩⟩)
    clear HS
    go_upto_region 7 with fail
    generalize hW : wr.alloc _ = W2 at *
    generalize wr.heap.size = b2 at *
    clear hW
    go_wp2_with fail
    go_loopw [7, 4, 6] (fun i z h wx => ∃ (m u v : Nat), i = .int .i64 m ∧ z = .complex .f32 u v ∧ (u < 4294967296 ∧ v < 4294967296) ∧ m ≤ wd * 2 ∧ FlV w B g A len cap q wd 2 me vH vH nh b2 1 wx ∧ OwnC IsCx 32 1 wx b2 h m) (fun i _ _ _ => wd * 2 - (intOf i).toNat)
    case atStart => exact ⟨0, u, v, rfl, rfl, hz, Nat.zero_le _, H7.out, HO.out⟩
    case round =>
      obtain ⟨m, u, v, rfl, rfl, hz, hm, hst, hO⟩ := hrel
      have HS := Lib.hid hst
      have HO2 := Lib.hid hO
      clear hst hO H7 HO
      obtain ⟨k0, k1, k2, k3⟩ := cells4f HS.out.2.2.2.2.2.1
      by_cases hmd : m < wd * 2
      · have y1 : (m : Int) < (wd : Int) * 2 := by omega
        go_wp2_with fail
        refine (d_once 3 _ B g len cap A HS.out.2.1 (by omega)).mono ?_
        rintro e w6 ⟨t, rfl, cu, gr⟩
        have H8 := Lib.hid (And.intro (HS.out.draw cu gr) (HO2.out.kept gr (fun j e q => by cases e; obtain ⟨cs, hcb⟩ := cur_blk12 HS.out.2.1; exact HO2.out.ne hcb (by decide) q)))
        clear cu gr HS HO2 k0 k1 k2 k3
        go_upto_if 38 with fail
        go_cut [4] (fun z wx => ∃ u v : Nat, z = .complex .f32 u v ∧ (u < 4294967296 ∧ v < 4294967296) ∧ FlV w B g A len cap q wd 2 me vH vH nh b2 1 wx ∧ OwnC IsCx 32 1 wx b2 u6 m)
        case first =>
          cases t
          · go_wp2_with fail
            go_meet
            exact ⟨u, v, rfl, hz, H8.out⟩
          · go_wp2_with fail
            refine (d_wind12 _ B g len cap A H8.out.1.2.1).mono ?_
            rintro e w7 ⟨u, v, hu, hv, rfl, cu, gr⟩
            have H9 := Lib.hid (And.intro (H8.out.1.draw cu gr) (H8.out.2.kept gr (fun j e q => by cases e; obtain ⟨cs, hcb⟩ := cur_blk12 H8.out.1.2.1; exact H8.out.2.ne hcb (by decide) q)))
            clear cu gr H8
            go_wp2_with fail
            go_meet
            exact ⟨u, v, rfl, ⟨hu, hv⟩, H9.out⟩
        case rest =>
        clear H8
        obtain ⟨u, v, rfl, hz, hst, hO⟩ := hcut
        have HA := Lib.hid (And.intro (hst.alloc (.cells #[.complex .f32 u v] 32)) (hO.kept (World.grownBy_alloc _ (.cells #[.complex .f32 u v] 32) none) (fun _ e => by cases e)))
        obtain ⟨xs, hxs, hown⟩ := hO
        have HXS := Lib.hid hxs
        have hxl : xs.length = m * 1 := hown.1
        have hb2s := hst.2.2.2.2.2.2.2.2
        have hzz : IsCx 0 (.complex .f32 u v) := ⟨u, v, rfl, hz⟩
        have HZZ := Lib.hid hzz
        clear hst hxs hzz
        go_wp2_with (at_builtin; refine wpList_append_own _ rfl _ _ 37 rfl b2 32 i0 (.complex .f32 0 0) 1 8 Try.underlying37 hi hz0 hz1 hz2 rfl (by decide) _ _ _ rfl (hown.alloc _) ⟨_, 0, none⟩ 1 1 [.complex .f32 u v] rfl rfl (World.news_of_block (cs := #[.complex .f32 u v]) (t := 32) (fr := (0, 0)) (heap_alloc_new _ _)) (by simp [Value.oneCell']) (by unfold maxLen; omega) (by omega) (by simp; omega) ?_; intro v7 w7 hown7 hgrow _)
        have H10 := Lib.hid (And.intro (HA.out.1.hour (by omega) HA.out.2 hgrow) (own_add hown7 HXS.out (fun c x h => by match c with | 0 => (cases h; exact HZZ.out) | c + 1 => simp at h) (Nat.mod_one _)))
        clear hown7 hgrow hown HA HXS HZZ
        go_wp2_with fail
        go_roundw
        case rel => exact ⟨m + 1, u, v, by go_num, rfl, hz, by omega, H10.out⟩
        case measure => simp [intOf]; omega
      · have hmw : wd * 2 ≤ m := by omega
        have y1 : ¬ (m : Int) < (wd : Int) * 2 := by omega
        obtain ⟨Ah, ch, rfl, _⟩ := HO2.out.value
        have HA := Lib.hid (And.intro (HS.out.alloc (.cells #[.slice Ah m ch] 37)) (HO2.out.kept (World.grownBy_alloc _ (.cells #[.slice Ah m ch] 37) none) (fun _ e => by cases e)))
        obtain ⟨xs, hown, hxs⟩ := HS.out.2.2.2.2.2.2.2.1
        have hbz := HS.out.2.2.2.2.2.2.2.2
        have hsz3 := block_lt HS.out.2.2.2.1
        have HXS := Lib.hid (fun (o : Obj) x hx => (hxs x hx).alloc hbz o)
        have HB := Lib.hid (show w.heap.size ≤ b2 ∧ (1 ≤ m ∧ m ≤ 1000) from ⟨by omega, by omega⟩)
        clear hxs HO2
        go_wp2_with (at_builtin; refine wpList_append_own _ rfl _ _ 24 rfl w.heap.size 37 j0 (.slice none 0 0) 1 24 Try.underlying24 hj hy0 hy1 hy2 rfl (by decide) _ _ _ rfl (hown.alloc _) ⟨_, 0, none⟩ 1 1 [.slice Ah m ch] rfl rfl (World.news_of_block (cs := #[.slice Ah m ch]) (t := 37) (fr := (0, 0)) (heap_alloc_new _ _)) (by simp [Value.oneCell']) (by unfold maxLen; omega) (by omega) (by simp; omega) ?_; intro v7 w7 hown7 hgrow _; obtain ⟨A7, c7, rfl, _⟩ := OwnC.value (p := fun _ _ => True) ⟨_, fun _ _ _ => trivial, hown7⟩; have H10 := Lib.hid (HA.out.1.app HB.out.1 (HXS.out _) HA.out.2 HB.out.2 hgrow hown7); obtain ⟨_, e3, f3⟩ := cell_at H10.out.2.2.2.2.2.1 (k := 3) (n := 4) rfl (by omega); clear hown7 hgrow hown HA HXS k0 k1 k2 k3)
        have hb9 := HS.out.1.size
        have H11 := Lib.hid (H10.out.set (c := 3) (x := .slice A7 (nh + 1) c7) rfl H10.out.2.2.2.2.2.2.1)
        clear H10
        go_wp2_with fail
        go_roundw
        case rel => exact ⟨k - 1, nh + 1, _, u, v, .slice A7 (nh + 1) c7, by go_num, rfl, hz, by omega, by simp; omega, H11.out⟩
        case measure => simp [intOf]; omega
end Go.Proofs.Ytibkhmdnfloemaa
