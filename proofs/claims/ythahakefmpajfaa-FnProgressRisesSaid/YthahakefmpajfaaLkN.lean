/- The drawing of tracks about a course: l10Sail. -/
import Derived.Test.YthahakefmpajfaaLkM
import Derived.Test.YthahakefmpajfaaLiI
import Derived.Test.YthahakefmpajfaaLkC
import Derived.Test.YthahakefmpajfaaClamp
namespace Go.Proofs.Ythahakefmpajfaa
open Go.RowKit
set_option linter.unusedVariables false
set_option linter.unusedSimpArgs false

/-- What stands while a track about a course is drawn. -/
def SlV (w : World) (B Bv g : Nat) (A : Option Addr) (len cap n : Nat) (cs : Array Value) (v : Value) (ga : Nat) (p : Int × Int) (vo : Value) (no : Nat) (wx : World) : Prop :=
  w.grownBy wx (some g) ∧ Cur wx B g A len cap ∧ g < w.heap.size ∧ wx.heap[w.heap.size]? = some (.cells cs 36 (0, 0)) ∧ OwnM wx Bv v n ∧ v.ownBlock ≠ some g ∧ (∀ j, v.ownBlock = some j → j < w.heap.size) ∧ w.heap.size < ga ∧
    wx.heap[ga]? = some (.cells #[.int .i64 p.1, .int .i64 p.2] 25 (0, 0)) ∧ OwnG wx w.heap.size vo no
theorem SlV.draw {w w1 w2 : World} {B Bv g : Nat} {A : Option Addr} {len cap n : Nat} {cs : Array Value} {v : Value} {ga : Nat} {p : Int × Int} {vo : Value} {no : Nat} (h : SlV w B Bv g A len cap n cs v ga p vo no w1) (c : Cur w2 B g A len cap) (k : w1.grownBy w2 (some g)) : SlV w B Bv g A len cap n cs v ga p vo no w2 := by
  obtain ⟨h1, h2, h3, h4, h5, h6, h7, h8, h9, h10⟩ := h
  exact ⟨grown_trans h1 k, c, h3, box_far h4 k (fun e => by cases e; omega), h5.kept k (fun j e q => by cases e; exact h6 q), h6, h7, h8, box_far h9 k (fun e => by cases e; omega), h10.kept k (fun j e q => by cases e; have := (h10.lt q).1; omega)⟩
theorem SlV.alloc {w w1 : World} {B Bv g : Nat} {A : Option Addr} {len cap n : Nat} {cs : Array Value} {v : Value} {ga : Nat} {p : Int × Int} {vo : Value} {no : Nat} (h : SlV w B Bv g A len cap n cs v ga p vo no w1) (o : Obj) : SlV w B Bv g A len cap n cs v ga p vo no (w1.alloc o) :=
  h.draw (h.2.1.alloc o) (World.grownBy_alloc w1 o _)
theorem SlV.drew {w w1 : World} {B Bv g : Nat} {A : Option Addr} {len cap n : Nat} {cs : Array Value} {v : Value} {ga : Nat} {p : Int × Int} {vo : Value} {no : Nat} (h : SlV w B Bv g A len cap n cs v ga p vo no w1) : SlV w B Bv g A len cap n cs v ga p vo no w1.drew :=
  h.draw (h.2.1.grown_far (grown_drewN w1 1 none) (by simp) (fun _ e => by cases e)) ⟨rfl, rfl, rfl, Nat.le_refl _, fun _ _ _ => rfl⟩
theorem SlV.step {w w1 w2 : World} {B Bv g : Nat} {A : Option Addr} {len cap n : Nat} {cs : Array Value} {v : Value} {ga : Nat} {p : Int × Int} {vo : Value} {no : Nat} (h : SlV w B Bv g A len cap n cs v ga p vo no w1) (b : Below w1.heap.size w1 w2) : SlV w B Bv g A len cap n cs v ga p vo no w2 :=
  have k : w1.grownBy w2 none := ⟨b.os, b.tape, b.output, b.size, fun j hj _ => b.block j hj⟩
  h.draw (h.2.1.grown_far k (by simp) (fun _ e => by cases e)) ⟨b.os, b.tape, b.output, b.size, fun j hj _ => b.block j hj⟩
/-- Where the boat is, anew. -/
theorem SlV.at {w w1 : World} {B Bv g : Nat} {A : Option Addr} {len cap n : Nat} {cs : Array Value} {v : Value} {ga : Nat} {p : Int × Int} {vo : Value} {no : Nat} (h : SlV w B Bv g A len cap n cs v ga p vo no w1) (a b : Int) :
    SlV w B Bv g A len cap n cs v ga (a, b) vo no ((w1.setCell ⟨ga, 0, none⟩ (.int .i64 a)).setCell ⟨ga, 1, none⟩ (.int .i64 b)) := by
  obtain ⟨h1, h2, h3, h4, h5, h6, h7, h8, h9, h10⟩ := h
  have hB := h2.1
  have k := grown_trans (grown_set w1 ga 0 (.int .i64 a)) (grown_set _ ga 1 (.int .i64 b))
  have h9' := h10.ne h9 (by decide)
  refine ⟨gr_new h1 k fun j q => .inr (by injection q with q; omega), h2.grown_far k (fun q => by injection q with q; omega) (fun j q => by injection q with q; omega), h3, box_far h4 k (fun q => by injection q with q; omega), h5.kept k (fun j e q => by injection e with e; have := h7 _ q; omega), h6, h7, h8, heap_set_self (k := 1) (heap_set_self (k := 0) h9 (.int .i64 a)) (.int .i64 b), h10.kept k (fun j e q => by injection e with e; exact h9' (e ▸ q))⟩
theorem SlV.facts {w w1 : World} {B Bv g : Nat} {A : Option Addr} {len cap n : Nat} {cs : Array Value} {v : Value} {ga : Nat} {p : Int × Int} {vo : Value} {no : Nat} (h : SlV w B Bv g A len cap n cs v ga p vo no w1) :
    w1.cell? ⟨ga, 0, none⟩ = some (.int .i64 p.1) ∧ w1.cell? ⟨ga, 1, none⟩ = some (.int .i64 p.2) ∧ w1.frozen? ⟨ga, 0, none⟩ = false ∧ ∀ a : Value, (w1.setCell ⟨ga, 0, none⟩ a).cell? ⟨ga, 1, none⟩ = some (.int .i64 p.2) ∧ (w1.setCell ⟨ga, 0, none⟩ a).frozen? ⟨ga, 1, none⟩ = false := by
  have h9 := h.2.2.2.2.2.2.2.2.1
  exact ⟨cell_of_row w1 _ 0 _ _ _ h9, cell_of_row w1 _ 1 _ _ _ h9, frz9 h9, fun a => ⟨(cells2p9 (heap_set_self (k := 0) h9 a)).2, frz9 (k := 1) (heap_set_self (k := 0) h9 a)⟩⟩
theorem SlV.mark {w w1 : World} {B Bv g : Nat} {A : Option Addr} {len cap n : Nat} {cs : Array Value} {v : Value} {ga : Nat} {p : Int × Int} {vo : Value} {no : Nat} (h : SlV w B Bv g A len cap n cs v ga p vo no w1) (hn : 0 < n) : ∃ gM cM f, v = .slice (some ⟨gM, 0, none⟩) n cM ∧ MksIn w1 gM 0 n f := by
  obtain ⟨gM, cM, ds, rfl, _, _, _, a4, a5, a6⟩ := h.2.2.2.2.1.form hn
  have key : ∀ j, ∃ m : Mk, j < n → ds[j * 3]? = some (.int .i64 m.1.1) ∧ ds[j * 3 + 1]? = some (.int .i64 m.1.2) ∧ ds[j * 3 + 2]? = some (.bool m.2) := fun j => by
    by_cases hj : j < n
    · obtain ⟨x0, e0, y0⟩ := a6 (j * 3) (by omega)
      obtain ⟨x1, e1, y1⟩ := a6 (j * 3 + 1) (by omega)
      obtain ⟨x2, e2, y2⟩ := a6 (j * 3 + 2) (by omega)
      obtain ⟨n0, rfl⟩ := y0.1 (by omega)
      obtain ⟨n1, rfl⟩ := y1.1 (by omega)
      obtain ⟨b2, rfl⟩ := y2.2 (by omega)
      exact ⟨((n0, n1), b2), fun _ => ⟨e0, e1, e2⟩⟩
    · exact ⟨((0, 0), false), fun h => absurd h hj⟩
  refine ⟨gM, cM, fun j => (key j).choose, rfl, fun j hj => ?_⟩
  obtain ⟨e0, e1, e2⟩ := (key j).choose_spec hj
  rw [Nat.zero_add]
  exact ⟨(cell_of_row w1 _ _ _ _ _ a4).trans e0, (cell_of_row w1 _ _ _ _ _ a4).trans e1, (cell_of_row w1 _ _ _ _ _ a4).trans e2⟩
/-- A sight more. -/
theorem SlV.add {w w1 w7 : World} {B Bv g : Nat} {A : Option Addr} {len cap n : Nat} {cs : Array Value} {v : Value} {ga : Nat} {p : Int × Int} {vo vo' : Value} {no no' : Nat} (h : SlV w B Bv g A len cap n cs v ga p vo no w1) (k : w1.grownBy w7 vo.ownBlock) (ho : OwnG w7 w.heap.size vo' no') : SlV w B Bv g A len cap n cs v ga p vo' no' w7 := by
  obtain ⟨h1, h2, h3, h4, h5, h6, h7, h8, h9, h10⟩ := h
  have hB := h2.1
  have q1 := h10.ne h9 (by decide)
  have q2 := h10.ne h4 (by decide)
  refine ⟨gr_new h1 k fun j q => .inr (h10.lt q).1, h2.grown_far k (fun q => by have := (h10.lt q).1; omega) (fun j q => by have := (h10.lt q).1; omega), h3, box_far h4 k q2, h5.kept k (fun j e q => by have := (h10.lt e).1; have := h7 _ q; omega), h6, h7, h8, box_far h9 k q1, ho⟩
theorem SlV.cells {w w1 : World} {B Bv g : Nat} {A : Option Addr} {len cap n : Nat} {a0 a1 a2 a3 a4 a5 a6 a7 a8 v : Value} {ga : Nat} {p : Int × Int} {vo : Value} {no : Nat} (h : SlV w B Bv g A len cap n #[a0, a1, a2, a3, a4, a5, a6, a7, a8] v ga p vo no w1) :
    w1.cell? ⟨w.heap.size, 0, none⟩ = some a0 ∧ w1.cell? ⟨w.heap.size, 1, none⟩ = some a1 ∧ w1.cell? ⟨w.heap.size, 2, none⟩ = some a2 ∧ w1.cell? ⟨w.heap.size, 3, none⟩ = some a3 ∧ w1.cell? ⟨w.heap.size, 4, none⟩ = some a4 ∧ w1.cell? ⟨w.heap.size, 5, none⟩ = some a5 ∧ w1.cell? ⟨w.heap.size, 6, none⟩ = some a6 ∧ w1.cell? ⟨w.heap.size, 7, none⟩ = some a7 ∧ w1.cell? ⟨w.heap.size, 8, none⟩ = some a8 := cells9 h.2.2.2.1
theorem SlV.new {w w4 : World} {B Bv g : Nat} {A : Option Addr} {len cap n : Nat} {cs : Array Value} {v : Value} {vo : Value} {no : Nat} (h1 : w.grownBy w4 (some g)) (h2 : Cur w4 B g A len cap) (h3 : g < w.heap.size) (h4 : w4.heap[w.heap.size]? = some (.cells cs 36 (0, 0))) (h5 : OwnM w4 Bv v n)
    (h6 : v.ownBlock ≠ some g) (h7 : ∀ j, v.ownBlock = some j → j < w.heap.size) (h10 : OwnG w4 w.heap.size vo no) (a b : Int) : SlV w B Bv g A len cap n cs v w4.heap.size (a, b) vo no (w4.alloc (.cells #[.int .i64 a, .int .i64 b] 25)) := by
  have ga := World.grownBy_alloc w4 (.cells #[.int .i64 a, .int .i64 b] 25) none
  have hl := block_lt h4
  exact ⟨grown_trans h1 (World.grownBy_alloc w4 _ _), h2.alloc _, h3, box_far h4 ga (fun e => by cases e), h5.kept ga (fun j e => by cases e), h6, h7, hl, heap_alloc_new w4 _, h10.kept ga (fun j e => by cases e)⟩
/-- With a mark at hand. -/
def SlM (w : World) (B Bv g : Nat) (A : Option Addr) (len cap n : Nat) (cs : Array Value) (v : Value) (ga : Nat) (p : Int × Int) (vo : Value) (no gm : Nat) (m : Int × Int) (wx : World) : Prop :=
  SlV w B Bv g A len cap n cs v ga p vo no wx ∧ wx.heap[gm]? = some (.cells #[.int .i64 m.1, .int .i64 m.2] 25 (0, 0)) ∧ ga ≠ gm ∧ w.heap.size ≤ gm
theorem SlM.draw {w w1 w2 : World} {B Bv g : Nat} {A : Option Addr} {len cap n : Nat} {cs : Array Value} {v : Value} {ga : Nat} {p : Int × Int} {vo : Value} {no gm : Nat} {m : Int × Int} (h : SlM w B Bv g A len cap n cs v ga p vo no gm m w1) (c : Cur w2 B g A len cap) (k : w1.grownBy w2 (some g)) : SlM w B Bv g A len cap n cs v ga p vo no gm m w2 :=
  ⟨h.1.draw c k, box_far h.2.1 k (fun e => by injection e with e; have := h.1.2.2.1; have := h.2.2.2; omega), h.2.2⟩
theorem SlM.at {w w1 : World} {B Bv g : Nat} {A : Option Addr} {len cap n : Nat} {cs : Array Value} {v : Value} {ga : Nat} {p : Int × Int} {vo : Value} {no gm : Nat} {m : Int × Int} (h : SlM w B Bv g A len cap n cs v ga p vo no gm m w1) (a b : Int) : SlM w B Bv g A len cap n cs v ga (a, b) vo no gm m ((w1.setCell ⟨ga, 0, none⟩ (.int .i64 a)).setCell ⟨ga, 1, none⟩ (.int .i64 b)) :=
  ⟨h.1.at a b, box_far h.2.1 (grown_trans (grown_set w1 ga 0 (.int .i64 a)) (grown_set _ ga 1 (.int .i64 b))) (fun e => by injection e with e; exact h.2.2.1 e), h.2.2⟩
theorem SlM.facts {w w1 : World} {B Bv g : Nat} {A : Option Addr} {len cap n : Nat} {cs : Array Value} {v : Value} {ga : Nat} {p : Int × Int} {vo : Value} {no gm : Nat} {m : Int × Int} (h : SlM w B Bv g A len cap n cs v ga p vo no gm m w1) : w1.cell? ⟨gm, 0, none⟩ = some (.int .i64 m.1) ∧ w1.cell? ⟨gm, 1, none⟩ = some (.int .i64 m.2) := cells2p9 h.2.1
set_option maxRecDepth 100000 in
set_option maxHeartbeats 8000000 in
theorem d_sail (w : World) (B Bv g len cap n : Nat) (A : Option Addr) (s t : Ln) (v : Value) (hc : Cur w B g A len cap) (hn : n ≤ 21) (ho : OwnM w Bv v n) (hv : v.ownBlock ≠ some g) :
    Calls Try.prog 52 #[.pointer (some ⟨g, 0, none⟩), .agg (cs9 s t v)] w fun e w' => ∃ (v' : Value) (n' : Nat), n' ≤ 60 ∧ e = .returned v' ∧ OwnG w' w.heap.size v' n' ∧ Cur w' B g A len cap ∧ w.grownBy w' (some g) := by
  obtain ⟨i0, hi, hz0, hz1, hz2⟩ := info_parts Try.infoSgZ
  have hgl := hc.lt
  obtain ⟨Av, cv, rfl, _⟩ := ho.value
  obtain ⟨⟨s1, s2⟩, s3, s4⟩ := s
  obtain ⟨⟨t1, t2⟩, t3, t4⟩ := t
  unfold cs9
  dsimp only at *
  have HV := Lib.hid (And.intro ho (And.intro hv (fun j (e : (Value.slice Av n cv).ownBlock = some j) => (ho.lt e).2)))
  clear ho hv
  have hC0 := heap_alloc_new w (.cells #[.int .i64 s1, .int .i64 s2, .int .i64 s3, .int .i64 s4, .slice Av n cv, .int .i64 t1, .int .i64 t2, .int .i64 t3, .int .i64 t4] 36)
  have hC1 := (Below.heap_alloc (w.alloc (.cells #[.int .i64 s1, .int .i64 s2, .int .i64 s3, .int .i64 s4, .slice Av n cv, .int .i64 t1, .int .i64 t2, .int .i64 t3, .int .i64 t4] 36)) (.cells #[] 86) w.heap.size (by simp)).trans hC0
  have g0 := grown_trans (World.grownBy_alloc w (.cells #[.int .i64 s1, .int .i64 s2, .int .i64 s3, .int .i64 s4, .slice Av n cv, .int .i64 t1, .int .i64 t2, .int .i64 t3, .int .i64 t4] 36) (some g)) (World.grownBy_alloc _ (.cells #[] 86) (some g))
  have cu0 := (hc.alloc (.cells #[.int .i64 s1, .int .i64 s2, .int .i64 s3, .int .i64 s4, .slice Av n cv, .int .i64 t1, .int .i64 t2, .int .i64 t3, .int .i64 t4] 36)).alloc (.cells #[] 86)
  have hO : OwnG ((w.alloc (.cells #[.int .i64 s1, .int .i64 s2, .int .i64 s3, .int .i64 s4, .slice Av n cv, .int .i64 t1, .int .i64 t2, .int .i64 t3, .int .i64 t4] 36)).alloc (.cells #[] 86)) w.heap.size (.slice (some ⟨w.heap.size + 1, 0, none⟩) 0 0) 0 := ⟨[], (fun c x hx => by simp at hx), by simp, .inr ⟨w.heap.size + 1, 0, #[], rfl, by omega, (by have h := heap_alloc_new (w.alloc (.cells #[.int .i64 s1, .int .i64 s2, .int .i64 s3, .int .i64 s4, .slice Av n cv, .int .i64 t1, .int .i64 t2, .int .i64 t3, .int .i64 t4] 36)) (.cells #[] 86); simpa using h), Nat.le_refl _, by simp [maxLen], by simp, by simp⟩⟩
  have hne0 : ∀ k, some g = some k → (Value.slice (some ⟨w.heap.size + 1, 0, none⟩) 0 0).ownBlock ≠ some k := fun k ek e => by injection ek with ek; injection e with e; dsimp only at e; omega
  clear hC0
  go_enter Try.func52, Try.ntmps52
  go_wp2_with fail
  refine (d_below 50 _ B g len cap A cu0 (by omega)).mono ?_
  rintro e w3 ⟨tm, _, _, _, rfl, cu3, gr3⟩
  have hC3 := Lib.hid (box_far hC1 gr3 (fun e => by injection e with e; omega))
  have g3 := grown_trans g0 gr3
  have hO3 := Lib.hid (And.intro (hO.kept gr3 hne0) hne0)
  clear hC1 g0 gr3 hO hne0 cu0
  go_wp2_with fail
  refine (d_near (-20, 0) 15 _ B g len cap A (by omega) cu3).mono ?_
  rintro e w4 ⟨⟨a1, a2⟩, rfl, cu4, gr4⟩
  dsimp only at *
  have hgw := cu4.lt
  have HS0 := Lib.hid (SlV.new (grown_trans g3 gr4) cu4 hgl (box_far hC3.out gr4 (fun e => by injection e with e; omega)) (HV.out.1.kept (grown_trans g3 gr4) (fun j e q => by injection e with e; exact HV.out.2.1 (e ▸ q))) HV.out.2.1 HV.out.2.2 (hO3.out.1.kept gr4 hO3.out.2) a1 a2)
  clear g3 cu3 cu4 gr4 hC3 hO3 HV
  go_wp2
  generalize hga : w4.heap.size = ga at *
  generalize hw5 : w4.alloc (.cells #[.int .i64 a1, .int .i64 a2] 25) = w5 at *
  clear hw5 hga hgw
  go_loopw [5, 6, 8] (fun o m i wr => ∃ (k : Nat) (z : Int) (p : Int × Int), m = .int .i64 z ∧ i = .int .i64 k ∧ k ≤ 60 ∧ SlV w B Bv g A len cap n #[.int .i64 s1, .int .i64 s2, .int .i64 s3, .int .i64 s4, .slice Av n cv, .int .i64 t1, .int .i64 t2, .int .i64 t3, .int .i64 t4] (.slice Av n cv) ga p o k wr) (fun _ _ i _ => 60 - (intOf i).toNat)
  case atStart => exact ⟨0, tm, (a1, a2), rfl, rfl, by omega, HS0.out⟩
  case round =>
    clear HS0
    obtain ⟨k, z, ⟨p1, p2⟩, rfl, rfl, hk, hs⟩ := hrel
    have HS := Lib.hid hs
    obtain ⟨c0, c1, c2, c3, c4, c5, c6, c7, c8⟩ := hs.cells
    obtain ⟨d0, d1, d2, d3⟩ := hs.facts
    dsimp only at d0 d1 d3
    clear hs
    by_cases h1 : k < 3 + n * 5
    · by_cases h2 : k < 60
      · have h1' : (k : Int) < 3 + (n : Int) * 5 := by omega
        have h2' : (k : Int) < 60 := by omega
        obtain ⟨xs, hxs, hown⟩ := HS.out.2.2.2.2.2.2.2.2.2
        have hxl : xs.length = k * 3 := hown.1
        have HA := Lib.hid (HS.out.alloc (.cells #[.int .i64 p1, .int .i64 p2, .int .i64 z] 86))
        have hszw : w.heap.size ≤ wr.heap.size := HS.out.1.size
        go_wp2_with (at_builtin; refine wpList_append_own _ rfl _ _ 37 rfl w.heap.size 86 i0 (.agg #[.int .i64 0, .int .i64 0, .int .i64 0]) 3 24 Try.underlying37 hi hz0 hz1 hz2 rfl (by decide) _ k xs rfl (hown.alloc _) ⟨wr.heap.size, 0, none⟩ 1 1 [.int .i64 p1, .int .i64 p2, .int .i64 z] rfl rfl (World.news_of_block (cs := #[.int .i64 p1, .int .i64 p2, .int .i64 z]) (t := 86) (fr := (0, 0)) (heap_alloc_new wr _)) (by simp [Value.oneCell']) (by unfold maxLen; omega) (by omega) (by simp; omega) ?_; intro v' w7 hown7 hgrow _)
        have HS7 := Lib.hid (HA.out.add hgrow (own_add hown7 hxs (sg_cells p1 p2 z) (by omega)))
        clear hown7 hgrow HA hxs hown HS c0 c1 c2 c3 c4 c5 c6 c7 c8 d0 d1 d2 d3
        go_wp2_with fail
        refine (d_below 30 _ B g len cap A HS7.out.2.1 (by omega)).mono ?_
        rintro e w8 ⟨y, _, _, _, rfl, cu8, gr8⟩
        have HS8 := Lib.hid (HS7.out.draw cu8 gr8)
        clear cu8 gr8 HS7
        obtain ⟨c0, c1, c2, c3, c4, c5, c6, c7, c8⟩ := HS8.out.cells
        obtain ⟨q, hq⟩ : ∃ q : Nat, k / 5 = q := ⟨_, rfl⟩
        have e1 : (k : Int).tdiv 5 = (q : Int) := by rw [Int.tdiv_eq_ediv_of_nonneg (by omega)]; omega
        have e2 : (k : Int) / 5 = (q : Int) := by omega
        by_cases h3 : q < n
        · have h3' : (q : Int) < (n : Int) := by omega
          obtain ⟨gM, cM, f, ev, hM8⟩ := HS8.out.mark (by omega)
          cases ev
          go_wp2_with fail
          refine (s_org ⟨((s1, s2), (s3, s4)), n, f, ((t1, t2), (t3, t4))⟩ _ gM 0 cv q w8 (Nat.le_of_lt h3) (by show n ≤ _; omega) (fun _ => rfl) hM8).mono ?_
          rintro e w9 ⟨rfl, b9⟩
          generalize orgW ⟨((s1, s2), (s3, s4)), n, f, ((t1, t2), (t3, t4))⟩ q = oo
          obtain ⟨o1, o2⟩ := oo
          obtain ⟨⟨⟨m1, m2⟩, mb⟩, hm⟩ : ∃ x, f q = x := ⟨_, rfl⟩
          have hM9 := hM8.below b9 (Nat.le_refl _)
          have HS9 := Lib.hid (HS8.out.step b9)
          clear b9 hM8 HS8 c0 c1 c2 c3 c4 c5 c6 c7 c8
          dsimp only
          have hMa := (hM9.below ((Below.refl _ w9).alloc (Nat.le_refl _) (.cells #[.int .i64 o1, .int .i64 o2] 25)) (Nat.le_refl _))
          have hMb := (hMa.below ((Below.refl _ (w9.alloc (.cells #[.int .i64 o1, .int .i64 o2] 25))).alloc (Nat.le_refl _) (.cells #[.int .i64 m1, .int .i64 m2] 25)) (Nat.le_refl _))
          have HSa := Lib.hid (HS9.out.alloc (.cells #[.int .i64 o1, .int .i64 o2] 25))
          have HSb := Lib.hid (HSa.out.alloc (.cells #[.int .i64 m1, .int .i64 m2] 25))
          have ca := HSa.out.cells.2.2.2.2.1
          have cb := HSb.out.cells.2.2.2.2.1
          obtain ⟨l0, l1, _⟩ := hMa q h3
          obtain ⟨_, _, l2⟩ := hMb q h3
          rw [hm, Nat.zero_add] at l0 l1 l2
          dsimp only at l0 l1 l2
          have hO8 := heap_alloc_new w9 (.cells #[.int .i64 o1, .int .i64 o2] 25)
          have hO9 := (Below.heap_alloc (w9.alloc (.cells #[.int .i64 o1, .int .i64 o2] 25)) (.cells #[.int .i64 m1, .int .i64 m2] 25) w9.heap.size (by simp)).trans hO8
          have hP9 := heap_alloc_new (w9.alloc (.cells #[.int .i64 o1, .int .i64 o2] 25)) (.cells #[.int .i64 m1, .int .i64 m2] 25)
          have hsa : (w9.alloc (.cells #[.int .i64 o1, .int .i64 o2] 25)).heap.size = w9.heap.size + 1 := by simp
          rw [hsa] at hP9
          obtain ⟨y0, y1⟩ := cells2p9 hO9
          obtain ⟨y2, y3⟩ := cells2p9 hP9
          have hga := block_lt HS9.out.2.2.2.2.2.2.2.2.1
          have HM := Lib.hid (show SlM w B Bv g A len cap n _ _ ga _ _ _ (w9.heap.size + 1) (m1, m2) _ from ⟨HSb.out, hP9, by omega, by have := HS9.out.1.size; omega⟩)
          obtain ⟨d0, d1, d2, d3⟩ := HSb.out.facts
          have f0 := fun a b : Int => (HM.out.at a b).facts.1
          have f1 := fun a b : Int => (HM.out.at a b).facts.2
          have f2 := fun a b : Int => (HM.out.at a b).1.facts.1
          have f3 := fun a b : Int => (HM.out.at a b).1.facts.2.2.1
          have f4 := fun a b : Int => fun v => ((HM.out.at a b).1.facts.2.2.2 v).1
          have f5 := fun a b : Int => fun v => ((HM.out.at a b).1.facts.2.2.2 v).2
          dsimp only at d0 d1 d3 f0 f1 f2 f3 f4 f5
          have hcl := fun n a b w => s_clamp n a b w
          clear hM9 hMa hMb HS9 hO8 hO9 hP9 hm HSa HSb hga hsa
          by_cases h5 : k % 5 = 4
          · have h5' : (k : Int) % 5 = 4 := by omega
            cases mb
            all_goals (
              go_wp2_with (go_at_call 81; (with_reducible refine (hcl _ _ _ _).mono ?_); rintro e w' ⟨rfl, rfl⟩)
              refine (d_once 8 _ B g len cap A ((HM.out.at _ _).at _ _).1.2.1 (by omega)).mono ?_
              rintro e w10 ⟨t10, rfl, cu10, gr10⟩
              obtain ⟨⟨b1, b2⟩, hN⟩ : ∃ p, SlM w B Bv g A len cap n _ _ ga p _ _ _ (m1, m2) w10 := ⟨_, ((HM.out.at _ _).at _ _).draw cu10 gr10⟩
              have HN := Lib.hid hN
              clear hN cu10 gr10 HM f0 f1 f2 f3 f4 f5 hcl ca cb l0 l1 l2 y0 y1 y2 y3 d0 d1 d2 d3
              cases t10
              · go_wp2_with fail
                go_roundw
                case rel => exact ⟨k + 1, _, (b1, b2), rfl, by go_num, by omega, HN.out.1⟩
                case measure => simp [intOf]; omega
              · obtain ⟨y0, y1⟩ := HN.out.facts
                dsimp only at y0 y1
                go_wp2_with fail
                refine (d_near (m1, m2) 40 _ B g len cap A (by omega) HN.out.1.2.1).mono ?_
                rintro e w11 ⟨⟨x1, x2⟩, rfl, cu11, gr11⟩
                dsimp only at *
                have HQ := Lib.hid (HN.out.1.draw cu11 gr11)
                clear cu11 gr11 HN y0 y1
                obtain ⟨d0, d1, d2, d3⟩ := HQ.out.facts
                dsimp only at d0 d1 d3
                have HE := Lib.hid (HQ.out.at x1 x2)
                go_wp2_with fail
                go_roundw
                case rel => exact ⟨k + 1, _, (x1, x2), rfl, by go_num, by omega, HE.out⟩
                case measure => simp [intOf]; omega)
          · have h5' : ¬ (k : Int) % 5 = 4 := by omega
            cases mb
            all_goals (
              go_wp2_with (go_at_call 81; (with_reducible refine (hcl _ _ _ _).mono ?_); rintro e w' ⟨rfl, rfl⟩)
              refine (d_once 8 _ B g len cap A (HM.out.at _ _).1.2.1 (by omega)).mono ?_
              rintro e w10 ⟨t10, rfl, cu10, gr10⟩
              obtain ⟨⟨b1, b2⟩, hN⟩ : ∃ p, SlM w B Bv g A len cap n _ _ ga p _ _ _ (m1, m2) w10 := ⟨_, (HM.out.at _ _).draw cu10 gr10⟩
              have HN := Lib.hid hN
              clear hN cu10 gr10 HM f0 f1 f2 f3 f4 f5 hcl ca cb l0 l1 l2 y0 y1 y2 y3 d0 d1 d2 d3
              cases t10
              · go_wp2_with fail
                go_roundw
                case rel => exact ⟨k + 1, _, (b1, b2), rfl, by go_num, by omega, HN.out.1⟩
                case measure => simp [intOf]; omega
              · obtain ⟨y0, y1⟩ := HN.out.facts
                dsimp only at y0 y1
                go_wp2_with fail
                refine (d_near (m1, m2) 40 _ B g len cap A (by omega) HN.out.1.2.1).mono ?_
                rintro e w11 ⟨⟨x1, x2⟩, rfl, cu11, gr11⟩
                dsimp only at *
                have HQ := Lib.hid (HN.out.1.draw cu11 gr11)
                clear cu11 gr11 HN y0 y1
                obtain ⟨d0, d1, d2, d3⟩ := HQ.out.facts
                dsimp only at d0 d1 d3
                have HE := Lib.hid (HQ.out.at x1 x2)
                go_wp2_with fail
                go_roundw
                case rel => exact ⟨k + 1, _, (x1, x2), rfl, by go_num, by omega, HE.out⟩
                case measure => simp [intOf]; omega)
        · have h3' : ¬ (q : Int) < (n : Int) := by omega
          obtain ⟨d0, d1, d2, d3⟩ := HS8.out.facts
          dsimp only at d0 d1 d3
          go_wp2_with fail
          refine (d_near (_, 0) 25 _ B g len cap A (by omega) HS8.out.2.1).mono ?_
          rintro e w9 ⟨⟨x1, x2⟩, rfl, cu9, gr9⟩
          dsimp only at *
          have HS9 := Lib.hid (HS8.out.draw cu9 gr9)
          clear cu9 gr9 HS8 c0 c1 c2 c3 c4 c5 c6 c7 c8 d0 d1 d2 d3
          obtain ⟨d0, d1, d2, d3⟩ := HS9.out.facts
          dsimp only at d0 d1 d3
          have HE := Lib.hid (HS9.out.at x1 x2)
          go_wp2_with fail
          go_roundw
          case rel => exact ⟨k + 1, _, (x1, x2), rfl, by go_num, by omega, HE.out⟩
          case measure => simp [intOf]; omega
      · have h1' : (k : Int) < 3 + (n : Int) * 5 := by omega
        have h2' : ¬ (k : Int) < 60 := by omega
        go_wp2
        go_ret
        exact ⟨_, _, hk, rfl, HS.out.2.2.2.2.2.2.2.2.2, HS.out.2.1, HS.out.1⟩
    · have h1' : ¬ (k : Int) < 3 + (n : Int) * 5 := by omega
      go_wp2
      go_ret
      exact ⟨_, _, hk, rfl, HS.out.2.2.2.2.2.2.2.2.2, HS.out.2.1, HS.out.1⟩
end Go.Proofs.Ythahakefmpajfaa
