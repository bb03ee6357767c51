/- Rays, marks, courses (impl): their methods. -/
import Derived.Test.YthahakefmpajfaaLmA
import Derived.Test.YthahakefmpajfaaLjB
import Derived.Test.YthahakefmpajfaaLjK
import Derived.Test.YthahakefmpajfaaOwnA
import Derived.Test.YthahakefmpajfaaMdA
import Derived.Test.YthahakefmpajfaaLkD
import Derived.Deep.RegionWith
namespace Go.Proofs.Ythahakefmpajfaa
open Go.RowKit
set_option linter.unusedVariables false
set_option linter.unusedSimpArgs false

set_option maxRecDepth 100000 in
set_option maxHeartbeats 1000000 in
theorem i_vdot (p q : Int × Int) (w : World) (hp : (-20000 ≤ p.1 ∧ p.1 ≤ 20000) ∧ (-20000 ≤ p.2 ∧ p.2 ≤ 20000)) (hq : (-20000 ≤ q.1 ∧ q.1 ≤ 20000) ∧ (-20000 ≤ q.2 ∧ q.2 ≤ 20000)) :
    Calls Try.prog 94 #[.agg #[.int .i64 p.1, .int .i64 p.2], .agg #[.int .i64 q.1, .int .i64 q.2]] w fun e w' => e = .returned (.int .i64 (p.1 * q.1 + p.2 * q.2)) ∧ Below w.heap.size w w' := by
  have m1 := mul_bdI hp.1.1 hp.1.2 hq.1.1 hq.1.2
  have m2 := mul_bdI hp.2.1 hp.2.2 hq.2.1 hq.2.2
  obtain ⟨x, y⟩ := p
  obtain ⟨z, t⟩ := q
  dsimp only at *
  have HS := Lib.hid (Bx2.new w #[.int .i64 x, .int .i64 y] 124 #[.int .i64 z, .int .i64 t] 124)
  go_enter Try.func94, Try.ntmps94
  go_wp2
  go_ret
  exact ⟨rfl, HS.out.2.2⟩
set_option maxRecDepth 100000 in
set_option maxHeartbeats 1000000 in
theorem i_along (l : Ln) (p : Int × Int) (w : World) (hl : plB l.1 = true) (hm : plB l.2 = true) (hp : plB p = true) :
    Calls Try.prog 78 #[.agg #[.int .i64 l.1.1, .int .i64 l.1.2, .int .i64 l.2.1, .int .i64 l.2.2], .agg #[.int .i64 p.1, .int .i64 p.2]] w
      fun e w' => e = .returned (.int .i64 (dtx l.1 l.2 l.2 p)) ∧ Below w.heap.size w w' := by
  obtain ⟨m1, m2, m3, m4, _⟩ := dtx_bd hl hm hm hp
  have H1 := Lib.hid (fun w => i_less l.2 l.1 w hm hl)
  have H2 := Lib.hid (fun w => i_less p l.2 w hp hm)
  have H3 := Lib.hid (fun w => i_vdot (l.2.1 - l.1.1, l.2.2 - l.1.2) (p.1 - l.2.1, p.2 - l.2.2) w ⟨m1, m3⟩ ⟨m2, m4⟩)
  unfold dtx
  clear hl hm hp m1 m2 m3 m4
  obtain ⟨⟨x1, x2⟩, x3, x4⟩ := l
  obtain ⟨y1, y2⟩ := p
  dsimp only at *
  have hst := (Bx2.new w #[.int .i64 x1, .int .i64 x2, .int .i64 x3, .int .i64 x4] 76 #[.int .i64 y1, .int .i64 y2] 25)
  have rd := fun s : Held (fun wx => Bx2 w #[.int .i64 x1, .int .i64 x2, .int .i64 x3, .int .i64 x4] 76 #[.int .i64 y1, .int .i64 y2] 25 wx) => cells4 s.h.1
  have rp := fun s : Held (fun wx => Bx2 w #[.int .i64 x1, .int .i64 x2, .int .i64 x3, .int .i64 x4] 76 #[.int .i64 y1, .int .i64 y2] 25 wx) => cells2 s.h.2.1
  have rd0 := fun s => (rd s).1
  have rd1 := fun s => (rd s).2.1
  have rd2 := fun s => (rd s).2.2.1
  have rd3 := fun s => (rd s).2.2.2
  have rp0 := fun s => (rp s).1
  have rp1 := fun s => (rp s).2
  clear rd rp
  generalize hA : x3 - x1 = A at *
  generalize hB : x4 - x2 = B at *
  generalize hC : y1 - x3 = C at *
  generalize hD : y2 - x4 = D at *
  clear hA hB hC hD
  go_enter Try.func78, Try.ntmps78
  go_wp2
  haveI hne : Nonempty (Held fun wx => Bx2 w #[.int .i64 x1, .int .i64 x2, .int .i64 x3, .int .i64 x4] 76 #[.int .i64 y1, .int .i64 y2] 25 wx) := ⟨⟨_, hst⟩⟩
  refine wp_region_class (fun wx => Bx2 w #[.int .i64 x1, .int .i64 x2, .int .i64 x3, .int .i64 x4] 76 #[.int .i64 y1, .int .i64 y2] 25 wx) (by kernel_rfl) (by kernel_rfl) hst.drew ?_
  repeat (go_big_quiet_step (first
    | (go_at_call 92; with_reducible exact held_call Bx2.step (H1.out _))
    | (go_at_call 92; with_reducible exact held_call Bx2.step (H2.out _))
    | (go_at_call 94; with_reducible exact held_call Bx2.step (H3.out _))))
  refine wpQuiet_nil ?_
  intro _ hw'
  obtain ⟨⟨wq, hst6⟩, rfl⟩ := hw'
  (try dsimp only)
  go_wp2
  go_ret
  exact ⟨rfl, hst6.2.2⟩
set_option maxRecDepth 100000 in
set_option maxHeartbeats 2000000 in
theorem i_passed (l : Ln) (a b : Int × Int) (w : World) (h1 : liB l = true) (h2 : plB a = true) (h3 : plB b = true) :
    Calls Try.prog 48 #[.agg #[.int .i64 l.1.1, .int .i64 l.1.2, .int .i64 l.2.1, .int .i64 l.2.2], .agg #[.int .i64 a.1, .int .i64 a.2], .agg #[.int .i64 b.1, .int .i64 b.2]] w
      fun e w' => e = .returned (.int .i64 (prW l.1 l.2 a b)) ∧ Below w.heap.size w w' := by
  obtain ⟨e1, e2, _⟩ := liB_iff.1 h1
  have H1 := Lib.hid (fun w => i_hgt l a w e1 e2 h2)
  have H2 := Lib.hid (fun w => i_hgt l b w e1 e2 h3)
  have H3 := Lib.hid (fun w => i_along l b w e1 e2 h3)
  have H4 := Lib.hid (fun w => i_along l a w e1 e2 h2)
  obtain ⟨m1, m2⟩ := prN_bd (hgt_bd h1 h2) (hgt_bd h1 h3) (dtx_bd e1 e2 e2 h2).2.2.2.2.2.2 (dtx_bd e1 e2 e2 h3).2.2.2.2.2.2
  rw [show prW l.1 l.2 a b = prV (hgt l a) (hgt l b) (dtx l.1 l.2 l.2 a) (dtx l.1 l.2 l.2 b) from prW_yes h1 h2 h3]
  have hw := pass_ways (hgt l a) (hgt l b) (dtx l.1 l.2 l.2 a) (dtx l.1 l.2 l.2 b)
  unfold prN at hw
  generalize hgt l a = h at *
  generalize hgt l b = k at *
  generalize dtx l.1 l.2 l.2 a = u at *
  generalize dtx l.1 l.2 l.2 b = v at *
  generalize prV h k u v = r at *
  have zz1 : IntKind.i64.wrap (v * h) = v * h := IntWalk.i64_in _ (by omega)
  have zz2 : IntKind.i64.wrap (u * k) = u * k := IntWalk.i64_in _ (by omega)
  have zz3 : IntKind.i64.wrap (v * h - u * k) = v * h - u * k := IntWalk.i64_in _ (by omega)
  have HW := Lib.hid hw
  clear hw h1 h2 h3 e1 e2
  obtain ⟨⟨x1, x2⟩, x3, x4⟩ := l
  obtain ⟨y1, y2⟩ := a
  obtain ⟨z1, z2⟩ := b
  dsimp only at *
  have hst := (Bx3.new w #[.int .i64 x1, .int .i64 x2, .int .i64 x3, .int .i64 x4] 76 #[.int .i64 y1, .int .i64 y2] 25 #[.int .i64 z1, .int .i64 z2] 25)
  have rd0 := fun s : Held (fun wx => Bx3 w #[.int .i64 x1, .int .i64 x2, .int .i64 x3, .int .i64 x4] 76 #[.int .i64 y1, .int .i64 y2] 25 #[.int .i64 z1, .int .i64 z2] 25 wx) => (cells4 s.h.1).1
  have rd1 := fun s : Held (fun wx => Bx3 w #[.int .i64 x1, .int .i64 x2, .int .i64 x3, .int .i64 x4] 76 #[.int .i64 y1, .int .i64 y2] 25 #[.int .i64 z1, .int .i64 z2] 25 wx) => (cells4 s.h.1).2.1
  have rd2 := fun s : Held (fun wx => Bx3 w #[.int .i64 x1, .int .i64 x2, .int .i64 x3, .int .i64 x4] 76 #[.int .i64 y1, .int .i64 y2] 25 #[.int .i64 z1, .int .i64 z2] 25 wx) => (cells4 s.h.1).2.2.1
  have rd3 := fun s : Held (fun wx => Bx3 w #[.int .i64 x1, .int .i64 x2, .int .i64 x3, .int .i64 x4] 76 #[.int .i64 y1, .int .i64 y2] 25 #[.int .i64 z1, .int .i64 z2] 25 wx) => (cells4 s.h.1).2.2.2
  have rp0 := fun s : Held (fun wx => Bx3 w #[.int .i64 x1, .int .i64 x2, .int .i64 x3, .int .i64 x4] 76 #[.int .i64 y1, .int .i64 y2] 25 #[.int .i64 z1, .int .i64 z2] 25 wx) => (cells2 s.h.2.1).1
  have rp1 := fun s : Held (fun wx => Bx3 w #[.int .i64 x1, .int .i64 x2, .int .i64 x3, .int .i64 x4] 76 #[.int .i64 y1, .int .i64 y2] 25 #[.int .i64 z1, .int .i64 z2] 25 wx) => (cells2 s.h.2.1).2
  have rq0 := fun s : Held (fun wx => Bx3 w #[.int .i64 x1, .int .i64 x2, .int .i64 x3, .int .i64 x4] 76 #[.int .i64 y1, .int .i64 y2] 25 #[.int .i64 z1, .int .i64 z2] 25 wx) => (cells2 s.h.2.2.1).1
  have rq1 := fun s : Held (fun wx => Bx3 w #[.int .i64 x1, .int .i64 x2, .int .i64 x3, .int .i64 x4] 76 #[.int .i64 y1, .int .i64 y2] 25 #[.int .i64 z1, .int .i64 z2] 25 wx) => (cells2 s.h.2.2.1).2
  go_enter Try.func48, Try.ntmps48
  go_wp2
  haveI hnehst6 : Nonempty (Held fun wx => Bx3 w #[.int .i64 x1, .int .i64 x2, .int .i64 x3, .int .i64 x4] 76 #[.int .i64 y1, .int .i64 y2] 25 #[.int .i64 z1, .int .i64 z2] 25 wx) := ⟨⟨_, hst⟩⟩
  refine wp_region_class (fun wx => Bx3 w #[.int .i64 x1, .int .i64 x2, .int .i64 x3, .int .i64 x4] 76 #[.int .i64 y1, .int .i64 y2] 25 #[.int .i64 z1, .int .i64 z2] 25 wx) (by kernel_rfl) (by kernel_rfl) (Bx3.drew hst) ?_
  repeat (go_big_quiet_step (first
    | (go_at_call 77; with_reducible exact held_call Bx3.step (H1.out _))
    | (go_at_call 77; with_reducible exact held_call Bx3.step (H2.out _))))
  refine wpQuiet_nil ?_
  intro wyhst6 hw'
  obtain ⟨⟨wqhst6, hst6⟩, rfl⟩ := hw'
  (try dsimp only)
  go_wp2
  haveI hnehst7 : Nonempty (Held fun wx => Bx3 w #[.int .i64 x1, .int .i64 x2, .int .i64 x3, .int .i64 x4] 76 #[.int .i64 y1, .int .i64 y2] 25 #[.int .i64 z1, .int .i64 z2] 25 wx) := ⟨⟨_, hst6⟩⟩
  refine wp_region_class (fun wx => Bx3 w #[.int .i64 x1, .int .i64 x2, .int .i64 x3, .int .i64 x4] 76 #[.int .i64 y1, .int .i64 y2] 25 #[.int .i64 z1, .int .i64 z2] 25 wx) (by kernel_rfl) (by kernel_rfl) (Bx3.drew hst6) ?_
  repeat (go_big_quiet_step (first
    | (go_at_call 78; with_reducible exact held_call Bx3.step (H3.out _))
    | (go_at_call 78; with_reducible exact held_call Bx3.step (H4.out _))))
  refine wpQuiet_nil ?_
  intro wyhst7 hw'
  obtain ⟨⟨wqhst7, hst7⟩, rfl⟩ := hw'
  (try dsimp only)
  clear hst hnehst6 hnehst7 rd0 rd1 rd2 rd3 rp0 rp1 rq0 rq1 H1 H2 H3 H4
  rcases HW.out with ⟨rfl, g1, g2, g3⟩ | ⟨rfl, g1, g2, g3, g4⟩ | ⟨rfl, g1, g2, g3⟩ | ⟨rfl, g1, g2, g3, g4⟩ | ⟨rfl, g1, g2, g3, g4⟩ | ⟨rfl, g1, g2, g3⟩
  all_goals
    go_wp2
    go_ret
    exact ⟨rfl, hst7.2.2.2⟩
set_option maxRecDepth 100000 in
theorem i_rounded (m : Mk) (w : World) :
    Calls Try.prog 57 #[.agg #[.int .i64 m.1.1, .int .i64 m.1.2, .bool m.2]] w fun e w' => e = .returned (.int .i64 (wantW m.2)) ∧ Below w.heap.size w w' := by
  have hs := Lib.hid (Bx1.new w #[.int .i64 m.1.1, .int .i64 m.1.2, .bool m.2] 88)
  obtain ⟨⟨x, y⟩, t⟩ := m
  dsimp only at *
  cases t
  all_goals
    go_enter Try.func57, Try.ntmps57
    go_wp2
    go_ret
    exact ⟨rfl, hs.out.2⟩
set_option maxRecDepth 100000 in
set_option maxHeartbeats 1000000 in
theorem i_org (c : Crs) (A : Option Addr) (g o cap : Nat) (k : Nat) (w : World) (hk : k ≤ c.n) (hn : c.n ≤ 1048576) (hA : 0 < c.n → A = some ⟨g, o, none⟩) (hw : MksIn w g o c.n c.mf) :
    Calls Try.prog 83 #[.agg #[.int .i64 c.st.1.1, .int .i64 c.st.1.2, .int .i64 c.st.2.1, .int .i64 c.st.2.2, .slice A c.n cap, .int .i64 c.fi.1.1, .int .i64 c.fi.1.2, .int .i64 c.fi.2.1, .int .i64 c.fi.2.2], .int .i64 k] w
      fun e w' => e = .returned (.agg #[.int .i64 (orgW c k).1, .int .i64 (orgW c k).2]) ∧ Below w.heap.size w w' := by
  unfold orgW
  obtain ⟨⟨⟨x1, x2⟩, x3, x4⟩, n, f, ⟨t1, t2⟩, t3, t4⟩ := c
  dsimp only at *
  by_cases hk0 : k = 0
  · rw [if_pos hk0]
    subst hk0
    have k0 := ((Bxs.nil (Below.refl w.heap.size w)).add rfl #[.int .i64 x1, .int .i64 x2, .int .i64 x3, .int .i64 x4, .slice A n cap, .int .i64 t1, .int .i64 t2, .int .i64 t3, .int .i64 t4] 36).add (q := w.heap.size + 1) (by simp) #[.int .i64 x1, .int .i64 x2] 25
    have HB := Lib.hid (And.intro (k0.1 _ (.head _)) k0.2)
    clear k0 hw hA
    go_enter Try.func83, Try.ntmps83
    go_wp2
    exact bodyPost_ret (v := .agg #[.int .i64 x1, .int .i64 x2]) (results_cell_row (p := 4) (ty := 25) (by rfl) _ _ (w.heap.size + 1) _ #[.int .i64 x1, .int .i64 x2] (0, 0) _ (by rfl) HB.out.1 Try.underlying25 rfl Try.infoPl4) rfl
      ⟨rfl, HB.out.2⟩
  · rw [if_neg hk0]
    obtain rfl := hA (by omega)
    obtain ⟨⟨⟨y1, y2⟩, y3⟩, hy⟩ : ∃ s, f (k - 1) = s := ⟨_, rfl⟩
    obtain ⟨d0, d1, d2⟩ := hw (k - 1) (by omega)
    have hg := hw.lt (by omega)
    rw [hy] at d0 d1 d2 ⊢
    dsimp only at d0 d1 d2 ⊢
    have k0 := ((Bxs.nil (Below.refl w.heap.size w)).add rfl #[.int .i64 x1, .int .i64 x2, .int .i64 x3, .int .i64 x4, .slice (some ⟨g, o, none⟩) n cap, .int .i64 t1, .int .i64 t2, .int .i64 t3, .int .i64 t4] 36)
    have k1 := k0.add (q := w.heap.size + 1) (by simp) #[.int .i64 y1, .int .i64 y2] 25
    have k2 := k0.add (q := w.heap.size + 1) (by simp) #[.int .i64 0, .int .i64 0] 25
    have d3 := (Below.cell (p := ⟨g, o + (k - 1) * 3, none⟩) k2.2 hg).trans d0
    have d4 := (Below.cell (p := ⟨g, o + (k - 1) * 3 + 1, none⟩) k2.2 hg).trans d1
    have HB := Lib.hid (And.intro (k1.1 _ (.head _)) k1.2)
    have hz : (((k : Int)) == 0) = false := by rw [beq_eq_false_iff_ne]; omega
    have hz2 : ¬ ((k : Int)) = 0 := by omega
    have hidx : (k : Int) - 1 = ((k - 1 : Nat) : Int) := by omega
    have hidx2 : ((k - 1 : Nat) : Int) < (n : Int) := by omega
    have hidx4 : (0 : Int) ≤ ((k - 1 : Nat) : Int) := by omega
    clear k0 k1 k2 hw hA d0 d1 d2
    go_enter Try.func83, Try.ntmps83
    go_wp2
    exact bodyPost_ret (v := .agg #[.int .i64 y1, .int .i64 y2]) (results_cell_row (p := 4) (ty := 25) (by rfl) _ _ (w.heap.size + 1) _ #[.int .i64 y1, .int .i64 y2] (0, 0) _ (by rfl) HB.out.1 Try.underlying25 rfl Try.infoPl4) rfl
      ⟨rfl, HB.out.2⟩
theorem st4r {w : World} {g : Nat} {t : TypeId} {a b c d : Value} (h : w.heap[g]? = some (.cells #[a, b, c, d] t (0, 0))) (x y z u : Value) :
    (w.cell? ⟨g, 0, none⟩ = some a ∧ w.frozen? ⟨g, 0, none⟩ = false) ∧ ((w.setCell ⟨g, 0, none⟩ x).cell? ⟨g, 1, none⟩ = some b ∧ (w.setCell ⟨g, 0, none⟩ x).frozen? ⟨g, 1, none⟩ = false) ∧
    (((w.setCell ⟨g, 0, none⟩ x).setCell ⟨g, 1, none⟩ y).cell? ⟨g, 2, none⟩ = some c ∧ ((w.setCell ⟨g, 0, none⟩ x).setCell ⟨g, 1, none⟩ y).frozen? ⟨g, 2, none⟩ = false) ∧
    ((((w.setCell ⟨g, 0, none⟩ x).setCell ⟨g, 1, none⟩ y).setCell ⟨g, 2, none⟩ z).cell? ⟨g, 3, none⟩ = some d ∧ (((w.setCell ⟨g, 0, none⟩ x).setCell ⟨g, 1, none⟩ y).setCell ⟨g, 2, none⟩ z).frozen? ⟨g, 3, none⟩ = false) ∧
    ((((w.setCell ⟨g, 0, none⟩ x).setCell ⟨g, 1, none⟩ y).setCell ⟨g, 2, none⟩ z).setCell ⟨g, 3, none⟩ u).heap[g]? = some (.cells #[x, y, z, u] t (0, 0)) := by
  have h1 := heap_set_self (k := 0) h x
  have h2 := heap_set_self (k := 1) h1 y
  have h3 := heap_set_self (k := 2) h2 z
  have h4 := heap_set_self (k := 3) h3 u
  exact ⟨⟨(cells4 h).1, frz h⟩, ⟨(cells4 h1).2.1, frz h1⟩, ⟨(cells4 h2).2.2.1, frz h2⟩, ⟨(cells4 h3).2.2.2, frz h3⟩, h4⟩
theorem Try.infoRy : (Try.prog.info? 76).map (·.size) = some 4 := by kernel_rfl
set_option maxRecDepth 100000 in
set_option maxHeartbeats 2000000 in
theorem i_rayOf (c : Crs) (A : Option Addr) (g o cap : Nat) (k : Nat) (w : World) (hk : k < c.n) (hn : c.n ≤ 1048576) (hA : 0 < c.n → A = some ⟨g, o, none⟩) (hw : MksIn w g o c.n c.mf) :
    Calls Try.prog 56 #[.agg #[.int .i64 c.st.1.1, .int .i64 c.st.1.2, .int .i64 c.st.2.1, .int .i64 c.st.2.2, .slice A c.n cap, .int .i64 c.fi.1.1, .int .i64 c.fi.1.2, .int .i64 c.fi.2.1, .int .i64 c.fi.2.2], .int .i64 k] w
      fun e w' => e = .returned (.agg #[.int .i64 (orgW c k).1, .int .i64 (orgW c k).2, .int .i64 (c.mf k).1.1, .int .i64 (c.mf k).1.2]) ∧ Below w.heap.size w w' := by
  obtain rfl := hA (by omega)
  have HO := Lib.hid (fun w (h : MksIn w g o c.n c.mf) => i_org c (some ⟨g, o, none⟩) g o cap k w (by omega) hn (fun _ => rfl) h)
  obtain ⟨⟨⟨y1, y2⟩, y3⟩, hy⟩ : ∃ s, c.mf k = s := ⟨_, rfl⟩
  obtain ⟨⟨o1, o2⟩, ho⟩ : ∃ q, orgW c k = q := ⟨_, rfl⟩
  rw [hy, ho]
  rw [ho] at HO
  dsimp only at HO ⊢
  have HY := Lib.hid hy
  have z1 : (k : Int) < (c.n : Int) := by omega
  have z0 : (0 : Int) ≤ (k : Int) := by omega
  have HK := Lib.hid hk
  have k1 := Lib.hid (((Bxs.nil (Below.refl w.heap.size w)).add rfl #[.int .i64 c.st.1.1, .int .i64 c.st.1.2, .int .i64 c.st.2.1, .int .i64 c.st.2.2, .slice (some ⟨g, o, none⟩) c.n cap, .int .i64 c.fi.1.1, .int .i64 c.fi.1.2, .int .i64 c.fi.2.1, .int .i64 c.fi.2.2] 36).add (q := w.heap.size + 1) (by simp) #[.int .i64 0, .int .i64 0, .int .i64 0, .int .i64 0] 76)
  have hm := Lib.hid (hw.below k1.out.2 (Nat.le_refl _))
  clear hy ho hw hA hk
  go_enter Try.func56, Try.ntmps56
  go_upto_region 1 with fail
  generalize hw3 : (w.alloc _).alloc _ = w3 at *
  clear hw3
  obtain ⟨e0, e1, e2, e3, e4, e5, e6, e7, e8⟩ := cells9 (k1.out.1 _ (.tail _ (.head _)))
  obtain ⟨d0, d1, d2⟩ := hm.out.at HK.out HY.out
  go_region_with ((go_at_call 83; refine (HO.out w3.drew hm.out).mono ?_; rintro e w6 ⟨rfl, b6⟩; have k6 := Lib.hid (k1.out.drew.step b6); have hm6 := Lib.hid (hm.out.below (w := w3.drew) b6 (Nat.le_refl _)); obtain ⟨f0, f1, f2, f3, f4, f5, f6, f7, f8⟩ := cells9 (k6.out.1 _ (.tail _ (.head _))); obtain ⟨j0, j1, j2⟩ := hm6.out.at HK.out HY.out; have ST := Lib.hid (st4r (k6.out.1 _ (.head _)) (.int .i64 o1) (.int .i64 o2) (.int .i64 y1) (.int .i64 y2)); obtain ⟨⟨p0, q0⟩, ⟨p1, q1⟩, ⟨p2, q2⟩, ⟨p3, q3⟩, _⟩ := ST.out; clear b6))
  all_goals (
    go_wp2_with fail
    exact bodyPost_ret (v := .agg #[.int .i64 o1, .int .i64 o2, .int .i64 y1, .int .i64 y2]) (results_cell_row (p := 4) (ty := 76) (by rfl) _ _ (w.heap.size + 1) _ #[.int .i64 o1, .int .i64 o2, .int .i64 y1, .int .i64 y2] (0, 0) _ (by rfl) ST.out.2.2.2.2 Try.underlying76 rfl Try.infoRy) rfl
      ⟨rfl, set_bel (set_bel (set_bel (set_bel k6.out.2 (by omega) _) (by omega) _) (by omega) _) (by omega) _⟩)
end Go.Proofs.Ythahakefmpajfaa
