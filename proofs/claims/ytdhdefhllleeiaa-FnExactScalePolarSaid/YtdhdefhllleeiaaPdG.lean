/- The drawing of polars: l04Angle, DrawSpeedAt, DrawMadeUp. -/
import Derived.Test.YtdhdefhllleeiaaPdF
namespace Go.Proofs.Ytdhdefhllleeiaa
open Go.RowKit Ieee
set_option linter.unusedSimpArgs false
set_option linter.unusedVariables false

set_option maxRecDepth 100000 in
set_option maxHeartbeats 4000000 in
theorem d_angle (w : World) (C g len cap B n na m : Nat) (A : Option Addr) (vW vA vS : Value) (hc : Cur w C g A len cap) (hp : PolT B w vW vA vS n na m) (hB : g < B) (hBs : B ≤ w.heap.size) :
    Calls Try.prog 86 #[.pointer (some ⟨g, 0, none⟩), .agg #[vW, vA, vS]] w fun e w' => ∃ x : Int, (-9223372036854775808 ≤ x ∧ x ≤ 9223372036854775807) ∧ e = .returned (.int .i64 x) ∧ Cur w' C g A len cap ∧ w.grownBy w' (some g) := by
  obtain ⟨AW, cW, rfl, _⟩ := hp.2.1
  obtain ⟨AA, cA, rfl, _⟩ := hp.2.2.1
  obtain ⟨AS, cS, rfl, _⟩ := hp.2.2.2
  have hgl := hc.lt
  have hn := hp.1.2.1
  have g0 := World.grownBy_alloc w (.cells #[.slice AW n cW, .slice AA na cA, .slice AS m cS] 28) (some g)
  have cu0 := hc.alloc (.cells #[.slice AW n cW, .slice AA na cA, .slice AS m cS] 28)
  have HP := Lib.hid (hp.same (fun k _ hk => (Below.heap_alloc w (.cells #[.slice AW n cW, .slice AA na cA, .slice AS m cS] 28) k hk)))
  have hbx := heap_alloc_new w (.cells #[.slice AW n cW, .slice AA na cA, .slice AS m cS] 28)
  have hs1 : (w.alloc (.cells #[.slice AW n cW, .slice AA na cA, .slice AS m cS] 28)).heap.size = w.heap.size + 1 := by simp
  have HBX := Lib.hid hbx
  have k0 := cell_of_row _ _ 1 _ _ _ hbx
  clear hp hbx
  go_enter Try.func86, Try.ntmps86
  go_upto_region 1 with fail
  go_cut [12] (fun s12 wx => ∃ t : Bool, s12 = .bool t ∧ (t = true → 0 < na) ∧ Cur wx C g A len cap ∧ w.grownBy wx (some g) ∧ wx.heap[w.heap.size]? = some (.cells #[.slice AW n cW, .slice AA na cA, .slice AS m cS] 28 (0, 0)) ∧ PolT B wx (.slice AW n cW) (.slice AA na cA) (.slice AS m cS) n na m)
  case first =>
    by_cases h0 : na = 0
    · subst h0
      go_wp2_with fail
      go_meet
      exact ⟨false, rfl, ⟨fun h => (by cases h), cu0, g0, HBX.out, HP.out⟩⟩
    · have hn0 : (0 : Int) < (na : Int) := by omega
      go_wp2_with fail
      refine (d_once 3 _ C g len cap A cu0 (by omega)).mono ?_
      rintro e w2 ⟨t, rfl, cu1, gr⟩
      have HN := Lib.hid (And.intro (grown_trans g0 gr) (And.intro (box_far HBX.out gr (fun e => by cases e; omega)) (HP.out.same (grown_hi gr (fun k e => by cases e; omega)))))
      clear k0 gr
      go_wp2_with fail
      go_meet
      exact ⟨t, rfl, ⟨fun _ => by omega, cu1, HN.out⟩⟩
  case rest =>
  clear k0 cu0 g0 HP HBX
  obtain ⟨t, rfl, ht, cu1, gr1, hb, hp⟩ := hcut
  have HB1 := Lib.hid hb
  have HP1 := Lib.hid hp
  have HT := Lib.hid ht
  clear hb hp ht
  cases t
  · clear HB1 HP1 HT
    go_wp2_with fail
    refine (d_once 20 _ C g len cap A cu1 (by omega)).mono ?_
    rintro e w2 ⟨t, rfl, cu2, gr2⟩
    have gr3 := grown_trans gr1 gr2
    clear gr1 gr2 cu1
    cases t
    · go_wp2_with fail
      refine (d_below 182 _ C g len cap A cu2 (by omega)).mono ?_
      rintro e w5 ⟨v, v0, v1, v2, rfl, cu5, gr5⟩
      have v3 := v1 (by omega)
      clear v1 v2
      go_wp2
      go_ret
      exact ⟨v, by omega, rfl, cu5, grown_trans gr3 gr5⟩
    · go_wp2_with fail
      refine (d_number _ C g len cap A cu2).mono ?_
      rintro e w5 ⟨v, v0, v1, rfl, cu5, gr5⟩
      go_wp2
      go_ret
      exact ⟨_, wrap64_bd _, rfl, cu5, grown_trans gr3 gr5⟩
  · have hna := HT.out rfl
    go_upto_region 2 with fail
    obtain ⟨gA, oA, _, rfl, _⟩ := tl_at HP1.out.2.2.1 (j := 0) hna
    have k0 := cell_of_row wc _ 1 _ _ _ HB1.out
    have cd := (cur_drew cu1 gr1).1
    go_region_with ((go_at_call 52; refine (d_below na _ C g len cap A cd (by omega)).mono ?_; rintro e w3 ⟨i, i0, i1, i2, rfl, cu, gr⟩; obtain ⟨i, rfl⟩ : ∃ k : Nat, i = k := ⟨i.toNat, by omega⟩; have i3 : i < na := (by have := i1 (by omega); omega); have i4 : (i : Int) < (na : Int) := (by omega); have k3 := cell_of_row w3 _ 1 _ _ _ (box_far (w1 := wc.drew) HB1.out gr (fun e => by cases e; omega)); have h3 := HP1.out.same (grown_hi (w := wc.drew) gr (fun k e => by cases e; omega)); obtain ⟨_, _, _, e5, _, z1, y, y1, rfl⟩ := tl_at h3.2.2.1 (j := i) i3; cases e5; clear i1 i2 h3))
    all_goals (go_wp2; go_ret; exact ⟨y, y1, rfl, cu, grown_trans gr1 (grown_trans (grown_drewN wc 1 _) gr)⟩)
/-- A polar stored into a result's block: what the walk wants of the three stores, and what stands behind them. -/
theorem store3 {w w6 : World} {B n na m cW cA cS : Nat} {AW AA AS : Option Addr} {z0 z1 z2 : Value} (r : w6.heap[w.heap.size]? = some (.cells #[z0, z1, z2] 28 (0, 0))) (pt : PolT B w6 (.slice AW n cW) (.slice AA na cA) (.slice AS m cS) n na m) (hB : w.heap.size < B) (b : Below w.heap.size w w6) :
    (∃ y0 y1 y2, (w6.cell? ⟨w.heap.size, 0, none⟩ = some y0 ∧ w6.frozen? ⟨w.heap.size, 0, none⟩ = false) ∧
      ((w6.setCell ⟨w.heap.size, 0, none⟩ (.slice AW n cW)).cell? ⟨w.heap.size, 1, none⟩ = some y1 ∧ (w6.setCell ⟨w.heap.size, 0, none⟩ (.slice AW n cW)).frozen? ⟨w.heap.size, 1, none⟩ = false) ∧
      (((w6.setCell ⟨w.heap.size, 0, none⟩ (.slice AW n cW)).setCell ⟨w.heap.size, 1, none⟩ (.slice AA na cA)).cell? ⟨w.heap.size, 2, none⟩ = some y2 ∧ ((w6.setCell ⟨w.heap.size, 0, none⟩ (.slice AW n cW)).setCell ⟨w.heap.size, 1, none⟩ (.slice AA na cA)).frozen? ⟨w.heap.size, 2, none⟩ = false)) ∧
    (((w6.setCell ⟨w.heap.size, 0, none⟩ (.slice AW n cW)).setCell ⟨w.heap.size, 1, none⟩ (.slice AA na cA)).setCell ⟨w.heap.size, 2, none⟩ (.slice AS m cS)).heap[w.heap.size]? = some (.cells #[.slice AW n cW, .slice AA na cA, .slice AS m cS] 28 (0, 0)) ∧
    PolT B (((w6.setCell ⟨w.heap.size, 0, none⟩ (.slice AW n cW)).setCell ⟨w.heap.size, 1, none⟩ (.slice AA na cA)).setCell ⟨w.heap.size, 2, none⟩ (.slice AS m cS)) (.slice AW n cW) (.slice AA na cA) (.slice AS m cS) n na m ∧
    Below w.heap.size w (((w6.setCell ⟨w.heap.size, 0, none⟩ (.slice AW n cW)).setCell ⟨w.heap.size, 1, none⟩ (.slice AA na cA)).setCell ⟨w.heap.size, 2, none⟩ (.slice AS m cS)) := by
  obtain ⟨_, x0, y0⟩ := cell_at r (k := 0) rfl (by simp)
  have q1 := heap_set_self (k := 0) r (.slice AW n cW)
  obtain ⟨_, x1, y1⟩ := cell_at q1 (k := 1) rfl (by simp)
  have q2 := heap_set_self (k := 1) q1 (.slice AA na cA)
  obtain ⟨_, x2, y2⟩ := cell_at q2 (k := 2) rfl (by simp)
  have q3 := heap_set_self (k := 2) q2 (.slice AS m cS)
  have g1 := grown_set w6 w.heap.size 0 (.slice AW n cW)
  have g2 := grown_set (w6.setCell ⟨w.heap.size, 0, none⟩ (.slice AW n cW)) w.heap.size 1 (.slice AA na cA)
  have g3 := grown_set ((w6.setCell ⟨w.heap.size, 0, none⟩ (.slice AW n cW)).setCell ⟨w.heap.size, 1, none⟩ (.slice AA na cA)) w.heap.size 2 (.slice AS m cS)
  have g13 := grown_trans (grown_trans g1 g2) g3
  exact ⟨⟨_, _, _, ⟨x0, y0⟩, ⟨x1, y1⟩, x2, y2⟩, q3, pt.same (grown_hi g13 (fun j e => by cases e; omega)), below_cur b (Nat.le_refl _) g13 (Nat.le_refl _)⟩
set_option maxRecDepth 100000 in
set_option maxHeartbeats 4000000 in
theorem d_speedAt (w : World) (len cap : Nat) (A : Option Addr) (hcode : Code w w.heap.size A len) :
    Calls Try.prog 43 #[.slice A len cap] w fun e w' => ∃ (vW vA vS : Value) (n na m x : Nat) (a : Int), e = .returned (.tuple #[.agg #[vW, vA, vS], .float .f32 x, .int .i64 a]) ∧ PolT (w.heap.size + 1) w' vW vA vS n na m ∧ x < 4294967296 ∧ (-9223372036854775808 ≤ a ∧ a ≤ 9223372036854775807) ∧ Below w.heap.size w w' := by
  have b0 : Below w.heap.size w (w.alloc (.cells #[.slice none 0 0, .slice none 0 0, .slice none 0 0] 28)) := (Below.refl _ w).alloc (Nat.le_refl _) _
  have s1 : (w.alloc (.cells #[.slice none 0 0, .slice none 0 0, .slice none 0 0] 28)).heap.size = w.heap.size + 1 := by simp
  have hc1 := hcode.step b0 (Nat.le_succ _)
  have hr0 := heap_alloc_new w (.cells #[.slice none 0 0, .slice none 0 0, .slice none 0 0] 28)
  go_enter Try.func43, Try.ntmps43
  go_wp2_with fail
  refine (d_new _ (w.heap.size + 1) len cap A (by rw [s1]; exact Nat.le_refl _) hc1).mono ?_
  rintro e w2 ⟨g, rfl, cu, b2⟩
  have b02 := b0.trans (b2.mono (Nat.le_succ _))
  have r2 := (b2.block w.heap.size (by omega)).trans hr0
  have hs2 := b2.size
  rw [s1] at hs2
  have hg2 := cu.lt
  clear hc1 b0 hr0 b2
  go_wp2_with fail
  refine (d_any _ _ g len cap A cu).mono ?_
  rintro e w3 ⟨vW, vA, vS, n', na', m', rfl, pt, cu3, gr⟩
  have hg0 := cu.1
  have b03 := below_cur b02 (Nat.le_refl _) gr (by omega)
  have r3 := (gr.block w.heap.size (by omega) (fun e => by cases e; omega)).trans r2
  have hs3 := gr.size
  obtain ⟨AW, cW', rfl, _⟩ := pt.2.1
  obtain ⟨AA, cA', rfl, _⟩ := pt.2.2.1
  obtain ⟨AS, cS', rfl, _⟩ := pt.2.2.2
  have b04 := b03.alloc b03.size (.cells #[.slice AW n' cW', .slice AA na' cA', .slice AS m' cS'] 28)
  have r4 := (Below.heap_alloc w3 (.cells #[.slice AW n' cW', .slice AA na' cA', .slice AS m' cS'] 28) w.heap.size (by omega)).trans r3
  have PT4 := Lib.hid (pt.same (fun k _ hk => Below.heap_alloc w3 (.cells #[.slice AW n' cW', .slice AA na' cA', .slice AS m' cS'] 28) k hk))
  have bx4 := heap_alloc_new w3 (.cells #[.slice AW n' cW', .slice AA na' cA', .slice AS m' cS'] 28)
  have cu4 := cu3.alloc (.cells #[.slice AW n' cW', .slice AA na' cA', .slice AS m' cS'] 28)
  have hs4 : (w3.alloc (.cells #[.slice AW n' cW', .slice AA na' cA', .slice AS m' cS'] 28)).heap.size = w3.heap.size + 1 := by simp
  have R4 := Lib.hid r4
  have B4 := Lib.hid b04
  have BX4 := Lib.hid bx4
  clear pt cu3 cu gr r2 r3 r4 b02 b03 b04 bx4
  go_wp2_with fail
  refine (d_near _ _ g len cap w2.heap.size n' na' m' A _ _ _ cu4 PT4.out hg2 (by omega)).mono ?_
  rintro e w5 ⟨x, xl, rfl, cu5, gr5⟩
  have bx5 := box_far BX4.out gr5 (fun e => by cases e; omega)
  have PT5 := Lib.hid (PT4.out.same (grown_hi gr5 (fun k e => by cases e; omega)))
  have R5 := Lib.hid (box_far R4.out gr5 (fun e => by cases e; omega))
  have B5 := Lib.hid (below_cur B4.out (Nat.le_refl _) gr5 (by omega))
  have hs5 := gr5.size
  have BX5 := Lib.hid bx5
  have k0 := cell_of_row w5 _ 0 _ _ _ bx5
  have k1 := cell_of_row w5 _ 1 _ _ _ bx5
  have k2 := cell_of_row w5 _ 2 _ _ _ bx5
  have cd := cu5.grown_far (grown_drewN w5 1 none) (by simp) (fun k e => by cases e)
  clear bx5 PT4 R4 B4 BX4 cu4 gr5 cu5
  go_upto_region 4 with fail
  go_region_with ((go_at_call 86; refine (d_angle _ _ g len cap w2.heap.size n' na' m' A _ _ _ cd (PT5.out.same (fun _ _ _ => rfl)) hg2 (show w2.heap.size ≤ w5.heap.size by omega)).mono ?_; rintro e w6 ⟨a, ha, rfl, cu6, gr6⟩; have bx6 := box_far (w1 := w5.drew) BX5.out gr6 (fun e => by cases e; omega); have l0 := cell_of_row w6 _ 0 _ _ _ bx6; have l1 := cell_of_row w6 _ 1 _ _ _ bx6; have l2 := cell_of_row w6 _ 2 _ _ _ bx6; have S3 := Lib.hid (store3 (w := w) (box_far (w1 := w5.drew) R5.out gr6 (fun e => by cases e; omega)) (PT5.out.same (grown_hi (w := w5.drew) gr6 (fun k e => by cases e; omega))) (by omega) (below_cur (w1 := w5.drew) (below_drewN B5.out 1) (Nat.le_refl _) gr6 (by omega))); obtain ⟨_, _, _, ⟨x0, y0⟩, ⟨x1, y1⟩, x2, y2⟩ := S3.out.1; clear bx6))
  all_goals (
    go_wp2_with fail
    refine bodyPost_ret (res_cell_tmp2 (fn := Try.f43) (p := 2) (u := 3) (v := 4) (ty := 28) rfl _ _ w.heap.size _ #[.slice AW n' cW', .slice AA na' cA', .slice AS m' cS'] (0, 0) _ rfl S3.out.2.1 Try.underlying28 rfl Try.infoP) rfl ?_
    exact ⟨_, _, _, n', na', m', x, a, rfl, S3.out.2.2.1.low (by omega), xl, ha, S3.out.2.2.2⟩)
end Go.Proofs.Ytdhdefhllleeiaa
