/- The drawing of tides: l05Any. -/
import Derived.Test.YtonfenekjocopaaTdE
import Derived.Deep.LoopGhost
namespace Go.Proofs.Ytonfenekjocopaa
open Go.RowKit Ieee
set_option linter.unusedSimpArgs false
set_option linter.unusedVariables false
attribute [local go_sem] st_cplx

theorem below_grown {w w1 : World} (h : Below w.heap.size w w1) : w.grownBy w1 none := ⟨h.os, h.tape, h.output, h.size, fun j hj _ => h.block j hj⟩
/-- A store into the stations. -/
theorem DSt.setS {w w1 : World} {C g : Nat} {A : Option Addr} {len cap T gp ns nh gS c : Nat} {vS vH x : Value} (h : DSt w C g A len cap T gp ns nh w1) (hb : w1.heap[gp]? = some (.cells #[vS, vH] 41 (0, 0))) (hg : vS.ownBlock = some gS) (hx : CellAt (c % 14) x) :
    DSt w C g A len cap T gp ns nh (w1.setCell ⟨gS, c, none⟩ x) := by
  obtain ⟨g1, g2, g3, g4, vS', vH', p1, p2, p3, p4, p5, p6, p7, p8⟩ := h
  obtain ⟨rfl, rfl⟩ := tide_same hb p1
  have hC : C ≤ g := g2.1
  have hl := p5.lt hg
  have k := grown_set w1 gS c x
  obtain ⟨cs, hcs⟩ := p5.block hg
  refine ⟨gr_new g1 k fun j e => .inr (by cases e; omega), g2.grown_far k (fun e => by cases e; omega) (fun j e => by cases e; omega), g3, box_far g4 k (fun e => by cases e; omega), _, _, box_far p1 k (fun e => by cases e; exact p5.ne p1 (by decide) hg), p2, p3, by rw [heap_set_size]; exact p4, p5.set hg hx, p6.kept k fun j e => ?_, p7, p8⟩
  cases e; exact p6.ne hcs (by decide)
/-- A store into the times. -/
theorem DSt.setH {w w1 : World} {C g : Nat} {A : Option Addr} {len cap T gp ns nh gH c : Nat} {vS vH x : Value} (h : DSt w C g A len cap T gp ns nh w1) (hb : w1.heap[gp]? = some (.cells #[vS, vH] 41 (0, 0))) (hg : vH.ownBlock = some gH) (hx : IsNat (c % 1) x) :
    DSt w C g A len cap T gp ns nh (w1.setCell ⟨gH, c, none⟩ x) := by
  obtain ⟨g1, g2, g3, g4, vS', vH', p1, p2, p3, p4, p5, p6, p7, p8⟩ := h
  obtain ⟨rfl, rfl⟩ := tide_same hb p1
  have hC : C ≤ g := g2.1
  have hl := p6.lt hg
  have k := grown_set w1 gH c x
  obtain ⟨cs, hcs⟩ := p6.block hg
  refine ⟨gr_new g1 k fun j e => .inr (by cases e; omega), g2.grown_far k (fun e => by cases e; omega) (fun j e => by cases e; omega), g3, box_far g4 k (fun e => by cases e; omega), _, _, box_far p1 k (fun e => by cases e; exact p6.ne p1 (by decide) hg), p2, p3, by rw [heap_set_size]; exact p4, p5.kept k fun j e => ?_, p6.set hg hx, p7, p8⟩
  cases e; exact p5.ne hcs (by decide)
/-- The world that l05Any begins its choice with. -/
theorem DSt.any {w w1 : World} {C g : Nat} {A : Option Addr} {len cap ns nh : Nat} {vS vH : Value} (hg : g < w.heap.size) (hS : OwnS w1 (w.heap.size + 1) vS ns) (hH : OwnH w1 (w.heap.size + 1) vH nh) (hc : Cur w1 C g A len cap)
    (hgr : (w.alloc (.cells #[.slice none 0 0, .slice none 0 0] 41)).grownBy w1 (some g)) : DSt w C g A len cap (w1.heap.size + 1) w1.heap.size ns nh (w1.alloc (.cells #[vS, vH] 41)) := by
  have hs : w.heap.size + 1 ≤ w1.heap.size := by
    have := hgr.size
    simpa using this
  have ga := World.grownBy_alloc w1 (.cells #[vS, vH] 41) none
  refine ⟨grown_trans (gr_alloc hgr) (World.grownBy_alloc _ _ _), hc.alloc _, hg, ?_, vS, vH, heap_alloc_new _ _, by omega, by omega, by simp, hS.kept ga (fun k e => by cases e), hH.kept ga (fun k e => by cases e), fun k e => Nat.lt_succ_of_lt (hS.lt e).2, fun k e => Nat.lt_succ_of_lt (hH.lt e).2⟩
  rw [Below.heap_alloc _ _ _ (by omega)]
  exact (hgr.block _ (by simp) (fun e => by cases e; omega)).trans (heap_alloc_new w _)
theorem wrap_lt {n' : Nat} {x : Int} (h0 : 0 ≤ x) (h1 : x < 2) (h : decide ((n' : Int) < IntKind.i64.wrap (20 + x)) = true) : n' < 21 := by
  rw [IntWalk.i64_in _ (by omega)] at h
  have := of_decide_eq_true h
  omega
theorem byte_code {w : World} {x : Int} (h0 : 0 ≤ x) (h1 : x < 256) : Code (w.alloc (.cells #[.int .u8 x] 5)) (w.alloc (.cells #[.int .u8 x] 5)).heap.size (some ⟨w.heap.size, 0, none⟩) 1 :=
  ⟨by omega, fun _ => ⟨w.heap.size, 0, rfl, by simp, fun j hj => ⟨x, h0, h1, by
    obtain rfl : j = 0 := by omega
    rw [cell_of_row _ _ (0 + 0) _ _ _ (heap_alloc_new w _)]; rfl⟩⟩⟩
theorem range14 {w : World} {g : Nat} {a0 a1 a2 a3 a4 a5 a6 a7 a8 a9 a10 a11 a12 a13 : Value} (h : w.rangeAt g (0 * 14) (#[a0, a1, a2, a3, a4, a5, a6, a7, a8, a9, a10, a11, a12, a13] : Array Value).toList) :
    w.cell? ⟨g, 0, none⟩ = some a0 ∧ w.cell? ⟨g, 1, none⟩ = some a1 ∧ w.cell? ⟨g, 2, none⟩ = some a2 ∧ w.cell? ⟨g, 3, none⟩ = some a3 ∧ w.cell? ⟨g, 4, none⟩ = some a4 ∧ w.cell? ⟨g, 5, none⟩ = some a5 ∧ w.cell? ⟨g, 6, none⟩ = some a6 ∧ w.cell? ⟨g, 7, none⟩ = some a7 ∧ w.cell? ⟨g, 8, none⟩ = some a8 ∧ w.cell? ⟨g, 9, none⟩ = some a9 ∧ w.cell? ⟨g, 10, none⟩ = some a10 ∧ w.cell? ⟨g, 11, none⟩ = some a11 ∧ w.cell? ⟨g, 12, none⟩ = some a12 ∧ w.cell? ⟨g, 13, none⟩ = some a13 :=
  ⟨h 0 _ rfl, h 1 _ rfl, h 2 _ rfl, h 3 _ rfl, h 4 _ rfl, h 5 _ rfl, h 6 _ rfl, h 7 _ rfl, h 8 _ rfl, h 9 _ rfl, h 10 _ rfl, h 11 _ rfl, h 12 _ rfl, h 13 _ rfl⟩
/-- What stands where l05Any comes to its end. -/
def AEnd (w : World) (C g : Nat) (A : Option Addr) (len cap gp : Nat) (wx : World) : Prop := ∃ T ns nh, ns ≤ 1000 ∧ nh ≤ 1000 ∧ DSt w C g A len cap T gp ns nh wx
set_option maxRecDepth 100000 in
set_option maxHeartbeats 8000000 in
theorem d_any (w : World) (C g len cap : Nat) (A : Option Addr) (hc : Cur w C g A len cap) :
    Calls Try.prog 50 #[.pointer (some ⟨g, 0, none⟩)] w fun e w' => ∃ (vS vH : Value) (ns nh : Nat), e = .returned (.agg #[vS, vH]) ∧ ns ≤ 1000 ∧ nh ≤ 1000 ∧ OwnS w' w.heap.size vS ns ∧ OwnH w' w.heap.size vH nh ∧ Cur w' C g A len cap ∧ w.grownBy w' (some g) := by
  obtain ⟨iS, hiS, zS0, zS1, zS2⟩ := info_parts Try.infoStZ
  obtain ⟨iI, hiI, zI0, zI1, zI2⟩ := info_parts Try.infoInt
  have hgl := hc.lt
  go_enter Try.func50, Try.ntmps50
  go_wp2_with fail
  refine (d_tide _ C g len cap A (hc.alloc _)).mono ?_
  rintro e w1 ⟨vS, vH, ns, nh, rfl, n1, n2, m1, m2, oS, oH, cu, gr⟩
  have hsz : (w.alloc (.cells #[.slice none 0 0, .slice none 0 0] 41)).heap.size = w.heap.size + 1 := by simp
  rw [hsz] at oS oH
  have HD0 := Lib.hid (DSt.any hgl oS oH cu gr)
  obtain ⟨gS, cS, csS, rfl, _, _, hbS, hS1, hS2, hS3⟩ := oS.form (by omega)
  obtain ⟨gH, cH, csH, rfl, _, _, hbH, hH1, hH2, hH3⟩ := oH.form (by omega)
  clear oS oH cu gr hbS hS1 hS2 hS3 hbH hH1 hH2 hH3
  have n0 : 0 < ns := by omega
  have m0 : 0 < nh := by omega
  go_wp2_with fail
  refine (d_below ns _ C g len cap A HD0.out.cur (by omega)).mono ?_
  rintro e w2 ⟨i, i0, i1, i2, rfl, cu, gr⟩
  have i3 := i1 (by omega)
  have HD1 := Lib.hid (HD0.out.draw cu gr)
  have hb0 : (w1.alloc (.cells #[.slice (some ⟨gS, 0, none⟩) ns cS, .slice (some ⟨gH, 0, none⟩) nh cH] 41)).heap[w1.heap.size]? = some (.cells #[.slice (some ⟨gS, 0, none⟩) ns cS, .slice (some ⟨gH, 0, none⟩) nh cH] 41 (0, 0)) := heap_alloc_new _ _
  have hgw : g < w1.heap.size := by have := HD0.out.top; omega
  have hb1 := box_far hb0 gr (fun e => by cases e; omega)
  clear i1 i2 cu gr HD0 hb0
  obtain ⟨i, rfl⟩ : ∃ k : Nat, i = k := ⟨i.toNat, by omega⟩
  go_wp2_with fail
  refine (d_below 24 _ C g len cap A HD1.out.cur (by omega)).mono ?_
  rintro e w4 ⟨c, c0, c1, c2, rfl, cu, gr⟩
  have HD3 := Lib.hid (HD1.out.draw cu gr)
  have hb3 := box_far hb1 gr (fun e => by cases e; omega)
  clear c1 c2 cu gr HD1 hb1
  generalize hgp : w1.heap.size = gp at *
  clear hgp
  obtain ⟨vS', vH', hb', p1, p2, p3, p4, p5, p6, p7⟩ := HD3.out.open
  obtain ⟨rfl, rfl⟩ := tide_same hb3 hb'
  clear hb'
  obtain ⟨gS', _, csS, e1, _, hcS, hBS, hS1, hS2, hS3⟩ := p4.form n0
  cases e1
  obtain ⟨gH', _, csH, e1, _, hcH, hBH, hH1, hH2, hH3⟩ := p5.form m0
  cases e1
  have HB := Lib.hid hb3
  have HS := Lib.hid (And.intro hS1 hS3)
  have HH := Lib.hid (And.intro hH1 hH3)
  have k0 := cell_of_row w4 _ 0 _ _ _ hb3
  have k1 := cell_of_row w4 _ 1 _ _ _ hb3
  have hcs14 : ns ≤ cS := by assumption
  have hch1 : nh ≤ cH := by assumption
  clear hb3 p4 p5 p6 p7 hS1 hS3 hH1 hH3
  have hi1 : (i : Int) < (ns : Int) := by omega
  go_upto_block 0 with fail
  go_cut [] (fun wx => AEnd w C g A len cap gp wx)
  case first =>
    by_cases e0 : c = 0
    · subst e0
      go_upto_region 5 with fail
      have HDd := Lib.hid (HD3.out.drew)
      go_region_with (first
        | (go_at_call 80; refine (d_byte _ C g len cap A HDd.out.cur).mono ?_; rintro e w5 ⟨x, x0, x1, rfl, cu, gr⟩; have hb5 := box_far (w1 := w4.drew) HB.out gr (fun e => by cases e; omega); have k5 := cell_of_row w5 _ 0 _ _ _ hb5; have HD5 := Lib.hid (HDd.out.draw cu gr); have hs5 := box_far (w1 := w4.drew) HS.out.1 gr (fun e => by cases e; omega); have k5a := (World.cell?_alloc_lt w5 (.cells #[.int .u8 x] 5) ⟨gp, 0, none⟩ (World.block_lt_of_cell? w5 _ k5)).trans k5; have hw8 : IntKind.u8.wrap x = x := IntWalk.u8_in _ (by omega); clear cu gr)
        | (go_at_call 82; refine (d_vecok _ 1 1 _ (byte_code (w := w5) x0 x1)).mono ?_; rintro e w6 ⟨a, b, al, bl, rfl, b6⟩; have HD6 := Lib.hid ((HD5.out.alloc _).step (below_grown b6) (fun j e => by cases e)); have hb6 := box_far hb5 (gr_alloc (below_grown b6)) (fun e => by cases e); have k6 := cell_of_row w6 _ 0 _ _ _ hb6; have hs6 := box_far hs5 (gr_alloc (below_grown b6)) (fun e => by cases e); obtain ⟨_, x6, f6⟩ := cell_at hs6 hS2 (show i * 14 < cS * 14 by omega)))
      all_goals (go_wp2_with fail; go_meet; exact ⟨_, _, _, by omega, by omega, HD6.out.setS hb6 rfl (by rw [Nat.mul_mod_left]; exact ⟨fun _ => ⟨a, b, ⟨al, bl⟩, rfl⟩, fun e => absurd rfl e⟩)⟩)
    by_cases e1 : c = 1
    · subst e1
      go_upto_region 7 with fail
      have HDd := Lib.hid (HD3.out.drew)
      go_region_with (first
        | (go_at_call 46; refine (d_below 13 _ C g len cap A HDd.out.cur (by omega)).mono ?_; rintro e w5 ⟨j, j0, j1, j2, rfl, cu, gr⟩; have j3 := j1 (by omega); obtain ⟨j, rfl⟩ : ∃ k : Nat, j = k := ⟨j.toNat, by omega⟩; have hb5 := box_far (w1 := w4.drew) HB.out gr (fun e => by cases e; omega); have k5 := cell_of_row w5 _ 0 _ _ _ hb5; have HD5 := Lib.hid (HDd.out.draw cu gr); have hs5 := box_far (w1 := w4.drew) HS.out.1 gr (fun e => by cases e; omega); clear cu gr j1 j2)
        | (go_at_call 74; refine (d_air _ C g len cap A HD5.out.cur).mono ?_; rintro e w6 ⟨a, b, al, bl, rfl, cu, gr⟩; have HD6 := Lib.hid (HD5.out.draw cu gr); have hb6 := box_far hb5 gr (fun e => by cases e; omega); have k6 := cell_of_row w6 _ 0 _ _ _ hb6; have hs6 := box_far hs5 gr (fun e => by cases e; omega); obtain ⟨_, x6, f6⟩ := cell_at hs6 hS2 (show i * 14 + 1 + j < cS * 14 by omega); clear cu gr))
      all_goals (go_wp2_with fail; go_meet; exact ⟨_, _, _, by omega, by omega, HD6.out.setS hb6 rfl (by rw [show (i * 14 + 1 + j) % 14 = 1 + j by omega]; exact ⟨fun e => by omega, fun _ => ⟨a, b, ⟨al, bl⟩, rfl⟩⟩)⟩)
    by_cases e2 : c = 2
    · subst e2
      go_upto_region 9 with fail
      have HDd := Lib.hid (HD3.out.drew)
      go_region_with (first
        | (go_at_call 46; refine (d_below nh _ C g len cap A HDd.out.cur (by omega)).mono ?_; rintro e w5 ⟨j, j0, j1, j2, rfl, cu, gr⟩; have j3 := j1 (by omega); obtain ⟨j, rfl⟩ : ∃ k : Nat, j = k := ⟨j.toNat, by omega⟩; have hb5 := box_far (w1 := w4.drew) HB.out gr (fun e => by cases e; omega); have k5 := cell_of_row w5 _ 1 _ _ _ hb5; have HD5 := Lib.hid (HDd.out.draw cu gr); have hh5 := box_far (w1 := w4.drew) HH.out.1 gr (fun e => by cases e; omega); have j4 : (j : Int) < (nh : Int) := (by omega); clear cu gr j1 j2)
        | (go_at_call 83; refine (d_number _ C g len cap A HD5.out.cur).mono ?_; rintro e w6 ⟨a, al, bl, rfl, cu, gr⟩; have HD6 := Lib.hid (HD5.out.draw cu gr); have hb6 := box_far hb5 gr (fun e => by cases e; omega); have k6 := cell_of_row w6 _ 1 _ _ _ hb6; have hh6 := box_far hh5 gr (fun e => by cases e; omega); obtain ⟨_, x6, f6⟩ := cell_at hh6 hH2 (show j < cH * 1 by omega); clear cu gr))
      all_goals (go_wp2_with fail; go_meet; exact ⟨_, _, _, by omega, by omega, HD6.out.setH hb6 rfl ⟨a, ⟨al, bl⟩, rfl⟩⟩)
    by_cases e3 : c = 3
    · subst e3
      obtain ⟨vS', vH', hb', p1', p2', p3', p4, p5, p6, p7⟩ := HD3.out.open
      obtain ⟨rfl, rfl⟩ := tide_same HB.out hb'
      obtain ⟨_, x5, f5⟩ := cell_at (box_far HB.out (World.grownBy_alloc w4 (.cells #[] 3) none) (fun e => by cases e)) (k := 1) rfl (by simp)
      have hO : OwnH (w4.alloc (.cells #[] 3)) (w.heap.size + 1) (.slice (some ⟨w4.heap.size, 0, none⟩) 0 0) 0 := ⟨[], (fun c x hx => by simp at hx), by simp, .inr ⟨_, 0, #[], rfl, by omega, heap_alloc_new w4 _, Nat.le_refl _, by simp [maxLen], by simp, by simp⟩⟩
      have ga := World.grownBy_alloc w4 (.cells #[] 3) none
      have HE := Lib.hid (HD3.out.store (i := 1) HB.out ga (fun j e => by cases e) (p4.kept ga (fun k e => by cases e)) hO rfl)
      clear hb' p4 p5 p6 p7 hO
      go_wp2_with fail
      go_meet
      exact ⟨_, _, _, by omega, by omega, HE.out⟩
    by_cases e4 : c = 4
    · subst e4
      obtain ⟨vS', vH', hb', p1', p2', p3', p4, p5, p6, p7⟩ := HD3.out.open
      obtain ⟨rfl, rfl⟩ := tide_same HB.out hb'
      obtain ⟨_, x5, f5⟩ := cell_at (box_far HB.out (World.grownBy_alloc w4 (.cells #[] 110) none) (fun e => by cases e)) (k := 0) rfl (by simp)
      have hO : OwnS (w4.alloc (.cells #[] 110)) (w.heap.size + 1) (.slice (some ⟨w4.heap.size, 0, none⟩) 0 0) 0 := ⟨[], (fun c x hx => by simp at hx), by simp, .inr ⟨_, 0, #[], rfl, by omega, heap_alloc_new w4 _, Nat.le_refl _, by simp [maxLen], by simp, by simp⟩⟩
      have ga := World.grownBy_alloc w4 (.cells #[] 110) none
      have HE := Lib.hid (HD3.out.store (i := 0) HB.out ga (fun j e => by cases e) hO (p5.kept ga (fun k e => by cases e)) rfl)
      clear hb' p4 p5 p6 p7 hO
      go_wp2_with fail
      go_meet
      exact ⟨_, _, _, by omega, by omega, HE.out⟩
    by_cases e5 : c = 5
    · subst e5
      clear k0 k1 HB HS HH
      go_wp2_with fail
      go_loopg [] (24 - ns) (fun gk wr => ∃ n' T, 1 ≤ n' ∧ n' ≤ 21 ∧ gk = 24 - n' ∧ DSt w C g A len cap T gp n' nh wr)
      case atStart => exact ⟨ns, _, by omega, by omega, rfl, HD3.out⟩
      case round =>
        obtain ⟨n', T', a1, a2, rfl, hd⟩ := hrel
        have HD4 := Lib.hid hd
        obtain ⟨vS, vH, hb, _, _, _, p4, _, _, _⟩ := hd.open
        obtain ⟨gS1, cS1, _, rfl, _, _, _, _, _, _⟩ := p4.form (by omega)
        have HB := Lib.hid hb
        have k0 := cell_of_row wr _ 0 _ _ _ hb
        clear hd p4 hb
        go_upto_region 15 with fail
        go_cut [66] (fun s66 wx => ∃ t : Bool, s66 = .bool t ∧ (t = true → n' < 21) ∧ DSt w C g A len cap T' gp n' nh wx)
        case first =>
          have HDd := Lib.hid (HD4.out.drew)
          go_region_with ((go_at_call 46; refine (d_below 2 _ C g len cap A HDd.out.cur (by omega)).mono ?_; rintro e w5 ⟨x, y0, y1, y2, rfl, cu, gr⟩; have y3 := y1 (by omega); have hb5 := box_far (w1 := wr.drew) HB.out gr (fun e => by cases e; omega); have k5 := cell_of_row w5 _ 0 _ _ _ hb5; clear y1 y2))
          all_goals (go_wp2_with fail; go_meet; exact ⟨_, rfl, wrap_lt y0 y3, HDd.out.draw cu gr⟩)
        case rest =>
        clear HD4 HB k0
        obtain ⟨t, rfl, ht, hd⟩ := hcut
        have HD4 := Lib.hid hd
        have HT := Lib.hid ht
        obtain ⟨vS, vH, hb, q1, q2, q3, p4, _, _, _⟩ := hd.open
        obtain ⟨gS1, cS1, es, rfl, _, _, _, _, hst, hra⟩ := p4.elem (i := 0) (by omega)
        obtain ⟨Z, hZ⟩ := hst.is
        obtain rfl := hZ.lit
        obtain ⟨z0, z1, z2, z3, z4, z5, z6, z7, z8, z9, z10, z11, z12, z13⟩ := range14 hra
        have HB := Lib.hid hb
        have k0 := cell_of_row wc _ 0 _ _ _ hb
        have hnp := p4.ne hb (by decide)
        obtain ⟨xs, hxs, hown⟩ := p4
        have hxl : xs.length = n' * 14 := hown.1
        have hones := hst.ones
        have HST := Lib.hid hst
        have h0n : (0 : Int) < (n' : Int) := by omega
        have h0n' : 0 < n' := by omega
        have kA := (World.cell?_alloc_lt wc (.cells #[.complex .f64 Z.a Z.b, .complex .f32 (Z.x 0) (Z.y 0), .complex .f32 (Z.x 1) (Z.y 1), .complex .f32 (Z.x 2) (Z.y 2), .complex .f32 (Z.x 3) (Z.y 3), .complex .f32 (Z.x 4) (Z.y 4), .complex .f32 (Z.x 5) (Z.y 5), .complex .f32 (Z.x 6) (Z.y 6), .complex .f32 (Z.x 7) (Z.y 7), .complex .f32 (Z.x 8) (Z.y 8), .complex .f32 (Z.x 9) (Z.y 9), .complex .f32 (Z.x 10) (Z.y 10), .complex .f32 (Z.x 11) (Z.y 11), .complex .f32 (Z.x 12) (Z.y 12)] 110) ⟨gp, 0, none⟩ (World.block_lt_of_cell? wc _ k0)).trans k0
        clear hd hra hZ hst ht hb
        cases t
        · go_wp2_with fail
          go_meet
          exact ⟨_, _, _, by omega, by omega, HD4.out⟩
        · have hn21 := HT.out rfl
          have HDd := Lib.hid HD4.out.drew
          go_upto_region 16 with fail
          go_region_law (refine step_append_lies _ rfl _ _ 39 rfl (w.heap.size + 1) 110 iS (.agg (zeroS 0 0)) 14 120 Try.underlying39 hiS zS0 zS1 zS2 rfl (by decide) (.slice (some ⟨gS1, 0, none⟩) n' cS1) n' xs rfl (hown.drew.alloc _) ⟨wc.heap.size, 0, none⟩ 1 1 [.complex .f64 Z.a Z.b, .complex .f32 (Z.x 0) (Z.y 0), .complex .f32 (Z.x 1) (Z.y 1), .complex .f32 (Z.x 2) (Z.y 2), .complex .f32 (Z.x 3) (Z.y 3), .complex .f32 (Z.x 4) (Z.y 4), .complex .f32 (Z.x 5) (Z.y 5), .complex .f32 (Z.x 6) (Z.y 6), .complex .f32 (Z.x 7) (Z.y 7), .complex .f32 (Z.x 8) (Z.y 8), .complex .f32 (Z.x 9) (Z.y 9), .complex .f32 (Z.x 10) (Z.y 10), .complex .f32 (Z.x 11) (Z.y 11), .complex .f32 (Z.x 12) (Z.y 12)] rfl rfl (World.news_of_block (cs := #[.complex .f64 Z.a Z.b, .complex .f32 (Z.x 0) (Z.y 0), .complex .f32 (Z.x 1) (Z.y 1), .complex .f32 (Z.x 2) (Z.y 2), .complex .f32 (Z.x 3) (Z.y 3), .complex .f32 (Z.x 4) (Z.y 4), .complex .f32 (Z.x 5) (Z.y 5), .complex .f32 (Z.x 6) (Z.y 6), .complex .f32 (Z.x 7) (Z.y 7), .complex .f32 (Z.x 8) (Z.y 8), .complex .f32 (Z.x 9) (Z.y 9), .complex .f32 (Z.x 10) (Z.y 10), .complex .f32 (Z.x 11) (Z.y 11), .complex .f32 (Z.x 12) (Z.y 12)]) (t := 110) (fr := (0, 0)) (heap_alloc_new wc.drew _)) hones (by omega) (by unfold maxLen; omega) (by omega) (by have := HD4.out.top; have := HD4.out.size; simp; omega) _ rfl ?_; intro g7 c7 w7 hown7 hgrow hat hlt; have hb7 := box_far (w1 := wc.drew) HB.out (gr_alloc hgrow) hnp; obtain ⟨_, x7, f7⟩ := cell_at hb7 (k := 0) rfl (by simp))
          all_goals (
            go_wp2_with fail
            go_roundg (24 - (n' + 1))
            case measure => omega
            case rel => exact ⟨n' + 1, _, by omega, by omega, rfl, HDd.out.station HB.out hgrow hown7 hxl hxs HST.out⟩)
    by_cases e6 : c = 6
    · subst e6
      obtain ⟨vS', vH', hb', p1', p2', p3', p4, p5, p6, p7⟩ := HD3.out.open
      obtain ⟨rfl, rfl⟩ := tide_same HB.out hb'
      obtain ⟨_, hl, ⟨y, hy, rfl⟩⟩ := HH.out.2 (nh - 1) (by omega)
      have kl := (cell_of_row w4 gH (nh - 1) _ _ _ HH.out.1).trans hl
      have hnp := p5.ne HB.out (by decide)
      obtain ⟨xs, hxs, hown⟩ := p5
      have hidx : (nh : Int) - 1 = ((nh - 1 : Nat) : Int) := by omega
      have hidx2 : ((nh - 1 : Nat) : Int) < (nh : Int) := by omega
      have hidx3 : IntKind.i64.wrap ((nh - 1 : Nat) : Int) = ((nh - 1 : Nat) : Int) := IntWalk.i64_in _ (by omega)
      have hidx4 : 0 ≤ ((nh - 1 : Nat) : Int) := by omega
      have kA := (World.cell?_alloc_lt w4 (.cells #[.int .i64 (IntKind.i64.wrap (IntKind.i64.wrap (y + 21600) - 1))] 3) ⟨gp, 1, none⟩ (World.block_lt_of_cell? w4 _ k1)).trans k1
      have HDd := Lib.hid HD3.out.drew
      clear hb' p4 p6 p7 hl
      go_upto_region 18 with fail
      go_region_law (refine step_append_lies _ rfl _ _ 32 rfl (w.heap.size + 1) 3 iI (.int .i64 0) 1 8 Try.underlying32 hiI zI0 zI1 zI2 rfl (by decide) (.slice (some ⟨gH, 0, none⟩) nh cH) nh xs rfl (hown.drew.alloc _) ⟨w4.heap.size, 0, none⟩ 1 1 [.int .i64 (IntKind.i64.wrap (IntKind.i64.wrap (y + 21600) - 1))] rfl rfl (World.news_of_block (cs := #[.int .i64 (IntKind.i64.wrap (IntKind.i64.wrap (y + 21600) - 1))]) (t := 3) (fr := (0, 0)) (heap_alloc_new w4.drew _)) (by simp [Value.oneCell']) (by omega) (by unfold maxLen; omega) (by omega) (by have := HD3.out.top; have := HD3.out.size; simp; omega) _ rfl ?_; intro g7 c7 w7 hown7 hgrow hat hlt; have hb7 := box_far (w1 := w4.drew) HB.out (gr_alloc hgrow) hnp; obtain ⟨_, x7, f7⟩ := cell_at hb7 (k := 1) rfl (by simp))
      all_goals (go_wp2_with fail; go_meet; exact ⟨_, _, _, by omega, by omega, HDd.out.high HB.out hgrow hown7 hxs (wrap_bd _)⟩)
    go_wp2_with fail
    go_meet
    exact ⟨_, _, _, by omega, by omega, HD3.out⟩
  case rest =>
  obtain ⟨T, ns', nh', a1, a2, hd⟩ := hcut
  have HD := Lib.hid hd
  obtain ⟨vS', vH', hbx, p1', p2', p3', p4, p5, p6, p7⟩ := hd.open
  have k0 := cell_of_row wc _ 0 _ _ _ hbx
  have k1 := cell_of_row wc _ 1 _ _ _ hbx
  obtain ⟨AS, cS', rfl, _⟩ := p4.value
  obtain ⟨AH, cH', rfl, _⟩ := p5.value
  have q0 := hd.2.2.2.1
  obtain ⟨_, x0, y0⟩ := cell_at q0 (k := 0) rfl (by simp)
  have q1 := heap_set_self (k := 0) q0 (.slice AS ns' cS')
  obtain ⟨_, x1, y1⟩ := cell_at q1 (k := 1) rfl (by simp)
  have q2 := heap_set_self (k := 1) q1 (.slice AH nh' cH')
  have g12 := grown_trans (grown_set wc w.heap.size 0 (.slice AS ns' cS')) (grown_set _ w.heap.size 1 (.slice AH nh' cH'))
  have hgC := hd.2.1.1
  have cu2 := hd.cur.grown_far g12 (fun e => by cases e; omega) (fun j e => by cases e; omega)
  have gr2 := gr_new hd.1 g12 (fun j e => .inr (by cases e; omega))
  have pS := (p4.kept g12 (fun j e e' => by cases e; have := (p4.lt e').1; omega)).low (Nat.le_succ _)
  have pH := (p5.kept g12 (fun j e e' => by cases e; have := (p5.lt e').1; omega)).low (Nat.le_succ _)
  have HF := Lib.hid (And.intro q2 (And.intro pS (And.intro pH (And.intro cu2 gr2))))
  clear pS pH cu2 gr2 q0 q1 q2 HD hd g12 p4 p5 p6 p7 HD3 HS HH HB
  go_wp2_with fail
  obtain ⟨q3, pS, pH, cu, gr⟩ := HF.out
  exact bodyPost_ret (v := .agg #[.slice AS ns' cS', .slice AH nh' cH'])
    (results_cell_row (p := 2) (ty := 41) (by rfl) _ _ w.heap.size _ #[.slice AS ns' cS', .slice AH nh' cH'] (0, 0) _ (by rfl) q3 Try.underlying41 rfl Try.infoTd) rfl ⟨_, _, ns', nh', rfl, a1, a2, pS, pH, cu, gr⟩
end Go.Proofs.Ytonfenekjocopaa
