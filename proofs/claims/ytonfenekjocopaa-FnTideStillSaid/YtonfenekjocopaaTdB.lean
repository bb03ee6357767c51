/- The drawing of tides: l05Tide. -/
import Derived.Test.YtonfenekjocopaaTdA
namespace Go.Proofs.Ytonfenekjocopaa
open Go.RowKit Ieee
set_option linter.unusedSimpArgs false
set_option linter.unusedVariables false
attribute [local go_sem] st_cplx

def quoC (n : Nat) : Bool := match floatBits .quo .f32 (floatOfInt .f32 ((n : Int) - 16)) 1098907648 with
  | some c => Nat.blt c 4294967296
  | none => false
theorem quoC_tab : (List.range 33).all quoC = true := by kernel_rfl
theorem quoC_ok {n : Int} (h0 : -16 ≤ n) (h1 : n ≤ 16) : ∃ r, floatBits .quo .f32 (floatOfInt .f32 n) 1098907648 = some r ∧ r < 4294967296 := by
  obtain ⟨k, hk⟩ : ∃ k : Nat, n + 16 = k := ⟨(n + 16).toNat, by omega⟩
  have hb : quoC k = true := List.all_eq_true.1 quoC_tab _ (List.mem_range.2 (by omega))
  unfold quoC at hb
  rw [show (k : Int) - 16 = n by omega] at hb
  cases hc : floatBits .quo .f32 (floatOfInt .f32 n) 1098907648 with
  | none => rw [hc] at hb; cases hb
  | some c =>
    rw [hc] at hb
    simp only [Nat.blt_eq] at hb
    exact ⟨c, rfl, hb⟩
theorem Try.infoTd : (Try.prog.info? 41).map (·.size) = some 2 := by kernel_rfl
theorem Try.infoStS : (Try.prog.info? 110).map (·.size) = some 14 := by kernel_rfl
theorem Try.infoAr : (Try.prog.info? 108).map (·.size) = some 13 := by kernel_rfl
theorem ofInt_lt64 (n : Int) : floatOfInt .f64 n < 18446744073709551616 := f64.nearest_lt _ _ _
def zeroA : Array Value := #[.complex .f32 0 0, .complex .f32 0 0, .complex .f32 0 0, .complex .f32 0 0, .complex .f32 0 0, .complex .f32 0 0, .complex .f32 0 0, .complex .f32 0 0, .complex .f32 0 0, .complex .f32 0 0, .complex .f32 0 0, .complex .f32 0 0, .complex .f32 0 0]
def zeroS (a b : Nat) : Array Value := #[.complex .f64 a b, .complex .f32 0 0, .complex .f32 0 0, .complex .f32 0 0, .complex .f32 0 0, .complex .f32 0 0, .complex .f32 0 0, .complex .f32 0 0, .complex .f32 0 0, .complex .f32 0 0, .complex .f32 0 0, .complex .f32 0 0, .complex .f32 0 0, .complex .f32 0 0]
theorem zeroA_at {c : Nat} {x : Value} (h : zeroA[c]? = some x) : x = .complex .f32 0 0 := by
  have hm := Array.mem_of_getElem? h
  simpa [zeroA] using hm
theorem Try.infoStZ : (Try.prog.info? 110).map (fun i => (i.zero, i.size, i.bytes)) = some (some (.agg (zeroS 0 0)), 14, 120) := by kernel_rfl
theorem StV.ones {cs : Array Value} (h : StV cs) : ∀ u ∈ cs.toList, u.oneCell' = true := fun u hu => by
  obtain ⟨i, hi, rfl⟩ := List.mem_iff_getElem.1 hu
  exact (h.2 i _ (by simp)).one
theorem zeroA_one : zeroA.all (·.oneCell') = true := by
  rw [Array.all_eq_true_iff_forall_mem]
  intro x hx
  have : x = .complex .f32 0 0 := by simpa [zeroA] using hx
  rw [this]; rfl
theorem cons_of {α : Type} {l : List α} {n : Nat} (h : l.length = n + 1) : ∃ a t, l = a :: t ∧ t.length = n := by
  cases l with
  | nil => simp at h
  | cons a t => exact ⟨a, t, rfl, by simpa using h⟩
theorem StV.cells {cs : Array Value} (h : StV cs) : ∃ a0 a1 a2 a3 a4 a5 a6 a7 a8 a9 a10 a11 a12 a13 : Value, cs = #[a0, a1, a2, a3, a4, a5, a6, a7, a8, a9, a10, a11, a12, a13] := by
  obtain ⟨l0⟩ := cs
  have h0 : l0.length = 14 := h.1
  obtain ⟨a0, l1, e0, h1⟩ := cons_of h0
  obtain ⟨a1, l2, e1, h2⟩ := cons_of h1
  obtain ⟨a2, l3, e2, h3⟩ := cons_of h2
  obtain ⟨a3, l4, e3, h4⟩ := cons_of h3
  obtain ⟨a4, l5, e4, h5⟩ := cons_of h4
  obtain ⟨a5, l6, e5, h6⟩ := cons_of h5
  obtain ⟨a6, l7, e6, h7⟩ := cons_of h6
  obtain ⟨a7, l8, e7, h8⟩ := cons_of h7
  obtain ⟨a8, l9, e8, h9⟩ := cons_of h8
  obtain ⟨a9, l10, e9, h10⟩ := cons_of h9
  obtain ⟨a10, l11, e10, h11⟩ := cons_of h10
  obtain ⟨a11, l12, e11, h12⟩ := cons_of h11
  obtain ⟨a12, l13, e12, h13⟩ := cons_of h12
  obtain ⟨a13, l14, e13, h14⟩ := cons_of h13
  have e14 : l14 = [] := List.eq_nil_of_length_eq_zero h14
  refine ⟨a0, a1, a2, a3, a4, a5, a6, a7, a8, a9, a10, a11, a12, a13, ?_⟩
  rw [e0, e1, e2, e3, e4, e5, e6, e7, e8, e9, e10, e11, e12, e13, e14]
theorem zero_cell (k : Nat) : CellAt (k + 1) (.complex .f32 0 0) := ⟨fun e => by omega, fun _ => ⟨0, 0, by omega, rfl⟩⟩
theorem zeroS_st {a b : Nat} (ha : a < 18446744073709551616) (hb : b < 18446744073709551616) : StV (zeroS a b) := by
  refine ⟨rfl, fun c x hx => ?_⟩
  cases c with
  | zero => cases hx; exact ⟨fun _ => ⟨a, b, ⟨ha, hb⟩, rfl⟩, fun e => absurd rfl e⟩
  | succ k =>
    have h : zeroA[k]? = some x := by rw [← hx]; simp [zeroS, zeroA, List.getElem?_cons_succ]
    rw [zeroA_at h]; exact zero_cell k
theorem grown_setCells (b : Nat) : ∀ (vs : List Value) (o : Nat) (w : World), w.grownBy (w.setCells b o vs) (some b)
  | [], o, w => ⟨rfl, rfl, rfl, Nat.le_refl _, fun _ _ _ => rfl⟩
  | v :: r, o, w => grown_trans (grown_set w b o v) (grown_setCells b r (o + 1) _)
theorem stv_setCells {b : Nat} {t : TypeId} : ∀ (vs : List Value) (o : Nat) (w : World) (cs : Array Value), w.heap[b]? = some (.cells cs t (0, 0)) → StV cs → (∀ j v, vs[j]? = some v → CellAt (o + j) v) →
    ∃ cs', (w.setCells b o vs).heap[b]? = some (.cells cs' t (0, 0)) ∧ StV cs'
  | [], o, w, cs, h, hs, _ => ⟨cs, h, hs⟩
  | v :: r, o, w, cs, h, hs, hv => stv_setCells r (o + 1) (w.setCell ⟨b, o, none⟩ v) _ (heap_set_self h v) (hs.set (hv 0 v rfl)) fun j u hu => by
    have := hv (j + 1) u (by simpa using hu)
    rwa [show o + 1 + j = o + (j + 1) by omega]
theorem there_of {w : World} {b o n : Nat} {t : TypeId} {cs : Array Value} (h : w.heap[b]? = some (.cells cs t (0, 0))) (hn : o + n ≤ cs.size) : w.there b o n := fun j hj => by
  obtain ⟨v, h1, h2⟩ := cell_at h rfl (show o + j < cs.size by omega)
  exact ⟨by rw [h1]; rfl, h2⟩
/-- The world in which the drawing of a tide begins. -/
def world0 (w : World) : World := (w.alloc (.cells #[.slice none 0 0, .slice none 0 0] 41)).alloc (.cells #[.slice none 0 0, .slice none 0 0] 41)
theorem DSt.new (w : World) (C g : Nat) (A : Option Addr) (len cap : Nat) (hc : Cur w C g A len cap) :
    DSt w C g A len cap (w.heap.size + 2) (w.heap.size + 1) 0 0 (world0 w) := by
  have s1 : (w.alloc (.cells #[.slice none 0 0, .slice none 0 0] 41)).heap.size = w.heap.size + 1 := by simp
  refine ⟨grown_trans (World.grownBy_alloc w _ _) (World.grownBy_alloc _ _ _), (hc.alloc _).alloc _, hc.lt, ?_, .slice none 0 0, .slice none 0 0, ?_, by omega, by omega, by simp [world0], own_none _ _ _ _ _, own_none _ _ _ _ _, ?_, ?_⟩
  · unfold world0
    rw [Below.heap_alloc _ _ _ (by omega)]
    exact heap_alloc_new w _
  · unfold world0; rw [← s1]; exact heap_alloc_new _ _
  · intro k hk; cases hk
  · intro k hk; cases hk
set_option maxRecDepth 100000 in
set_option maxHeartbeats 8000000 in
theorem d_tide (w : World) (C g len cap : Nat) (A : Option Addr) (hc : Cur w C g A len cap) :
    Calls Try.prog 81 #[.pointer (some ⟨g, 0, none⟩)] w fun e w' => ∃ (vS vH : Value) (ns nh : Nat), e = .returned (.agg #[vS, vH]) ∧ 1 ≤ ns ∧ ns ≤ 3 ∧ 1 ≤ nh ∧ nh ≤ 5 ∧ OwnS w' w.heap.size vS ns ∧ OwnH w' w.heap.size vH nh ∧ Cur w' C g A len cap ∧ w.grownBy w' (some g) := by
  obtain ⟨iS, hiS, zS0, zS1, zS2⟩ := info_parts Try.infoStZ
  obtain ⟨iI, hiI, zI0, zI1, zI2⟩ := info_parts Try.infoInt
  have HD0 := Lib.hid (DSt.new w C g A len cap hc)
  go_enter Try.func81, Try.ntmps81
  go_wp2_with fail
  refine (d_below 3 (world0 w) C g len cap A HD0.out.cur (by omega)).mono ?_
  rintro e w1 ⟨x, x0, x1, x2, rfl, cu, gr⟩
  have x3 := x1 (by omega)
  have HD1 := Lib.hid (HD0.out.draw cu gr)
  clear x1 x2 cu gr HD0
  go_upto_block 0 with fail
  go_cut [] (fun wx => ∃ T ns, 1 ≤ ns ∧ ns ≤ 3 ∧ DSt w C g A len cap T (w.heap.size + 1) ns 0 wx)
  case first =>
    go_wp2_with fail
    go_loopw [4] (fun n wr => ∃ (k m T : Nat), n = .int .i64 k ∧ k + m = 1 + x.toNat ∧ DSt w C g A len cap T (w.heap.size + 1) m 0 wr) (fun n _ => (intOf n).toNat)
    case atStart => exact ⟨1 + x.toNat, 0, _, by go_num, by omega, HD1.out⟩
    case round =>
      clear HD1
      obtain ⟨k, m, T, rfl, hkm, hd⟩ := hrel
      have HD := Lib.hid hd
      clear hd
      by_cases hk : (0 : Int) < (k : Int)
      · go_wp2_with fail
        refine (d_below 8001 _ C g len cap A HD.out.cur (by omega)).mono ?_
        rintro e w3 ⟨y, y0, y1, y2, rfl, cu, gr⟩
        have y3 := y1 (by omega)
        have HD2 := Lib.hid (HD.out.draw cu gr)
        clear y1 y2 cu gr HD
        go_wp2_with fail
        refine (d_below 8001 _ C g len cap A HD2.out.cur (by omega)).mono ?_
        rintro e w4 ⟨z, z0, z1, z2, rfl, cu, gr⟩
        have z3 := z1 (by omega)
        have HD3 := Lib.hid (HD2.out.draw cu gr)
        clear z1 z2 cu gr HD2
        have HZ := Lib.hid (zeroS_st (ofInt_lt64 (y - 4000)) (ofInt_lt64 (z - 4000)))
        go_upto_block 2 with fail
        generalize floatOfInt .f64 (y - 4000) = ya at *
        generalize floatOfInt .f64 (z - 4000) = za at *
        have HB := Lib.hid (show (w4.alloc (.cells (zeroS ya za) 110)).heap[w4.heap.size]? = some (.cells (zeroS ya za) 110 (0, 0)) from heap_alloc_new _ _)
        have HD4 := Lib.hid ((HD3.out.up HD3.out.size (Nat.le_refl _)).alloc (.cells (zeroS ya za) 110))
        generalize hq : w4.heap.size = q at *
        clear hq HD3
        go_cut [] (fun wx => ∃ cs, DSt w C g A len cap q (w.heap.size + 1) m 0 wx ∧ wx.heap[q]? = some (.cells cs 110 (0, 0)) ∧ StV cs)
        case first =>
          go_wp2_with fail
          go_loopw [7, 8] (fun h x wr => ∃ (j : Nat) (cs : Array Value), j ≤ 13 ∧ h = .int .i64 j ∧ DSt w C g A len cap q (w.heap.size + 1) m 0 wr ∧ wr.heap[q]? = some (.cells cs 110 (0, 0)) ∧ StV cs) (fun h _ _ => 13 - (intOf h).toNat)
          case atStart => exact ⟨0, _, by omega, rfl, HD4.out, HB.out, HZ.out⟩
          case round =>
            clear HD4 HB HZ
            obtain ⟨j, cs, hj, rfl, hd, hb, hs⟩ := hrel
            have HD := Lib.hid hd
            have HB := Lib.hid (And.intro hb hs)
            clear hd hb hs
            by_cases hj13 : (j : Int) < 13
            · go_wp2_with fail
              refine (d_below 33 _ C g len cap A HD.out.cur (by omega)).mono ?_
              rintro e w5 ⟨a, a0, a1, a2, rfl, cu, gr⟩
              have a3 := a1 (by omega)
              have HD2 := Lib.hid (HD.out.draw cu gr)
              obtain ⟨r, hr, hrl⟩ := quoC_ok (n := a - 16) (by omega) (by omega)
              have hqr := fun w => run_float_arith (P := Try.prog) w .quo 35 .f32 _ _ _ hr
              have hgq : g < q := by have := HD.out.top; have := HD.out.2.2.1; omega
              have hb5 := box_far HB.out.1 gr (fun e => by cases e; omega)
              clear a1 a2 cu gr HD hr
              go_wp2_with fail
              refine (d_below 33 _ C g len cap A HD2.out.cur (by omega)).mono ?_
              rintro e w6 ⟨c, c0, c1, c2, rfl, cu, gr⟩
              have c3 := c1 (by omega)
              have HD3 := Lib.hid (HD2.out.draw cu gr)
              obtain ⟨u, hu, hul⟩ := quoC_ok (n := c - 16) (by omega) (by omega)
              have hqu := fun w => run_float_arith (P := Try.prog) w .quo 35 .f32 _ _ _ hu
              have hb6 := box_far hb5 gr (fun e => by cases e; omega)
              obtain ⟨_, x6, f6⟩ := cell_at hb6 HB.out.2.1 (show 1 + j < 14 by omega)
              have HN := Lib.hid (And.intro (HD3.out.step (grown_set w6 q (1 + j) (.complex .f32 r u)) (fun k e => by cases e; exact Nat.le_refl _)) (And.intro (heap_set_self (k := 1 + j) hb6 (.complex .f32 r u)) (HB.out.2.set (c := 1 + j) (x := .complex .f32 r u) ⟨fun e => by omega, fun _ => ⟨r, u, ⟨hrl, hul⟩, rfl⟩⟩)))
              clear c1 c2 cu gr HD2 HD3 hu hb5 hb6 HB hqr
              go_wp2_with fail
              go_roundw
              case rel => exact ⟨j + 1, _, by omega, by go_num, HN.out⟩
              case measure => simp [intOf]; omega
            · go_wp2_with fail
              go_meet
              exact ⟨_, HD.out, HB.out⟩
        case rest =>
        clear HD4 HB HZ
        obtain ⟨cs, hd, hb, hs⟩ := hcut
        have HD := Lib.hid hd
        have HB := Lib.hid (And.intro hb hs)
        clear hd hb hs
        have hgq : g < q := by have := HD.out.top; have := HD.out.2.2.1; omega
        go_wp2_with fail
        refine (d_once 5 _ C g len cap A HD.out.cur (by omega)).mono ?_
        rintro e w5 ⟨t, rfl, cu, gr⟩
        have HD2 := Lib.hid (HD.out.draw cu gr)
        have hb5 := box_far HB.out.1 gr (fun e => by cases e; omega)
        have HB2 := Lib.hid (And.intro hb5 HB.out.2)
        clear cu gr HD HB hb5
        go_upto_if 50 with fail
        go_cut [] (fun wx => ∃ cs, DSt w C g A len cap q (w.heap.size + 1) m 0 wx ∧ wx.heap[q]? = some (.cells cs 110 (0, 0)) ∧ StV cs)
        case first =>
          cases t
          · go_wp2_with fail
            go_meet
            exact ⟨_, HD2.out, HB2.out⟩
          · have hth : w5.there q 1 13 := there_of HB2.out.1 (by have := HB2.out.2.1; omega)
            go_wp2_with (refine wpList_store_mid rfl _ _ _ rfl q 1 zeroA rfl rfl hth Try.infoAr zeroA_one ?_)
            go_meet
            obtain ⟨cs', h1, h2⟩ := stv_setCells zeroA.toList 1 w5 cs HB2.out.1 HB2.out.2 fun j v hv => by
              have h : zeroA[j]? = some v := by simpa using hv
              rw [zeroA_at h, Nat.add_comm]; exact zero_cell j
            exact ⟨cs', HD2.out.step (grown_setCells q zeroA.toList 1 w5) (fun k e => by cases e; exact Nat.le_refl _), h1, h2⟩
        case rest =>
        clear HD2 HB2
        obtain ⟨cs, hd, hb, hs⟩ := hcut
        have HD := Lib.hid hd
        have HB := Lib.hid (And.intro hb hs)
        clear hd hb hs
        obtain ⟨vS, vH, hbx, p1, p2, p3, p4, p5, p6, p7⟩ := HD.out.open
        have k0 := cell_of_row wc _ 0 _ _ _ hbx
        obtain ⟨a0, a1, a2, a3, a4, a5, a6, a7, a8, a9, a10, a11, a12, a13, rfl⟩ := HB.out.2.cells
        obtain ⟨xs, hxs, hown⟩ := p4
        have hnp := (show OwnS wc _ vS m from ⟨xs, hxs, hown⟩).ne hbx (by decide)
        have hst := HB.out.2
        have hones := hst.ones
        have hxl : xs.length = m * 14 := hown.1
        have hm : m ≤ 3 := by omega
        clear p1 p2 p3 p5 p6 p7
        go_wp2_with (first
          | (refine wpList_load_row rfl _ _ rfl q rfl _ _ (0, 0) _ HB.out.1 Try.underlying110 rfl Try.infoStS ?_)
          | (at_builtin; refine wpList_append_lies _ rfl _ _ 39 rfl (w.heap.size + 1) 110 iS (.agg (zeroS 0 0)) 14 120 Try.underlying39 hiS zS0 zS1 zS2 rfl (by decide) _ m xs rfl (hown.alloc _) ⟨wc.heap.size, 0, none⟩ 1 1 [a0, a1, a2, a3, a4, a5, a6, a7, a8, a9, a10, a11, a12, a13] rfl rfl (World.news_of_block (cs := #[a0, a1, a2, a3, a4, a5, a6, a7, a8, a9, a10, a11, a12, a13]) (t := 110) (fr := (0, 0)) (heap_alloc_new wc _)) hones (by omega) (by unfold maxLen; omega) (by omega) (by have := HD.out.top; have := HD.out.size; simp; omega) _ rfl ?_; intro g7 c7 w7 hown7 hgrow hat hlt; have hb7 := box_far hbx (gr_alloc hgrow) hnp; obtain ⟨_, x7, f7⟩ := cell_at hb7 (k := 0) rfl (by simp)))
        have HD5 := Lib.hid (HD.out.station hbx hgrow hown7 hxl hxs hst)
        clear hb7 x7 f7 hown7 hgrow hat hlt hown k0 hbx HD hnp hxs hst hones HB
        go_roundw
        case rel => exact ⟨k - 1, m + 1, _, by go_num, by omega, HD5.out⟩
        case measure => simp [intOf]; omega
      · go_wp2_with fail
        go_meet
        exact ⟨T, m, by omega, by omega, HD.out⟩
  case rest =>
  clear HD1
  obtain ⟨T, ns, n1, n2, hd⟩ := hcut
  have HD := Lib.hid hd
  clear hd
  go_wp2_with fail
  refine (d_below 30000 _ C g len cap A HD.out.cur (by omega)).mono ?_
  rintro e w3 ⟨y, y0, y1, y2, rfl, cu, gr⟩
  have y3 := y1 (by omega)
  have HD2 := Lib.hid (HD.out.draw cu gr)
  clear y1 y2 cu gr HD
  go_wp2_with fail
  refine (d_below 5 _ C g len cap A HD2.out.cur (by omega)).mono ?_
  rintro e w4 ⟨z, z0, z1, z2, rfl, cu, gr⟩
  have z3 := z1 (by omega)
  have HD3 := Lib.hid (HD2.out.draw cu gr)
  clear z1 z2 cu gr HD2
  go_wp2_with fail
  go_loopw [9, 10] (fun t n wr => ∃ (v : Int) (k m T : Nat), t = .int .i64 v ∧ n = .int .i64 k ∧ k + m = 1 + z.toNat ∧ 0 ≤ v ∧ v ≤ 30000 + 61600 * m ∧ DSt w C g A len cap T (w.heap.size + 1) ns m wr) (fun _ n _ => (intOf n).toNat)
  case atStart => exact ⟨y, 1 + z.toNat, 0, _, rfl, by go_num, by omega, by omega, by omega, HD3.out⟩
  case round =>
    clear HD3
    obtain ⟨v, k, m, T, rfl, rfl, hkm, v0, v1, hd⟩ := hrel
    have HD := Lib.hid hd
    clear hd
    by_cases hk : (0 : Int) < (k : Int)
    · obtain ⟨vS, vH, hbx, p1, p2, p3, p4, p5, p6, p7⟩ := HD.out.open
      have k1 := cell_of_row wr _ 1 _ _ _ hbx
      obtain ⟨xs, hxs, hown⟩ := p5
      have hnp := (show OwnH wr _ vH m from ⟨xs, hxs, hown⟩).ne hbx (by decide)
      have hm : m ≤ 5 := by omega
      clear p1 p2 p3 p4 p6 p7
      go_wp2_with (at_builtin; refine wpList_append_lies _ rfl _ _ 32 rfl (w.heap.size + 1) 3 iI (.int .i64 0) 1 8 Try.underlying32 hiI zI0 zI1 zI2 rfl (by decide) _ m xs rfl (hown.alloc _) ⟨wr.heap.size, 0, none⟩ 1 1 [.int .i64 v] rfl rfl (World.news_of_block (cs := #[.int .i64 v]) (t := 3) (fr := (0, 0)) (heap_alloc_new wr _)) (by simp [Value.oneCell']) (by omega) (by unfold maxLen; omega) (by omega) (by have := HD.out.top; have := HD.out.size; simp; omega) _ rfl ?_; intro g7 c7 w7 hown7 hgrow hat hlt; have hb7 := box_far hbx (gr_alloc hgrow) hnp; obtain ⟨_, x7, f7⟩ := cell_at hb7 (k := 1) rfl (by simp))
      have HD5 := Lib.hid (HD.out.high hbx hgrow hown7 hxs (by omega))
      clear hb7 x7 f7 hown7 hgrow hat hlt hown k1 hbx HD hnp hxs
      refine (d_below 3 _ C g len cap A HD5.out.cur (by omega)).mono ?_
      rintro e w8 ⟨a, a0, a1, a2, rfl, cu, gr⟩
      have a3 := a1 (by omega)
      have HD6 := Lib.hid (HD5.out.draw cu gr)
      clear a1 a2 cu gr HD5
      go_wp2_with fail
      refine (d_below 20000 _ C g len cap A HD6.out.cur (by omega)).mono ?_
      rintro e w9 ⟨b, b0, b1, b2, rfl, cu, gr⟩
      have b3 := b1 (by omega)
      have HD7 := Lib.hid (HD6.out.draw cu gr)
      clear b1 b2 cu gr HD6
      have ab0 := Int.mul_nonneg a0 b0
      have ab1 : a * b ≤ 2 * 20000 := Int.mul_le_mul (by omega) (by omega) b0 (by omega)
      generalize hab : a * b = c at *
      go_wp2_with fail
      go_roundw
      case rel => exact ⟨v + 21600 + c, k - 1, m + 1, _, by go_num, by go_num, by omega, by omega, by omega, HD7.out⟩
      case measure => simp [intOf]; omega
    · have hd := HD.out
      obtain ⟨vS, vH, hbx, p1, p2, p3, p4, p5, p6, p7⟩ := hd.open
      have k0 := cell_of_row wr _ 0 _ _ _ hbx
      have k1 := cell_of_row wr _ 1 _ _ _ hbx
      obtain ⟨AS, cS, rfl, _⟩ := p4.value
      obtain ⟨AH, cH, rfl, _⟩ := p5.value
      have q0 := hd.2.2.2.1
      obtain ⟨_, x0, y0⟩ := cell_at q0 (k := 0) rfl (by simp)
      have q1 := heap_set_self (k := 0) q0 (.slice AS ns cS)
      obtain ⟨_, x1, y1⟩ := cell_at q1 (k := 1) rfl (by simp)
      have q2 := heap_set_self (k := 1) q1 (.slice AH m cH)
      have g12 := grown_trans (grown_set wr w.heap.size 0 (.slice AS ns cS)) (grown_set _ w.heap.size 1 (.slice AH m cH))
      have hgC := hd.2.1.1
      have hgl := hd.2.2.1
      have cu2 := hd.cur.grown_far g12 (fun e => by cases e; omega) (fun j e => by cases e; omega)
      have gr2 := gr_new hd.1 g12 (fun j e => .inr (by cases e; omega))
      have pS := (p4.kept g12 (fun j e e' => by cases e; have := (p4.lt e').1; omega)).low (Nat.le_succ _)
      have pH := (p5.kept g12 (fun j e e' => by cases e; have := (p5.lt e').1; omega)).low (Nat.le_succ _)
      have HF := Lib.hid (And.intro q2 (And.intro pS (And.intro pH (And.intro cu2 gr2))))
      clear pS pH cu2 gr2 q0 q1 q2 HD hd g12 p4 p5 p6 p7
      go_wp2_with fail
      obtain ⟨q3, pS, pH, cu, gr⟩ := HF.out
      exact bodyPost_ret (v := .agg #[.slice AS ns cS, .slice AH m cH])
        (results_cell_row (p := 2) (ty := 41) (by rfl) _ _ w.heap.size _ #[.slice AS ns cS, .slice AH m cH] (0, 0) _ (by rfl) q3 Try.underlying41 rfl Try.infoTd) rfl ⟨_, _, rfl, ns, n1, n2, m, by omega, by omega, pS, pH, cu, gr⟩
end Go.Proofs.Ytonfenekjocopaa
