/- The drawing of polars: l04Any. -/
import Derived.Test.YtonoknbangnleaaGreatPdC
import Derived.Test.YtonoknbangnleaaGreatPoB
import Derived.Deep.RegionLaw
import Derived.Deep.LoopGhost
import Derived.StillTailTactics
namespace Go.Proofs.YtonoknbangnleaaGreat
open Go.RowKit Ieee
set_option linter.unusedSimpArgs false
set_option linter.unusedVariables false

/-- What stands where l04Any comes to its end. -/
def AEnd (w : World) (C g : Nat) (A : Option Addr) (len cap gp : Nat) (wx : World) : Prop :=
  ∃ vW vA vS n na m, w.grownBy wx (some g) ∧ Cur wx C g A len cap ∧ g < w.heap.size ∧ wx.heap[w.heap.size]? = some (.cells #[.slice none 0 0, .slice none 0 0, .slice none 0 0] 28 (0, 0)) ∧ w.heap.size < gp ∧
    wx.heap[gp]? = some (.cells #[vW, vA, vS] 28 (0, 0)) ∧ PolT (w.heap.size + 1) wx vW vA vS n na m
theorem DSt.aend {w w1 : World} {C g : Nat} {A : Option Addr} {len cap T gp M n na m : Nat} (h : DSt w C g A len cap T gp M n na m w1) (h1 : n ≤ 1048576) (h2 : na ≤ 1048576) (h3 : m ≤ 1048576) : AEnd w C g A len cap gp w1 := by
  obtain ⟨vW, vA, vS, hb, p1, p2, p3, pv⟩ := h.open
  exact ⟨vW, vA, vS, n, na, m, h.1, h.2.1, h.2.2.1, h.2.2.2.1, p1, hb, pv.polT h1 h2 h3⟩
theorem AEnd.setAt {w w1 : World} {C g : Nat} {A : Option Addr} {len cap gp b k : Nat} {cs : Array Value} {t : TypeId} {x : Value} (h : AEnd w C g A len cap gp w1) (hb : w1.heap[b]? = some (.cells cs t (0, 0))) (hB : w.heap.size < b) (ht : t ≠ 28)
    (hp : ∀ vW vA vS n na m, PolT (w.heap.size + 1) w1 vW vA vS n na m → PolT (w.heap.size + 1) (w1.setCell ⟨b, k, none⟩ x) vW vA vS n na m) : AEnd w C g A len cap gp (w1.setCell ⟨b, k, none⟩ x) := by
  obtain ⟨vW, vA, vS, n, na, m, h1, h2, h3, h4, h5, h6, h7⟩ := h
  have hC := h2.1
  have k1 := grown_set w1 b k x
  have hgb : gp ≠ b := fun e => by
    subst e; rw [hb] at h6; injection h6 with h6; injection h6 with _ h6; exact ht h6
  refine ⟨vW, vA, vS, n, na, m, gr_new h1 k1 fun j e => .inr (by cases e; omega), h2.grown_far k1 (fun e => by cases e; omega) (fun j e => by cases e; omega), h3, ?_, h5, ?_, hp _ _ _ _ _ _ h7⟩
  · exact (Below.heap_setCell _ _ _ _ (by show w.heap.size ≠ b; omega)).trans h4
  · exact (Below.heap_setCell _ _ _ _ hgb).trans h6
theorem AEnd.setF {w w1 : World} {C g : Nat} {A : Option Addr} {len cap gp b k : Nat} {cs : Array Value} {x : Nat} (h : AEnd w C g A len cap gp w1) (hb : w1.heap[b]? = some (.cells cs 35 (0, 0))) (hB : w.heap.size < b) (hx : x < 4294967296) : AEnd w C g A len cap gp (w1.setCell ⟨b, k, none⟩ (.float .f32 x)) :=
  h.setAt hb hB (by decide) fun _ _ _ _ _ _ hp => hp.setF hb hx
theorem AEnd.setI {w w1 : World} {C g : Nat} {A : Option Addr} {len cap gp b k : Nat} {cs : Array Value} {x : Int} (h : AEnd w C g A len cap gp w1) (hb : w1.heap[b]? = some (.cells cs 3 (0, 0))) (hB : w.heap.size < b) (hx : -9223372036854775808 ≤ x ∧ x ≤ 9223372036854775807) : AEnd w C g A len cap gp (w1.setCell ⟨b, k, none⟩ (.int .i64 x)) :=
  h.setAt hb hB (by decide) fun _ _ _ _ _ _ hp => hp.setI hb hx
theorem AEnd.setR {w w1 : World} {C g : Nat} {A : Option Addr} {len cap gp b k : Nat} {cs : Array Value} {x : Value} (h : AEnd w C g A len cap gp w1) (hb : w1.heap[b]? = some (.cells cs 24 (0, 0))) (hB : w.heap.size < b) (hx : IsRowF (w.heap.size + 1) w1 x) : AEnd w C g A len cap gp (w1.setCell ⟨b, k, none⟩ x) :=
  h.setAt hb hB (by decide) fun _ _ _ _ _ _ hp => hp.setR hb hx
theorem AEnd.drew {w w1 : World} {C g : Nat} {A : Option Addr} {len cap gp : Nat} (h : AEnd w C g A len cap gp w1) : AEnd w C g A len cap gp w1.drew := by
  obtain ⟨vW, vA, vS, n, na, m, h1, h2, h3, h4, h5, h6, h7⟩ := h
  exact ⟨vW, vA, vS, n, na, m, (cur_drew h2 h1).2, (cur_drew h2 h1).1, h3, h4, h5, h6, h7.same fun _ _ _ => rfl⟩
theorem DSt.setS {w w1 : World} {C g : Nat} {A : Option Addr} {len cap T gp M n na m m' : Nat} {vW vA vS uS : Value} (h : DSt w C g A len cap T gp M n na m w1) (hb : w1.heap[gp]? = some (.cells #[vW, vA, vS] 28 (0, 0)))
    (hS : TList (IsRowF (w.heap.size + 1) w1) 24 (w.heap.size + 1) w1 uS m') (h1 : n ≤ 1048576) (h2 : na ≤ 1048576) (h3 : m' ≤ 1048576) : AEnd w C g A len cap gp (w1.setCell ⟨gp, 2, none⟩ uS) := by
  obtain ⟨vW', vA', vS', hb', p1, p2, p3, pv⟩ := h.open
  have he : vW' = vW ∧ vA' = vA ∧ vS' = vS := by rw [hb] at hb'; simp at hb'; exact ⟨hb'.1.symm, hb'.2.1.symm, hb'.2.2.symm⟩
  obtain ⟨rfl, rfl, rfl⟩ := he
  have hC := h.2.1.1
  have hgl := h.2.2.1
  have k1 := grown_set w1 gp 2 uS
  have pt := (pv.low (Nat.le_refl _) |> fun q => (⟨⟨h1, h2, h3⟩, (q.1.up fun x ⟨y, a, b⟩ => ⟨y, a.1, b⟩).tlist, q.2.1.tlist, hS⟩ : PolT (w.heap.size + 1) w1 vW' vA' uS n na m'))
  refine ⟨vW', vA', uS, n, na, m', gr_new h.1 k1 fun j e => .inr (by cases e; omega), h.2.1.grown_far k1 (fun e => by cases e; omega) (fun j e => by cases e; omega), h.2.2.1, ?_, p1, ?_,
    pt.1, pt.2.1.set hb (fun e => absurd e (by decide)), pt.2.2.1.set hb (fun e => absurd e (by decide)), (pt.2.2.2.set hb (fun e => absurd e (by decide))).up fun y ⟨l, hl, hy⟩ => ⟨l, hl, hy.set hb (fun e => absurd e (by decide))⟩⟩
  · exact (Below.heap_setCell _ _ _ _ (by show w.heap.size ≠ gp; omega)).trans h.2.2.2.1
  · rw [blk_set hb]; rfl
theorem TList.tail {p : Value → Prop} {t : TypeId} {B : Nat} {w : World} {g n c c' : Nat} (h : TList p t B w (.slice (some ⟨g, 0, none⟩) n c) n) : TList p t B w (.slice (some ⟨g, 1, none⟩) (n - 1) c') (n - 1) := by
  obtain ⟨A, cap, e, h0 | ⟨g', o, cs, e1, e2, e3, e4⟩⟩ := h
  · exact ⟨_, _, rfl, .inl (by omega)⟩
  · cases e
    cases e1
    exact ⟨_, _, rfl, .inr ⟨g, 1, cs, rfl, e2, e3, fun j hj => by have := e4 (1 + j) (by omega); rwa [Nat.zero_add] at this⟩⟩
theorem wrap_lt {n' : Nat} {x : Int} (h0 : 0 ≤ x) (h1 : x < 2) (h : decide ((n' : Int) < IntKind.i64.wrap (12 + x)) = true) : n' < 13 := by
  rw [IntWalk.i64_in _ (by omega)] at h
  have := of_decide_eq_true h
  omega
/-- The world that l04Any begins its choice with. -/
theorem DSt.any {w w1 : World} {C g : Nat} {A : Option Addr} {len cap n na : Nat} {vW vA vS : Value} (hg : g < w.heap.size) (hp : PVal (w.heap.size + 1) w1.heap.size 200 n na n vW vA vS w1) (hc : Cur w1 C g A len cap)
    (hgr : (w.alloc (.cells #[.slice none 0 0, .slice none 0 0, .slice none 0 0] 28)).grownBy w1 (some g)) : DSt w C g A len cap (w1.heap.size + 1) w1.heap.size 200 n na n (w1.alloc (.cells #[vW, vA, vS] 28)) := by
  have hs : w.heap.size + 1 ≤ w1.heap.size := by
    have := hgr.size
    simpa using this
  refine ⟨grown_trans (gr_alloc hgr) (World.grownBy_alloc _ _ _), hc.alloc _, hg, ?_, vW, vA, vS, heap_alloc_new _ _, by omega, by omega, by simp, (hp.far (World.grownBy_alloc w1 (.cells #[vW, vA, vS] 28) none) (fun k e => by cases e)).up (Nat.le_succ _) (Nat.le_refl _)⟩
  rw [Below.heap_alloc _ _ _ (by omega)]
  exact (hgr.block _ (by simp) (fun e => by cases e; omega)).trans (heap_alloc_new w _)
theorem DSt.drew {w w1 : World} {C g : Nat} {A : Option Addr} {len cap T gp M n na m : Nat} (h : DSt w C g A len cap T gp M n na m w1) : DSt w C g A len cap T gp M n na m w1.drew := h.step (r := none) ⟨rfl, rfl, rfl, Nat.le_refl _, fun _ _ _ => rfl⟩ (fun _ e => by cases e)
/-- Row i of the speeds. -/
theorem PVal.rowAt {w : World} {B T M n na m i : Nat} {vW vA vS : Value} (h : PVal B T M n na m vW vA vS w) (hi : i < m) (hna : 0 < na) :
    ∃ gS cS csS b cb csb, vS = .slice (some ⟨gS, 0, none⟩) m cS ∧ m ≤ cS ∧ cS ≤ maxLen ∧ B ≤ gS ∧ w.heap[gS]? = some (.cells csS 24 (0, 0)) ∧ csS.size = cS ∧ csS[i]? = some (.slice (some ⟨b, 0, none⟩) na cb) ∧ na ≤ cb ∧ cb ≤ maxLen ∧ B ≤ b ∧ w.heap[b]? = some (.cells csb 35 (0, 0)) ∧ csb.size = cb ∧ ∀ j, j < na → ∃ x, csb[j]? = some x ∧ IsB M x := by
  obtain ⟨gS, cS, csS, rfl, h1, h2, h3, h4, h5, h6⟩ := h.2.2.1.form (by omega)
  obtain ⟨x, x1, x2⟩ := h6 i hi
  obtain ⟨b, cb, csb, rfl, r1, r2, r3, r4, r5, r6⟩ := x2.1.form hna
  exact ⟨gS, cS, csS, b, cb, csb, rfl, h1, h2, h3, h4, h5, x1, r1, r2, r3, r4, r5, r6⟩
set_option maxRecDepth 100000 in
set_option maxHeartbeats 8000000 in
theorem d_any (w : World) (C g len cap : Nat) (A : Option Addr) (hc : Cur w C g A len cap) :
    Calls Tryz.prog 42 #[.pointer (some ⟨g, 0, none⟩)] w fun e w' => ∃ (vW vA vS : Value) (n na m : Nat), e = .returned (.agg #[vW, vA, vS]) ∧ PolT w.heap.size w' vW vA vS n na m ∧ Cur w' C g A len cap ∧ w.grownBy w' (some g) := by
  obtain ⟨iF, hiF, zF0, zF1, zF2⟩ := info_parts Tryz.infoF
  obtain ⟨iR, hiR, zR0, zR1, zR2⟩ := info_parts Tryz.infoFS
  have hgl := hc.lt
  go_enter Tryz.func42, Tryz.ntmps42
  go_wp2_with fail
  refine (d_polar _ C g len cap A (hc.alloc _)).mono ?_
  rintro e w1 ⟨vW, vA, vS, n, na, rfl, n1, n2, m1, m2, pv, cu, gr⟩
  have hsz : (w.alloc (.cells #[.slice none 0 0, .slice none 0 0, .slice none 0 0] 28)).heap.size = w.heap.size + 1 := by simp
  rw [hsz] at pv
  have HD0 := Lib.hid (DSt.any hgl pv cu gr)
  obtain ⟨gW, cW, csW, rfl, _, _, hbW, hW1, hW2, hW3⟩ := pv.1.form (by omega)
  obtain ⟨gA, cA, csA, rfl, _, _, hbA, hA1, hA2, hA3⟩ := pv.2.1.form (by omega)
  obtain ⟨gS, cS, csS, rfl, _, _, hbS, hS1, hS2, hS3⟩ := pv.2.2.1.form (by omega)
  clear pv cu gr hbS hS1 hS2 hS3
  have HPW := Lib.hid hbW
  have HPA := Lib.hid hbA
  clear hbW hbA hW1 hA1 hW2 hW3 hA2 hA3
  clear HPW HPA
  have n0 : 0 < n := by omega
  have m0 : 0 < na := by omega
  go_wp2_with fail
  refine (d_below n _ C g len cap A HD0.out.cur (by omega)).mono ?_
  rintro e w2 ⟨i, i0, i1, i2, rfl, cu, gr⟩
  have i3 := i1 (by omega)
  have HD1 := Lib.hid (HD0.out.draw cu gr)
  have hb0 : (w1.alloc (.cells #[.slice (some ⟨gW, 0, none⟩) n cW, .slice (some ⟨gA, 0, none⟩) na cA, .slice (some ⟨gS, 0, none⟩) n cS] 28)).heap[w1.heap.size]? = some (.cells #[.slice (some ⟨gW, 0, none⟩) n cW, .slice (some ⟨gA, 0, none⟩) na cA, .slice (some ⟨gS, 0, none⟩) n cS] 28 (0, 0)) := heap_alloc_new _ _
  have hgw : g < w1.heap.size := by have := HD0.out.top; omega
  have hb1 := box_far hb0 gr (fun e => by cases e; omega)
  clear i1 i2 cu gr HD0 hb0
  have k1 := cell_of_row w2 _ 1 _ _ _ hb1
  obtain ⟨i, rfl⟩ : ∃ k : Nat, i = k := ⟨i.toNat, by omega⟩
  go_wp2_with fail
  refine (d_below na _ C g len cap A HD1.out.cur (by omega)).mono ?_
  rintro e w3 ⟨k, j0, j1, j2, rfl, cu, gr⟩
  have j3 := j1 (by omega)
  have HD2 := Lib.hid (HD1.out.draw cu gr)
  have hb2 := box_far hb1 gr (fun e => by cases e; omega)
  clear j1 j2 cu gr HD1 hb1 k1
  obtain ⟨k, rfl⟩ : ∃ j : Nat, k = j := ⟨k.toNat, by omega⟩
  go_wp2_with fail
  refine (d_below 24 _ C g len cap A HD2.out.cur (by omega)).mono ?_
  rintro e w4 ⟨c, c0, c1, c2, rfl, cu, gr⟩
  have HD3 := Lib.hid (HD2.out.draw cu gr)
  have hb3 := box_far hb2 gr (fun e => by cases e; omega)
  clear c1 c2 cu gr HD2 hb2
  generalize hgp : w1.heap.size = gp at *
  clear hgp
  obtain ⟨vW', vA', vS', hb', p1, p2, p3, pv⟩ := HD3.out.open
  have he : vW' = .slice (some ⟨gW, 0, none⟩) n cW ∧ vA' = .slice (some ⟨gA, 0, none⟩) na cA ∧ vS' = .slice (some ⟨gS, 0, none⟩) n cS := by rw [hb3] at hb'; simp at hb'; exact ⟨hb'.1.symm, hb'.2.1.symm, hb'.2.2.symm⟩
  obtain ⟨rfl, rfl, rfl⟩ := he
  clear hb'
  have HPV := Lib.hid pv
  have HB := Lib.hid hb3
  have k0 := cell_of_row w4 _ 0 _ _ _ hb3
  have k1 := cell_of_row w4 _ 1 _ _ _ hb3
  have k2 := cell_of_row w4 _ 2 _ _ _ hb3
  clear pv hb3
  have hi1 : (i : Int) < (n : Int) := by omega
  have hk1 : (k : Int) < (na : Int) := by omega
  go_upto_block 0 with fail
  go_cut [6] (fun s6 wx => AEnd w C g A len cap gp wx)
  case first =>
    by_cases e6 : c = 6
    · subst e6
      clear k0 k1 k2 HB HPV
      go_wp2_with fail
      go_loopg [] (24 - n) (fun gk wr => ∃ n' T, 1 ≤ n' ∧ n' ≤ 13 ∧ gk = 24 - n' ∧ DSt w C g A len cap T gp (200 + 2 * n') n' na n' wr)
      case atStart => exact ⟨n, _, by omega, by omega, rfl, HD3.out.upM (by omega)⟩
      case round =>
        obtain ⟨n', T', a1, a2, rfl, hd⟩ := hrel
        have HD4 := Lib.hid hd
        obtain ⟨vW, vA, vS, hb, p1', p2', p3', pv⟩ := hd.open
        obtain ⟨gW', cW', csW, rfl, _, hcW, hBW, hW1, hW2, hW3⟩ := pv.1.form (by omega)
        have HB := Lib.hid hb
        have k0 := cell_of_row wr _ 0 _ _ _ hb
        clear hd pv hb
        go_upto_region 18 with fail
        go_cut [77] (fun s77 wx => ∃ t : Bool, s77 = .bool t ∧ (t = true → n' < 13) ∧ DSt w C g A len cap T' gp (200 + 2 * n') n' na n' wx)
        case first =>
          have HDd := Lib.hid (HD4.out.drew)
          clear hW1
          go_region_with ((go_at_call 49; refine (d_below 2 _ C g len cap A HDd.out.cur (by omega)).mono ?_; rintro e w5 ⟨x, y0, y1, y2, rfl, cu, gr⟩; have y3 := y1 (by omega); have hb5 := box_far (w1 := wr.drew) HB.out gr (fun e => by cases e; omega); have k5 := cell_of_row w5 _ 0 _ _ _ hb5; clear y1 y2))
          all_goals (go_wp2_with fail; go_meet; exact ⟨_, rfl, ⟨wrap_lt y0 y3, HDd.out.draw cu gr⟩⟩)
        case rest =>
        clear HD4 HB k0 hW1 hW2 hW3
        obtain ⟨t, rfl, ht, hd⟩ := hcut
        have HD4 := Lib.hid hd
        have HT := Lib.hid ht
        obtain ⟨vW, vA, vS, hb, p1', p2', p3', pv⟩ := hd.open
        obtain ⟨gW', cW', csW, rfl, _, hcW, hBW, hW1, hW2, hW3⟩ := pv.1.form (by omega)
        have HB := Lib.hid hb
        have k0 := cell_of_row wc _ 0 _ _ _ hb
        have hnp := pv.1.ne hb (by decide)
        obtain ⟨xs, hxs, hown⟩ := pv.1
        obtain ⟨_, hl, ⟨x, hx, rfl⟩⟩ := hW3 (n' - 1) (by omega)
        have kl := (cell_of_row wc gW' (n' - 1) _ _ _ hW1).trans hl
        obtain ⟨s2, hs2, hs2'⟩ := add_bd (y := 1065353216) hx ((⟨by omega, one_ok.1, one_ok.2⟩ : okB 2 1065353216)) (by omega)
        have hqa := fun w => run_float_arith (P := Tryz.prog) w .add 35 .f32 _ _ _ hs2
        have HX := Lib.hid hs2'
        clear hd pv hb hW1 hW2 hW3 ht hx hs2 hs2' hl
        cases t
        · go_wp2_with fail
          go_meet
          exact HD4.out.aend (by omega) (by omega) (by omega)
        · have hn13 := HT.out rfl
          have hidx : (n' : Int) - 1 = ((n' - 1 : Nat) : Int) := by omega
          have hidx2 : ((n' - 1 : Nat) : Int) < (n' : Int) := by omega
          have hidx3 : IntKind.i64.wrap ((n' - 1 : Nat) : Int) = ((n' - 1 : Nat) : Int) := IntWalk.i64_in _ (by omega)
          have hidx4 : 0 ≤ ((n' - 1 : Nat) : Int) := by omega
          have kA := (World.cell?_alloc_lt wc (.cells #[.float .f32 s2] 35) ⟨gp, 0, none⟩ (World.block_lt_of_cell? wc _ k0)).trans k0
          go_upto_region 19 with fail
          go_cut [] (fun wx => ∃ T, DSt w C g A len cap T gp (200 + 2 * (n' + 1)) (n' + 1) na n' wx)
          case first =>
            have HDd := Lib.hid (HD4.out.drew.upM (M' := 200 + 2 * (n' + 1)) (by omega))
            have HXS := Lib.hid (fun x hx => (hxs x hx).up (M' := 200 + 2 * (n' + 1)) (by omega))
            clear hxs HD4
            go_region_law (refine step_append_lies _ rfl _ _ 24 rfl (w.heap.size + 1) 35 iF (.float .f32 0) 1 4 Tryz.underlying24 hiF zF0 zF1 zF2 rfl (by decide) (.slice (some ⟨gW', 0, none⟩) n' cW') n' xs rfl (hown.drew.alloc _) ⟨wc.heap.size, 0, none⟩ 1 1 [.float .f32 s2] rfl rfl (World.news_of_block (cs := #[.float .f32 s2]) (t := 35) (fr := (0, 0)) (heap_alloc_new wc.drew _)) (by simp [Value.oneCell']) (by omega) (by unfold maxLen; omega) (by omega) (by simp; omega) _ rfl ?_; intro g7 c7 w7 hown7 hgrow hat hlt; have hb7 := box_far (w1 := wc.drew) HB.out (gr_alloc hgrow) hnp; obtain ⟨_, x7, f7⟩ := cell_at hb7 (k := 0) rfl (by simp))
            all_goals (go_wp2_with fail; go_meet; exact ⟨_, HDd.out.wind HB.out hgrow hown7 HXS.out (okB_up HX.out (by omega)) hat hlt⟩)
          case rest =>
          clear HD4 HB k0 hnp hxs hown kl hqa HX kA hidx hidx2 hidx3 hidx4 HT
          obtain ⟨T2, hd2⟩ := hcut
          have HD5 := Lib.hid hd2
          obtain ⟨vW2, vA2, vS2, hb, _, _, _, pv⟩ := hd2.open
          obtain ⟨gS2, cS2, csS2, rfl, _, _, _, hS1', _, hS3'⟩ := pv.2.2.1.form (by omega)
          have hnp := pv.2.2.1.ne hb (by decide)
          obtain ⟨zs, hzs, howr⟩ := pv.2.2.1
          obtain ⟨r0, hr0, hrow0⟩ := hS3' 0 (by omega)
          obtain ⟨b0, cb0, _, rfl, _, _, _, _, _, _⟩ := hrow0.1.form m0
          have kr0 := (cell_of_row _ gS2 0 _ _ _ hS1').trans hr0
          have HB := Lib.hid hb
          have HZS := Lib.hid hzs
          have HR0 := Lib.hid (show RowOf wc.drew (w.heap.size + 1) wc.drew.heap.size (200 + 2 * (n' + 1)) na vW2 (.slice (some ⟨b0, 0, none⟩) na cb0) from ⟨hrow0.1.kept (grown_drewN wc 1 none) (fun k e => by cases e), fun k hk => ⟨(hrow0.1.lt hk).2, (hrow0.2 k hk).2⟩⟩)
          have k2 := cell_of_row wc _ 2 _ _ _ hb
          have h0n : (0 : Int) < (n' : Int) := by omega
          have h0n' : 0 < n' := by omega
          have kA := (World.cell?_alloc_lt wc (.cells #[.slice (some ⟨b0, 0, none⟩) na cb0] 24) ⟨gp, 2, none⟩ (World.block_lt_of_cell? wc _ k2)).trans k2
          have p9 := hd2.size
          have p8 := hd2.top
          have HDd := Lib.hid HD5.out.drew
          clear pv hd2 hb hzs hr0 hrow0 hS1' hS3' HD5
          go_upto_region 20 with fail
          go_region_law (refine step_append_lies _ rfl _ _ 26 rfl (w.heap.size + 1) 24 iR (.slice none 0 0) 1 24 Tryz.underlying26 hiR zR0 zR1 zR2 rfl (by decide) (.slice (some ⟨gS2, 0, none⟩) n' cS2) n' zs rfl (howr.drew.alloc _) ⟨wc.heap.size, 0, none⟩ 1 1 [.slice (some ⟨b0, 0, none⟩) na cb0] rfl rfl (World.news_of_block (cs := #[.slice (some ⟨b0, 0, none⟩) na cb0]) (t := 24) (fr := (0, 0)) (heap_alloc_new wc.drew _)) (by simp [Value.oneCell']) (by omega) (by unfold maxLen; omega) (by omega) (by simp; omega) _ rfl ?_; intro g7 c7 w7 hown7 hgrow hat hlt; have hb7 := box_far (w1 := wc.drew) HB.out (gr_alloc hgrow) hnp; obtain ⟨_, x7, f7⟩ := cell_at hb7 (k := 2) rfl (by simp))
          all_goals (
            go_wp2_with fail
            go_roundg (24 - (n' + 1))
            case measure => omega
            case rel => exact ⟨n' + 1, _, by omega, by omega, rfl, HDd.out.speed HB.out hgrow hown7 HZS.out HR0.out hlt⟩)
    by_cases e0 : c = 0
    · subst e0
      go_upto_region 6 with fail
      have HDd := Lib.hid (HD3.out.drew)
      obtain ⟨_, _, csW, hW, _, hcW, hBW, hW1, hW2, _⟩ := HPV.out.1.form n0
      cases hW
      have HW1 := Lib.hid hW1
      clear hW1
      go_region_with ((go_at_call 71; refine (d_single 120 _ C g len cap A HDd.out.cur (by omega) (by omega)).mono ?_; rintro e w5 ⟨x, xl, rfl, cu, gr⟩; have hb5 := box_far (w1 := w4.drew) HB.out gr (fun e => by cases e; omega); have k5 := cell_of_row w5 _ 0 _ _ _ hb5; have hw5 := box_far (w1 := w4.drew) HW1.out gr (fun e => by cases e; omega); have st5 := store_at (P := Tryz.prog) hw5 hW2 (show i < cW by omega) (.float .f32 x) rfl))
      all_goals (go_wp2_with fail; go_meet; exact ((HDd.out.draw cu gr).aend (by omega) (by omega) (by omega)).setF hw5 (by omega) xl)
    by_cases e1 : c = 1
    · subst e1
      go_upto_region 8 with fail
      have HDd := Lib.hid (HD3.out.drew)
      obtain ⟨_, _, csA, hA, _, hcA, hBA, hA1, hA2, _⟩ := HPV.out.2.1.form m0
      cases hA
      have HA1 := Lib.hid hA1
      clear hA1
      go_region_with ((go_at_call 72; refine (d_number _ C g len cap A HDd.out.cur).mono ?_; rintro e w5 ⟨x, xl, xh, rfl, cu, gr⟩; have hb5 := box_far (w1 := w4.drew) HB.out gr (fun e => by cases e; omega); have k5 := cell_of_row w5 _ 1 _ _ _ hb5; have hw5 := box_far (w1 := w4.drew) HA1.out gr (fun e => by cases e; omega); obtain ⟨_, x5, f5⟩ := cell_at hw5 hA2 (show k < cA by omega)))
      all_goals (go_wp2_with fail; go_meet; exact ((HDd.out.draw cu gr).aend (by omega) (by omega) (by omega)).setI hw5 (by omega) ⟨xl, xh⟩)
    obtain ⟨_, _, csS, b, cb, csb, hS, _, hcS, hBS, hS1, hS2, hS3, hcb, hcbm, hBb, hb1, hb2, hbe⟩ := HPV.out.rowAt (i := i) (by omega) m0
    have HBE := Lib.hid hbe
    clear hbe
    cases hS
    have hS4 : ∀ w' : World, w'.heap[gS]? = some (.cells csS 24 (0, 0)) → w'.cell? ⟨gS, i, none⟩ = some (.slice (some ⟨b, 0, none⟩) na cb) := fun w' h => (cell_of_row w' gS i _ _ _ h).trans hS3
    have HS1 := Lib.hid hS1
    have HS4 := Lib.hid hS4
    have HB1 := Lib.hid hb1
    have kr := hS4 w4 hS1
    clear hS1 hS4 hb1 hS3
    by_cases e2 : c = 2
    · subst e2
      go_upto_region 10 with fail
      have HDd := Lib.hid (HD3.out.drew)
      go_region_with ((go_at_call 71; refine (d_single 60 _ C g len cap A HDd.out.cur (by omega) (by omega)).mono ?_; rintro e w5 ⟨x, xl, rfl, cu, gr⟩; have hb5 := box_far (w1 := w4.drew) HB.out gr (fun e => by cases e; omega); have k5 := cell_of_row w5 _ 2 _ _ _ hb5; have hs5 := HS4.out w5 (box_far (w1 := w4.drew) HS1.out gr (fun e => by cases e; omega)); have hw5 := box_far (w1 := w4.drew) HB1.out gr (fun e => by cases e; omega); have st5 := store_at (P := Tryz.prog) hw5 hb2 (show k < cb by omega) (.float .f32 x) rfl))
      all_goals (go_wp2_with fail; go_meet; exact ((HDd.out.draw cu gr).aend (by omega) (by omega) (by omega)).setF hw5 (by omega) xl)
    by_cases e7 : c = 7
    · subst e7
      have st5 := store_at (P := Tryz.prog) HB1.out hb2 (show k < cb by omega) (.float .f32 1112014848) rfl
      go_wp2_with fail
      go_meet
      exact (HD3.out.aend (by omega) (by omega) (by omega)).setF HB1.out (by omega) (by omega)
    by_cases e5 : c = 5
    · subst e5
      have q0 := HD3.out.2.2.2.1
      have hgC := HD3.out.2.1.1
      obtain ⟨_, x0, y0⟩ := cell_at q0 (k := 0) rfl (by simp)
      have q1 := heap_set_self (k := 0) q0 (.slice none 0 0)
      obtain ⟨_, x1, y1⟩ := cell_at q1 (k := 1) rfl (by simp)
      have q2 := heap_set_self (k := 1) q1 (.slice none 0 0)
      obtain ⟨_, x2, y2⟩ := cell_at q2 (k := 2) rfl (by simp)
      have q3 := heap_set_self (k := 2) q2 (.slice none 0 0)
      have cu1 := HD3.out.cur.grown_far (grown_set w4 w.heap.size 0 (.slice none 0 0)) (fun e => by cases e; omega) (fun j e => by cases e; omega)
      have cu2 := cu1.grown_far (grown_set _ w.heap.size 1 (.slice none 0 0)) (fun e => by cases e; omega) (fun j e => by cases e; omega)
      have cu3 := cu2.grown_far (grown_set _ w.heap.size 2 (.slice none 0 0)) (fun e => by cases e; omega) (fun j e => by cases e; omega)
      have gr1 := gr_new HD3.out.1 (grown_set w4 w.heap.size 0 (.slice none 0 0)) (fun j e => .inr (by cases e; omega))
      have gr2 := gr_new gr1 (grown_set _ w.heap.size 1 (.slice none 0 0)) (fun j e => .inr (by cases e; omega))
      have gr3 := gr_new gr2 (grown_set _ w.heap.size 2 (.slice none 0 0)) (fun j e => .inr (by cases e; omega))
      have HF := Lib.hid (And.intro q3 (And.intro cu3 gr3))
      clear q0 q1 q2 q3 cu1 cu2 cu3 gr1 gr2 gr3 HD3
      go_wp2_with fail
      obtain ⟨q3, cu, gr⟩ := HF.out
      exact bodyPost_ret (v := .agg #[.slice none 0 0, .slice none 0 0, .slice none 0 0])
        (results_cell_row (p := 2) (ty := 28) (by rfl) _ _ w.heap.size _ #[.slice none 0 0, .slice none 0 0, .slice none 0 0] (0, 0) _ (by rfl) q3 Tryz.underlying28 rfl Tryz.infoP) rfl
        ⟨_, _, _, 0, 0, 0, rfl, ⟨⟨by omega, by omega, by omega⟩, TList.nil _ _ _ _, TList.nil _ _ _ _, TList.nil _ _ _ _⟩, cu, gr⟩
    by_cases e3 : c = 3
    · subst e3
      have hcb1 : 1 < cb := by omega
      have hcb2 : (1 : Int) ≤ (na : Int) := by omega
      obtain ⟨_, x5, f5⟩ := cell_at HS1.out hS2 (show i < cS by omega)
      have HR := Lib.hid (show IsRowF (w.heap.size + 1) w4 (.slice (some ⟨b, 1, none⟩) (na - 1) (cb - 1)) from ⟨na - 1, by omega, _, _, rfl, .inr ⟨b, 1, csb, rfl, hBb, HB1.out, fun j hj => by
        obtain ⟨x, a1, a2, a3, a4⟩ := HBE.out (1 + j) (by omega)
        exact ⟨x, a1, a2, a3.1, a4⟩⟩⟩)
      go_upto_region 12 with fail
      go_region
      go_wp2_with fail
      go_meet
      exact ((HD3.out.aend (by omega) (by omega) (by omega)).setR HS1.out (by omega) HR.out).drew
    by_cases e4 : c = 4
    · subst e4
      have hcS1 : (1 : Int) ≤ (n : Int) := by omega
      obtain ⟨_, x5, f5⟩ := cell_at HB.out (k := 2) rfl (by simp)
      have HT := Lib.hid (HPV.out.polT (by omega) (by omega) (by omega)).2.2.2
      go_upto_region 14 with fail
      go_wp2_with fail
      all_goals go_meet
      · exact HD3.out.setS HB.out (m' := n - 1) ⟨_, _, rfl, .inl (by omega)⟩ (by omega) (by omega) (by omega)
      · exact HD3.out.setS HB.out (m' := n - 1) (HT.out.tail) (by omega) (by omega) (by omega)
    by_cases e8 : c = 8
    · subst e8
      have H0 := Lib.hid (HD3.out.aend (by omega) (by omega) (by omega))
      go_wp2_with fail
      go_loopw [118] (fun cnt wr => ∃ j : Nat, cnt = .int .i64 j ∧ j ≤ na ∧ (∀ k', k' ≠ b → wr.heap[k']? = w4.heap[k']?) ∧ (∃ cs, wr.heap[b]? = some (.cells cs 35 (0, 0)) ∧ cs.size = cb) ∧ AEnd w C g A len cap gp wr) (fun cnt _ => na - (intOf cnt).toNat)
      case atStart => exact ⟨0, rfl, by omega, fun _ _ => rfl, ⟨csb, HB1.out, hb2⟩, H0.out⟩
      case round =>
        clear H0 k0 k1 k2 kr
        obtain ⟨j, rfl, hj, hsame, ⟨cs, hcs, hsz⟩, hend⟩ := hrel
        have hgb : gp ≠ b := fun e => by
          have h1 := HB1.out
          rw [← e, HB.out] at h1
          injection h1 with h1; injection h1 with _ h1; exact absurd h1 (by decide)
        have hSb : gS ≠ b := fun e => by
          have h1 := HB1.out
          rw [← e, HS1.out] at h1
          injection h1 with h1; injection h1 with _ h1; exact absurd h1 (by decide)
        have k2 := cell_of_row wr _ 2 _ _ _ ((hsame gp hgb).trans HB.out)
        have kr := HS4.out wr ((hsame gS hSb).trans HS1.out)
        by_cases hlt : j < na
        · have hlt1 : (j : Int) < (na : Int) := by omega
          have st5 := store_at (P := Tryz.prog) hcs hsz (show j < cb by omega) (.float .f32 0) rfl
          have HN := Lib.hid (And.intro (heap_set_self (k := j) hcs (.float .f32 0)) (And.intro (show (cs.setIfInBounds j (.float .f32 0)).size = cb by simpa using hsz) (And.intro (hend.setF (k := j) hcs (by omega) (show 0 < 4294967296 by omega)) (fun k' (hk' : k' ≠ b) => (Below.heap_setCell wr ⟨b, j, none⟩ (.float .f32 0) k' hk').trans (hsame k' hk')))))
          clear hsame hcs hend
          go_wp2_with fail
          go_roundw
          case rel => exact ⟨j + 1, by go_num, by omega, HN.out.2.2.2, ⟨_, HN.out.1, HN.out.2.1⟩, HN.out.2.2.1⟩
          case measure => simp [intOf]; omega
        · have hlt1 : ¬ (j : Int) < (na : Int) := by omega
          have HE := Lib.hid hend
          clear hsame hcs hend
          go_wp2_with fail
          go_meet
          exact HE.out
    go_wp2_with fail
    go_meet
    exact HD3.out.aend (by omega) (by omega) (by omega)
  case rest =>
  obtain ⟨vW, vA, vS, n', na', m', a1, a2, a3, a4, a5, a6, a7⟩ := hcut
  obtain ⟨AW, cW', rfl, _⟩ := a7.2.1
  obtain ⟨AA, cA', rfl, _⟩ := a7.2.2.1
  obtain ⟨AS, cS', rfl, _⟩ := a7.2.2.2
  have k0 := cell_of_row wc _ 0 _ _ _ a6
  have k1 := cell_of_row wc _ 1 _ _ _ a6
  have k2 := cell_of_row wc _ 2 _ _ _ a6
  have hgC := a2.1
  obtain ⟨_, x0, y0⟩ := cell_at a4 (k := 0) rfl (by simp)
  have q1 := heap_set_self (k := 0) a4 (.slice AW n' cW')
  obtain ⟨_, x1, y1⟩ := cell_at q1 (k := 1) rfl (by simp)
  have q2 := heap_set_self (k := 1) q1 (.slice AA na' cA')
  obtain ⟨_, x2, y2⟩ := cell_at q2 (k := 2) rfl (by simp)
  have q3 := heap_set_self (k := 2) q2 (.slice AS m' cS')
  have g1 := grown_set wc w.heap.size 0 (.slice AW n' cW')
  have g2 := grown_set (wc.setCell ⟨w.heap.size, 0, none⟩ (.slice AW n' cW')) w.heap.size 1 (.slice AA na' cA')
  have g3 := grown_set ((wc.setCell ⟨w.heap.size, 0, none⟩ (.slice AW n' cW')).setCell ⟨w.heap.size, 1, none⟩ (.slice AA na' cA')) w.heap.size 2 (.slice AS m' cS')
  have g13 := grown_trans (grown_trans g1 g2) g3
  have cu3 := a2.grown_far g13 (fun e => by cases e; omega) (fun j e => by cases e; omega)
  have gr3 := gr_new a1 g13 (fun j e => .inr (by cases e; omega))
  have pt3 := (a7.same (grown_hi g13 (fun j e => by cases e; omega))).low (Nat.le_succ _)
  have HF := Lib.hid (And.intro q3 (And.intro cu3 (And.intro gr3 pt3)))
  clear q1 q2 q3 g1 g2 g3 g13 cu3 gr3 pt3 a1 a2 a4 a6 a7 HD3 HPV HB
  go_wp2_with fail
  obtain ⟨q3, cu, gr, pt⟩ := HF.out
  exact bodyPost_ret (v := .agg #[.slice AW n' cW', .slice AA na' cA', .slice AS m' cS'])
    (results_cell_row (p := 2) (ty := 28) (by rfl) _ _ w.heap.size _ #[.slice AW n' cW', .slice AA na' cA', .slice AS m' cS'] (0, 0) _ (by rfl) q3 Tryz.underlying28 rfl Tryz.infoP) rfl
    ⟨_, _, _, n', na', m', rfl, pt, cu, gr⟩
end Go.Proofs.YtonoknbangnleaaGreat
