/- The drawing of polars: l04Polar. -/
import Derived.Test.YtonoknbangnleaaGreatPdA
import Derived.Test.YtonoknbangnleaaGreatPxT
import Derived.Deep.CutBlock
import Derived.Deep.DeepCutAuto
namespace Go.Proofs.YtonoknbangnleaaGreat
open Go.RowKit Ieee
set_option linter.unusedSimpArgs false
set_option linter.unusedVariables false

theorem DSt.open {w w1 : World} {C g : Nat} {A : Option Addr} {len cap T gp M n na m : Nat} (h : DSt w C g A len cap T gp M n na m w1) :
    ∃ vW vA vS, w1.heap[gp]? = some (.cells #[vW, vA, vS] 28 (0, 0)) ∧ w.heap.size < gp ∧ gp < T ∧ T ≤ w1.heap.size ∧ PVal (w.heap.size + 1) T M n na m vW vA vS w1 := by
  obtain ⟨h1, h2, h3, h4, vW, vA, vS, p1, p2, p3, p4, p5⟩ := h
  exact ⟨vW, vA, vS, p1, by omega, p3, p4, p5⟩
theorem DSt.cur {w w1 : World} {C g : Nat} {A : Option Addr} {len cap T gp M n na m : Nat} (h : DSt w C g A len cap T gp M n na m w1) : Cur w1 C g A len cap := h.2.1
/-- How the world is when the drawing of a polar begins: its variable holds one angle. -/
def world0 (w : World) : World := ((w.alloc (.cells #[.slice none 0 0, .slice none 0 0, .slice none 0 0] 28)).alloc (.cells #[.int .i64 0] 3)).alloc (.cells #[.slice none 0 0, .slice (some ⟨w.heap.size + 1, 0, none⟩) 1 1, .slice none 0 0] 28)
theorem DSt.new (w : World) (C g : Nat) (A : Option Addr) (len cap : Nat) (hc : Cur w C g A len cap) :
    DSt w C g A len cap (w.heap.size + 3) (w.heap.size + 2) 0 0 1 0 (world0 w) := by
  have s1 : (w.alloc (.cells #[.slice none 0 0, .slice none 0 0, .slice none 0 0] 28)).heap.size = w.heap.size + 1 := by simp
  have s2 : ((w.alloc (.cells #[.slice none 0 0, .slice none 0 0, .slice none 0 0] 28)).alloc (.cells #[.int .i64 0] 3)).heap.size = w.heap.size + 2 := by simp
  have g1 := World.grownBy_alloc w (.cells #[.slice none 0 0, .slice none 0 0, .slice none 0 0] 28) (some g)
  have o1 := World.ownsRow_lit (e := 3) (size := 1) (base := w.heap.size + 1) (w.alloc (.cells #[.slice none 0 0, .slice none 0 0, .slice none 0 0] 28)) #[.int .i64 0] 1 (by omega) (by simp [maxLen]) rfl
  rw [s1] at o1
  refine ⟨grown_trans (grown_trans g1 (World.grownBy_alloc _ _ _)) (World.grownBy_alloc _ _ _), ((hc.alloc _).alloc _).alloc _, hc.lt, ?_, .slice none 0 0, _, .slice none 0 0, ?_, by omega, by omega, by simp [world0], own_nil _ _ _ _, ⟨_, ?_, o1.alloc _⟩, own_nil _ _ _ _, ?_, ?_, ?_⟩
  · unfold world0
    rw [Below.heap_alloc _ _ _ (by omega), Below.heap_alloc _ _ _ (by omega)]
    exact heap_alloc_new w _
  · unfold world0; rw [← s2]; exact heap_alloc_new _ _
  · intro x hx
    have : x = .int .i64 0 := by simpa using hx
    exact ⟨0, by omega, this⟩
  · intro k hk; cases hk
  · intro k hk; have : w.heap.size + 1 = k := (by cases hk; rfl); omega
  · intro k hk; cases hk
theorem box_far {w1 w7 : World} {gp : Nat} {O : Obj} {r : Option Nat} (hb : w1.heap[gp]? = some O) (hg : w1.grownBy w7 r) (hne : r ≠ some gp) : w7.heap[gp]? = some O :=
  (hg.block gp (by
    rcases Nat.lt_or_ge gp w1.heap.size with h' | h'
    · exact h'
    · rw [Array.getElem?_eq_none h'] at hb; cases hb) (fun e => hne e.symm)).trans hb
theorem gr_alloc {w1 w7 : World} {o : Obj} {r : Option Nat} (hg : (w1.alloc o).grownBy w7 r) : w1.grownBy w7 r := grown_trans (World.grownBy_alloc w1 o r) hg
/-- One angle more, stored. -/
theorem DSt.angle {w w1 w7 : World} {C g : Nat} {A : Option Addr} {len cap T gp M n na : Nat} {o : Obj} {vW vA vS : Value} {g7 c7 : Nat} {xs : List Value} {y : Int} (h : DSt w C g A len cap T gp M n na 0 w1)
    (hb : w1.heap[gp]? = some (.cells #[vW, vA, vS] 28 (0, 0))) (hg : (w1.alloc o).grownBy w7 vA.ownBlock) (hown : w7.ownsRow (w.heap.size + 1) 3 1 (.slice (some ⟨g7, 0, none⟩) (na + 1) c7) (na + 1) (xs ++ [.int .i64 y]))
    (hx : ∀ x ∈ xs, IsN x) (hy : -9223372036854775808 ≤ y ∧ y ≤ 9223372036854775807) (hlt : g7 < w7.heap.size) : ∃ T', DSt w C g A len cap T' gp M n (na + 1) 0 (w7.setCell ⟨gp, 1, none⟩ (.slice (some ⟨g7, 0, none⟩) (na + 1) c7)) := by
  obtain ⟨vW', vA', vS', hb', p1, p2, p3, pv⟩ := h.open
  have he : vW' = vW ∧ vA' = vA ∧ vS' = vS := by rw [hb] at hb'; simp at hb'; exact ⟨hb'.1.symm, hb'.2.1.symm, hb'.2.2.symm⟩
  obtain ⟨rfl, rfl, rfl⟩ := he
  have hg1 := gr_alloc hg
  have pa := pv.far (World.grownBy_alloc w1 o none) (fun k e => by cases e)
  have hs : w1.heap.size ≤ w7.heap.size := hg1.size
  exact ⟨w7.heap.size, h.store hb hg1 (fun j e => ⟨by have := (pv.2.1.lt e).1; omega, fun e' => pv.2.1.ne hb (by decide) (e' ▸ e)⟩)
    (pa.angles (H := w1.heap.size) p3 hg (own_more hown hx ⟨y, hy, rfl⟩) hlt hs) (by omega) (Nat.le_refl _) rfl⟩
theorem PVal.low {w : World} {B B' T M n na m : Nat} {vW vA vS : Value} (h : PVal B T M n na m vW vA vS w) (hB : B' ≤ B) : PVal B' T M n na m vW vA vS w :=
  ⟨h.1.low hB, h.2.1.low hB, (h.2.2.1.low hB).up fun x hx => ⟨hx.1.low hB, hx.2⟩, h.2.2.2⟩
theorem DSt.size {w w1 : World} {C g : Nat} {A : Option Addr} {len cap T gp M n na m : Nat} (h : DSt w C g A len cap T gp M n na m w1) : T ≤ w1.heap.size := by
  obtain ⟨_, _, _, _, _, _, h, _⟩ := h.open
  exact h
theorem DSt.upM {w w1 : World} {C g : Nat} {A : Option Addr} {len cap T gp M n na m : Nat} (h : DSt w C g A len cap T gp M n na m w1) {M' : Nat} (hM : M ≤ M') : DSt w C g A len cap T gp M' n na m w1 := h.up (Nat.le_refl _) h.size hM
theorem DSt.top {w w1 : World} {C g : Nat} {A : Option Addr} {len cap T gp M n na m : Nat} (h : DSt w C g A len cap T gp M n na m w1) : w.heap.size + 1 < T := by
  obtain ⟨_, _, _, _, h0, h, _⟩ := h.open
  omega
/-- One wind more, stored. -/
theorem DSt.wind {w w1 w7 : World} {C g : Nat} {A : Option Addr} {len cap T gp M n na m : Nat} {o : Obj} {vW vA vS : Value} {g7 c7 : Nat} {xs : List Value} {y : Nat} (h : DSt w C g A len cap T gp M n na m w1)
    (hb : w1.heap[gp]? = some (.cells #[vW, vA, vS] 28 (0, 0))) (hg : (w1.alloc o).grownBy w7 vW.ownBlock) (hown : w7.ownsRow (w.heap.size + 1) 35 1 (.slice (some ⟨g7, 0, none⟩) (n + 1) c7) (n + 1) (xs ++ [.float .f32 y]))
    (hx : ∀ x ∈ xs, IsB M x) (hy : okB M y) (hat : vW.ownBlock = some g7 ∨ g7 = (w1.alloc o).heap.size) (hlt : g7 < w7.heap.size) : DSt w C g A len cap w7.heap.size gp M (n + 1) na m (w7.setCell ⟨gp, 0, none⟩ (.slice (some ⟨g7, 0, none⟩) (n + 1) c7)) := by
  obtain ⟨vW', vA', vS', hb', p1, p2, p3, pv⟩ := h.open
  have he : vW' = vW ∧ vA' = vA ∧ vS' = vS := by rw [hb] at hb'; simp at hb'; exact ⟨hb'.1.symm, hb'.2.1.symm, hb'.2.2.symm⟩
  obtain ⟨rfl, rfl, rfl⟩ := he
  have hg1 := gr_alloc hg
  have pa := pv.far (World.grownBy_alloc w1 o none) (fun k e => by cases e)
  have ha := (World.grownBy_alloc w1 o none).size
  have hs := hg.size
  exact h.store hb hg1 (fun j e => ⟨by have := (pv.1.lt e).1; omega, fun e' => pv.1.ne hb (by decide) (e' ▸ e)⟩)
    (pa.winds (H := (w1.alloc o).heap.size) (by omega) (Nat.le_refl _) hg (own_more hown hx ⟨y, hy, rfl⟩) hat hlt hs) (by omega) (Nat.le_refl _) rfl
/-- One row more, stored. -/
theorem DSt.speed {w w1 w7 : World} {C g : Nat} {A : Option Addr} {len cap T gp M n na m : Nat} {o : Obj} {vW vA vS v : Value} {g7 c7 : Nat} {xs : List Value} (h : DSt w C g A len cap T gp M n na m w1)
    (hb : w1.heap[gp]? = some (.cells #[vW, vA, vS] 28 (0, 0))) (hg : (w1.alloc o).grownBy w7 vS.ownBlock) (hown : w7.ownsRow (w.heap.size + 1) 24 1 (.slice (some ⟨g7, 0, none⟩) (m + 1) c7) (m + 1) (xs ++ [v]))
    (hx : ∀ x ∈ xs, RowOf w1 (w.heap.size + 1) T M na vW x) (hv : RowOf w1 (w.heap.size + 1) w1.heap.size M na vW v) (hlt : g7 < w7.heap.size) : DSt w C g A len cap w7.heap.size gp M n na (m + 1) (w7.setCell ⟨gp, 2, none⟩ (.slice (some ⟨g7, 0, none⟩) (m + 1) c7)) := by
  obtain ⟨vW', vA', vS', hb', p1, p2, p3, pv⟩ := h.open
  have he : vW' = vW ∧ vA' = vA ∧ vS' = vS := by rw [hb] at hb'; simp at hb'; exact ⟨hb'.1.symm, hb'.2.1.symm, hb'.2.2.symm⟩
  obtain ⟨rfl, rfl, rfl⟩ := he
  have hg1 := gr_alloc hg
  have hs : w1.heap.size ≤ w7.heap.size := hg1.size
  refine h.store hb hg1 (fun j e => ⟨by have := (pv.2.2.1.lt e).1; omega, fun e' => pv.2.2.1.ne hb (by decide) (e' ▸ e)⟩)
    (pv.speeds (T' := w1.heap.size) p3 hg1 (own_more hown (fun x hx' => ⟨(hx x hx').1, fun k hk => ⟨Nat.lt_of_lt_of_le ((hx x hx').2 k hk).1 p3, ((hx x hx').2 k hk).2⟩⟩) hv |>.up fun x hx => ?_) hlt hs) (by omega) (Nat.le_refl _) rfl
  exact hx
set_option maxRecDepth 100000 in
set_option maxHeartbeats 8000000 in
theorem d_polar (w : World) (C g len cap : Nat) (A : Option Addr) (hc : Cur w C g A len cap) :
    Calls Tryz.prog 70 #[.pointer (some ⟨g, 0, none⟩)] w fun e w' => ∃ (vW vA vS : Value) (n na : Nat), e = .returned (.agg #[vW, vA, vS]) ∧ 1 ≤ n ∧ n ≤ 4 ∧ 2 ≤ na ∧ na ≤ 21 ∧ PVal w.heap.size w'.heap.size 200 n na n vW vA vS w' ∧ Cur w' C g A len cap ∧ w.grownBy w' (some g) := by
  obtain ⟨iI, hiI, zI0, zI1, zI2⟩ := info_parts Tryz.infoI
  obtain ⟨iF, hiF, zF0, zF1, zF2⟩ := info_parts Tryz.infoF
  obtain ⟨iR, hiR, zR0, zR1, zR2⟩ := info_parts Tryz.infoFS
  have HD0 := Lib.hid (DSt.new w C g A len cap hc)
  go_enter Tryz.func70, Tryz.ntmps70
  go_wp2_with fail
  rw [show w.heap.size + 1 + 1 = w.heap.size + 2 from rfl]
  refine (d_below 25 (world0 w) C g len cap A HD0.out.cur (by omega)).mono ?_
  rintro e w1 ⟨x, x0, x1, x2, rfl, cu, gr⟩
  have x3 := x1 (by omega)
  have HD1 := Lib.hid (HD0.out.draw cu gr)
  clear x1 x2 cu gr HD0
  go_wp2_with fail
  refine (d_once 6 _ C g len cap A HD1.out.cur (by omega)).mono ?_
  rintro e w2 ⟨t, rfl, cu, gr⟩
  have HD2 := Lib.hid (HD1.out.draw cu gr)
  clear cu gr HD1
  go_upto_if 17 with fail
  go_cut [4] (fun s4 wx => wx = w2 ∧ ∃ y : Int, s4 = .int .i64 y ∧ 0 ≤ y ∧ y ≤ 45)
  case first =>
    cases t
    · go_wp2_with fail
      go_meet
      exact ⟨rfl, 20 + x, rfl, by omega, by omega⟩
    · go_wp2_with fail
      go_meet
      exact ⟨rfl, 0, rfl, by omega, by omega⟩
  case rest =>
  obtain ⟨rfl, y, rfl, y0, y1⟩ := hcut
  go_upto_block 0 with fail
  go_cut [5] (fun s5 wx => ∃ T na, 1 ≤ na ∧ na ≤ 20 ∧ DSt w C g A len cap T (w.heap.size + 2) 0 0 na 0 wx)
  case first =>
    go_wp2_with fail
    go_loopw [5] (fun a wr => ∃ (y : Int) (T na : Nat), a = .int .i64 y ∧ 0 ≤ y ∧ y ≤ 240 ∧ 1 ≤ na ∧ na ≤ 20 ∧ DSt w C g A len cap T (w.heap.size + 2) 0 0 na 0 wr) (fun a _ => (1000 - intOf a).toNat)
    case atStart => exact ⟨y, _, 1, rfl, by omega, by omega, by omega, by omega, HD2.out⟩
    case round =>
      obtain ⟨y, T, na, rfl, y0, y1, n1, n2, hd⟩ := hrel
      have HD := Lib.hid hd
      obtain ⟨vW, vA, vS, hb, p1, p2, p3, pv⟩ := hd.open
      obtain ⟨gA, cA, csA, rfl, hcA, _, _, hbA, _, _⟩ := pv.2.1.form (by omega)
      obtain ⟨xs, hxs, hown⟩ := pv.2.1
      have hnp := pv.2.1.ne hb (by decide)
      have k1 := cell_of_row wr _ 1 _ _ _ hb
      clear hd pv
      by_cases e1 : (0 : Int) < y
      · by_cases e2 : y < 180
        · by_cases e3 : (na : Int) < 20
          · go_wp2_with (at_builtin; refine wpList_append_lies _ rfl _ _ 25 rfl (w.heap.size + 1) 3 iI (.int .i64 0) 1 8 Tryz.underlying25 hiI zI0 zI1 zI2 rfl (by decide) _ na xs rfl (hown.alloc _) ⟨wr.heap.size, 0, none⟩ 1 1 [.int .i64 y] rfl rfl (World.news_of_block (cs := #[.int .i64 y]) (t := 3) (fr := (0, 0)) (heap_alloc_new wr _)) (by simp [Value.oneCell']) (by omega) (by unfold maxLen; omega) (by omega) (by simp; omega) _ rfl ?_; intro g7 c7 w7 hown7 hgrow hat hlt; have hb7 := box_far hb (gr_alloc hgrow) hnp; obtain ⟨_, x7, f7⟩ := cell_at hb7 (k := 1) rfl (by simp))
            obtain ⟨T', HD3⟩ := HD.out.angle hb hgrow hown7 hxs (by omega) hlt
            refine (d_below 50 _ C g len cap A HD3.cur (by omega)).mono ?_
            rintro e w8 ⟨z, z0, z1, z2, rfl, cu, gr⟩
            have z3 := z1 (by omega)
            have HD4 := Lib.hid (HD3.draw cu gr)
            clear z1 z2 cu gr HD3 hb7 x7 f7 hown7 hgrow hat hlt hown k1 hb HD
            go_wp2
            go_roundw
            case rel => exact ⟨y + 5 + z, T', na + 1, by go_num, by omega, by omega, by omega, by omega, HD4.out⟩
            case measure => simp [intOf]; omega
          · go_wp2_with fail
            go_meet
            exact ⟨T, na, n1, n2, HD.out⟩
        · go_wp2_with fail
          go_meet
          exact ⟨T, na, n1, n2, HD.out⟩
      · go_wp2_with fail
        go_meet
        exact ⟨T, na, n1, n2, HD.out⟩
  case rest =>
  obtain ⟨T, na, n1, n2, hd⟩ := hcut
  have HD := Lib.hid hd
  obtain ⟨vW, vA, vS, hb, p1, p2, p3, pv⟩ := hd.open
  obtain ⟨gA, cA, csA, rfl, hcA, _, _, hbA, _, _⟩ := pv.2.1.form (by omega)
  obtain ⟨xs, hxs, hown⟩ := pv.2.1
  have hnp := pv.2.1.ne hb (by decide)
  have k1 := cell_of_row wc _ 1 _ _ _ hb
  clear hd pv
  go_wp2_with (at_builtin; refine wpList_append_lies _ rfl _ _ 25 rfl (w.heap.size + 1) 3 iI (.int .i64 0) 1 8 Tryz.underlying25 hiI zI0 zI1 zI2 rfl (by decide) _ na xs rfl (hown.alloc _) ⟨wc.heap.size, 0, none⟩ 1 1 [.int .i64 180] rfl rfl (World.news_of_block (cs := #[.int .i64 180]) (t := 3) (fr := (0, 0)) (heap_alloc_new wc _)) (by simp [Value.oneCell']) (by omega) (by unfold maxLen; omega) (by omega) (by simp; omega) _ rfl ?_; intro g7 c7 w7 hown7 hgrow hat hlt; have hb7 := box_far hb (gr_alloc hgrow) hnp; obtain ⟨_, x7, f7⟩ := cell_at hb7 (k := 1) rfl (by simp))
  obtain ⟨T', HD3⟩ := HD.out.angle hb hgrow hown7 hxs (by omega) hlt
  refine (d_below 4 _ C g len cap A HD3.cur (by omega)).mono ?_
  rintro e w8 ⟨z, z0, z1, z2, rfl, cu, gr⟩
  have z3 := z1 (by omega)
  have HD4 := Lib.hid (HD3.draw cu gr)
  clear z1 z2 cu gr HD3 hb7 x7 f7 hown7 hgrow hat hlt hown k1 hb HD
  go_wp2_with fail
  refine (d_below 4 _ C g len cap A HD4.out.cur (by omega)).mono ?_
  rintro e w9 ⟨r0, q0, q1, q2, rfl, cu, gr⟩
  have q3 := q1 (by omega)
  have HD5 := Lib.hid ((HD4.out.draw cu gr).upM (M' := 200) (by omega))
  have HX := Lib.hid (ofInt_ok (n := 1 + z) (by omega) (by omega))
  obtain ⟨r0, rfl⟩ : ∃ k : Nat, r0 = k := ⟨r0.toNat, by omega⟩
  clear q1 q2 cu gr HD4
  generalize floatOfInt .f32 (1 + z) = x0 at *
  go_wp2_with fail
  go_loopw [6, 7] (fun a b wr => ∃ (x r k T : Nat), a = .float .f32 x ∧ b = .int .i64 r ∧ k + r ≤ 4 ∧ 1 ≤ k + r ∧ okB (16 + 32 * k) x ∧ DSt w C g A len cap T (w.heap.size + 2) 200 k (na + 1) k wr) (fun _ b _ => (intOf b).toNat)
  case atStart => exact ⟨x0, 1 + r0, 0, T', rfl, by go_num, by omega, by omega, HX.out, HD5.out⟩
  case round =>
    clear HD5 HX
    obtain ⟨x, r, k, T, rfl, rfl, hk4, hk1, hx, hd⟩ := hrel
    have HX := Lib.hid hx
    clear hx
    generalize hna : na + 1 = na' at *
    have na1 : 2 ≤ na' := by omega
    have na2 : na' ≤ 21 := by omega
    clear hna
    by_cases hr : 0 < r
    · have hr1 : (0 : Int) < (r : Int) := by omega
      have HD := Lib.hid hd
      obtain ⟨vW, vA, vS, hb, p1, p2, p3, pv⟩ := hd.open
      obtain ⟨A0, cW, rfl, _⟩ := pv.1.value
      obtain ⟨xs, hxs, hown⟩ := pv.1
      have hnp := pv.1.ne hb (by decide)
      have k0 := cell_of_row wr _ 0 _ _ _ hb
      clear hd pv
      go_wp2_with (at_builtin; refine wpList_append_lies _ rfl _ _ 24 rfl (w.heap.size + 1) 35 iF (.float .f32 0) 1 4 Tryz.underlying24 hiF zF0 zF1 zF2 rfl (by decide) _ k xs rfl (hown.alloc _) ⟨wr.heap.size, 0, none⟩ 1 1 [.float .f32 x] rfl rfl (World.news_of_block (cs := #[.float .f32 x]) (t := 35) (fr := (0, 0)) (heap_alloc_new wr _)) (by simp [Value.oneCell']) (by omega) (by unfold maxLen; omega) (by omega) (by simp; omega) _ rfl ?_; intro g7 c7 w7 hown7 hgrow hat hlt; have hb7 := box_far hb (gr_alloc hgrow) hnp; obtain ⟨_, x7, f7⟩ := cell_at hb7 (k := 0) rfl (by simp))
      have HD1 := Lib.hid (HD.out.wind hb hgrow hown7 (fun y hy => hxs y hy) (okB_up HX.out (by omega)) hat hlt)
      clear hb7 x7 f7 hown7 hgrow hat hlt hown k0 hb HD hnp hxs
      generalize hT1 : w7.heap.size = T1 at *
      have hsz : (w7.setCell ⟨w.heap.size + 2, 0, none⟩ (.slice (some ⟨g7, 0, none⟩) (k + 1) c7)).heap.size = T1 := by rw [← hT1]; simp [World.setCell]
      generalize w7.setCell ⟨w.heap.size + 2, 0, none⟩ (.slice (some ⟨g7, 0, none⟩) (k + 1) c7) = w10 at *
      have HR1 := Lib.hid (show OwnV (IsB 200) 35 (w10.alloc (.cells #[] 35)) T1 (.slice (some ⟨w10.heap.size, 0, none⟩) 0 0) 0 from ⟨[], (fun x hx => by cases hx), World.ownsRow_made w10 #[] 0 (by omega) (by simp [maxLen]) rfl⟩)
      rw [hsz] at HR1
      have HD2 := Lib.hid (HD1.out.alloc (.cells #[] 35))
      clear HD1 hT1 hsz
      go_loopw [8, 9] (fun v kk wr => ∃ j : Nat, kk = .int .i64 j ∧ j ≤ na' ∧ OwnV (IsB 200) 35 wr T1 v j ∧ DSt w C g A len cap T1 (w.heap.size + 2) 200 (k + 1) na' k wr) (fun _ kk _ => na' - (intOf kk).toNat)
      case atStart => exact ⟨0, rfl, by omega, HR1.out, HD2.out⟩
      case round =>
        clear HR1 HD2
        obtain ⟨jj, rfl, hjj, hrow, hd⟩ := hrel
        have HD := Lib.hid hd
        have HR := Lib.hid hrow
        obtain ⟨vW, vA, vS, hb, p1, p2, p3, pv⟩ := hd.open
        obtain ⟨A1, c1, rfl, _⟩ := pv.2.1.value
        have k1 := cell_of_row wr _ 1 _ _ _ hb
        clear hd pv
        by_cases hlt : jj < na'
        · have hlt1 : (jj : Int) < (na' : Int) := by omega
          clear hb hrow
          go_wp2_with fail
          refine (d_below 57 _ C g len cap A HD.out.cur (by omega)).mono ?_
          rintro e w11 ⟨q, q0, q1, q2, rfl, cu, gr⟩
          have q3 := q1 (by omega)
          have HR1 := Lib.hid (HR.out.kept gr fun k hk e => by cases hk; have := HR.out.lt e; have := HD.out.2.2.1; have := HD.out.top; omega)
          have HD1 := Lib.hid (HD.out.draw cu gr)
          clear q1 q2 cu gr HR HD k1
          obtain ⟨s0, hq, hs0⟩ := quo16_ok (n := 8 + q) (by omega) (by omega)
          have hqr := fun w => run_float_arith (P := Tryz.prog) w .quo 35 .f32 _ _ _ hq
          have HS := Lib.hid hs0
          clear hq hs0
          go_upto_region 20 with fail
          go_cut [83] (fun s83 wx => ∃ t : Bool, s83 = .bool t ∧ OwnV (IsB 200) 35 wx T1 u8 jj ∧ DSt w C g A len cap T1 (w.heap.size + 2) 200 (k + 1) na' k wx)
          case first =>
            by_cases hj : jj = 0
            · subst hj
              go_wp2_with fail
              refine (d_once 8 _ C g len cap A HD1.out.cur (by omega)).mono ?_
              rintro e w12 ⟨t, rfl, cu, gr⟩
              have HR2 := Lib.hid (HR1.out.kept gr fun k hk e => by cases hk; have := HR1.out.lt e; have := HD1.out.2.2.1; have := HD1.out.top; omega)
              have HD2 := Lib.hid (HD1.out.draw cu gr)
              clear cu gr HR1 HD1
              go_wp2_with fail
              go_meet
              exact ⟨_, rfl, HR2.out, HD2.out⟩
            · have hj0 : ((jj : Int) == 0) = false := by rw [beq_eq_false_iff_ne]; omega
              have hj1 : ¬ (jj : Int) = 0 := by omega
              go_wp2_with fail
              go_meet
              exact ⟨_, rfl, HR1.out, HD1.out⟩
          case rest =>
          obtain ⟨t, rfl, hr2, hd2⟩ := hcut
          have HR2 := Lib.hid hr2
          have HD2 := Lib.hid hd2
          clear hr2 hd2 HR1 HD1
          go_upto_if 83 with fail
          go_cut [10] (fun s10 wx => wx = wc ∧ ∃ s1, s10 = .float .f32 s1 ∧ okB 16 s1)
          case first =>
            cases t
            · go_wp2_with fail
              go_meet
              exact ⟨rfl, _, rfl, HS.out⟩
            · go_wp2_with fail
              go_meet
              exact ⟨rfl, _, rfl, zero_ok 16⟩
          case rest =>
          obtain ⟨rfl, s1, rfl, hs1⟩ := hcut
          have HS1 := Lib.hid hs1
          clear hs1 HS hqr
          go_upto_if 85 with fail
          go_cut [10] (fun s10 wx => ∃ s2, s10 = .float .f32 s2 ∧ okB 32 s2 ∧ OwnV (IsB 200) 35 wx T1 u8 jj ∧ DSt w C g A len cap T1 (w.heap.size + 2) 200 (k + 1) na' k wx)
          case first =>
            cases hg : (FloatKind.f32.format.order x 1084227584 == some .gt)
            · go_wp2_with fail
              go_meet
              exact ⟨_, rfl, okB_up HS1.out (by omega), HR2.out, HD2.out⟩
            · go_wp2_with fail
              refine (d_below 40 _ C g len cap A HD2.out.cur (by omega)).mono ?_
              rintro e w13 ⟨q', q0', q1', q2', rfl, cu, gr⟩
              have q3' := q1' (by omega)
              have HR3 := Lib.hid (HR2.out.kept gr fun k hk e => by cases hk; have := HR2.out.lt e; have := HD2.out.2.2.1; have := HD2.out.top; omega)
              have HD3 := Lib.hid (HD2.out.draw cu gr)
              clear q1' q2' cu gr HR2 HD2
              obtain ⟨v0, hq, hv0⟩ := quo16_ok (n := q') (by omega) (by omega)
              obtain ⟨s2, hs2, hs2'⟩ := add_bd HS1.out hv0 (by omega)
              have hqr := fun w => run_float_arith (P := Tryz.prog) w .quo 35 .f32 _ _ _ hq
              have hqa := fun w => run_float_arith (P := Tryz.prog) w .add 35 .f32 _ _ _ hs2
              have HS2 := Lib.hid hs2'
              clear hq hs2 hs2' hv0
              go_wp2_with fail
              go_meet
              exact ⟨_, rfl, HS2.out, HR3.out, HD3.out⟩
          case rest =>
          obtain ⟨s, rfl, hs2, hr3, hd3⟩ := hcut
          have HS2 := Lib.hid hs2
          have HD3 := Lib.hid hd3
          have HR3 := Lib.hid hr3
          obtain ⟨ys, hys, hrow⟩ := hr3
          have HYS := Lib.hid hys
          have p9 := hd3.size
          clear hs2 hd3 HR2 HD2 HS1 hys
          go_wp2_with (at_builtin; refine wpList_append_lies _ rfl _ _ 24 rfl T1 35 iF (.float .f32 0) 1 4 Tryz.underlying24 hiF zF0 zF1 zF2 rfl (by decide) _ jj ys rfl (hrow.alloc _) ⟨wc.heap.size, 0, none⟩ 1 1 [.float .f32 s] rfl rfl (World.news_of_block (cs := #[.float .f32 s]) (t := 35) (fr := (0, 0)) (heap_alloc_new wc _)) (by simp [Value.oneCell']) (by omega) (by unfold maxLen; omega) (by omega) (by simp; omega) _ rfl ?_; intro g7 c7 w7 hown7 hgrow hat hlt)
          have HD4 := Lib.hid (HD3.out.step (gr_alloc hgrow) (fun j e => (HR3.out.lt e).1))
          have HR4 := Lib.hid (show OwnV (IsB 200) 35 w7 T1 (.slice (some ⟨g7, 0, none⟩) (jj + 1) c7) (jj + 1) from own_more hown7 HYS.out ⟨s, okB_up HS2.out (by omega), rfl⟩)
          clear hown7 hgrow hat hlt hrow HR3 HD3
          go_roundw
          case rel => exact ⟨jj + 1, by go_num, by omega, HR4.out, HD4.out⟩
          case measure => simp [intOf]; omega
        · obtain rfl : jj = na' := by omega
          have hlt1 : ¬ (jj : Int) < (jj : Int) := by omega
          obtain ⟨b, cb, csb, rfl, hcb, _, hbT, hbb, _, _⟩ := hrow.form (by omega)
          obtain ⟨vW', vA', vS', hb', _, _, _, pv⟩ := HD.out.open
          have he : vW' = vW ∧ vA' = .slice A1 jj c1 ∧ vS' = vS := by rw [hb] at hb'; simp at hb'; exact ⟨hb'.1.symm, hb'.2.1.symm, hb'.2.2.symm⟩
          obtain ⟨rfl, rfl, rfl⟩ := he
          obtain ⟨A2, cS, rfl, _⟩ := pv.2.2.1.value
          have HV := Lib.hid (show RowOf wr (w.heap.size + 1) wr.heap.size 200 jj vW' (.slice (some ⟨b, 0, none⟩) jj cb) from ⟨HR.out.low (by omega), fun j hj => ⟨(HR.out.lt hj).2, fun e => by have := pv.2.2.2.1 _ e; have := (HR.out.lt hj).1; omega⟩⟩)
          have hnr := pv.2.2.1.ne hb (by decide)
          obtain ⟨zs, hzs, howr⟩ := pv.2.2.1
          have HZS := Lib.hid hzs
          have k2 := cell_of_row wr _ 2 _ _ _ hb
          have HB := Lib.hid hb
          clear hb' pv hrow hzs hbb HR
          go_wp2_with (at_builtin; refine wpList_append_lies _ rfl _ _ 26 rfl (w.heap.size + 1) 24 iR (.slice none 0 0) 1 24 Tryz.underlying26 hiR zR0 zR1 zR2 rfl (by decide) _ k zs rfl (howr.alloc _) ⟨wr.heap.size, 0, none⟩ 1 1 [.slice (some ⟨b, 0, none⟩) jj cb] rfl rfl (World.news_of_block (cs := #[.slice (some ⟨b, 0, none⟩) jj cb]) (t := 24) (fr := (0, 0)) (heap_alloc_new wr _)) (by simp [Value.oneCell']) (by omega) (by unfold maxLen; omega) (by omega) (by simp; omega) _ rfl ?_; intro g7 c7 w7 hown7 hgrow hat hlt; have hb7 := box_far hb (gr_alloc hgrow) hnr; obtain ⟨_, x7, f7⟩ := cell_at hb7 (k := 2) rfl (by simp))
          have HD5 := Lib.hid (HD.out.speed HB.out hgrow hown7 HZS.out HV.out hlt)
          clear hb7 x7 f7 hown7 hgrow hat hlt howr k1 k2 hb HD hnr HZS HV HB
          refine (d_below 40 _ C g len cap A HD5.out.cur (by omega)).mono ?_
          rintro e w14 ⟨q, q0, q1, q2, rfl, cu, gr⟩
          have q3 := q1 (by omega)
          have HD6 := Lib.hid (HD5.out.draw cu gr)
          clear q1 q2 cu gr HD5
          obtain ⟨v0, hq, hv0⟩ := quo8_ok (n := 1 + q) (by omega) (by omega)
          obtain ⟨s2, hs2, hs2'⟩ := add_bd HX.out hv0 (by omega)
          have hqr := fun w => run_float_arith (P := Tryz.prog) w .quo 35 .f32 _ _ _ hq
          have hqa := fun w => run_float_arith (P := Tryz.prog) w .add 35 .f32 _ _ _ hs2
          have HX2 := Lib.hid (okB_up hs2' (M' := 16 + 32 * (k + 1)) (by omega))
          clear hq hs2 hs2' hv0
          go_wp2_with fail
          go_roundw
          case rel => exact ⟨s2, r - 1, k + 1, _, rfl, by go_num, by omega, by omega, HX2.out, HD6.out⟩
          case measure => simp [intOf]; omega
    · obtain rfl : r = 0 := by omega
      have hr1 : ¬ (0 : Int) < ((0 : Nat) : Int) := by omega
      have hk : 1 ≤ k := by omega
      have hk' : k ≤ 4 := by omega
      have HD := Lib.hid hd
      obtain ⟨vW, vA, vS, hb, p1, p2, p3, pv⟩ := hd.open
      obtain ⟨gW, cW, _, rfl, _, _, _, _, _, _⟩ := pv.1.form (by omega)
      obtain ⟨gA', cA', _, rfl, _, _, _, _, _, _⟩ := pv.2.1.form (by omega)
      obtain ⟨gS, cS, _, rfl, _, _, _, _, _, _⟩ := pv.2.2.1.form (by omega)
      have k0 := cell_of_row wr _ 0 _ _ _ hb
      have k1 := cell_of_row wr _ 1 _ _ _ hb
      have k2 := cell_of_row wr _ 2 _ _ _ hb
      have q0 := hd.2.2.2.1
      obtain ⟨_, x0, y0⟩ := cell_at q0 (k := 0) rfl (by simp)
      have q1 := heap_set_self (k := 0) q0 (.slice (some ⟨gW, 0, none⟩) k cW)
      obtain ⟨_, x1, y1⟩ := cell_at q1 (k := 1) rfl (by simp)
      have q2 := heap_set_self (k := 1) q1 (.slice (some ⟨gA', 0, none⟩) na' cA')
      obtain ⟨_, x2, y2⟩ := cell_at q2 (k := 2) rfl (by simp)
      have q3 := heap_set_self (k := 2) q2 (.slice (some ⟨gS, 0, none⟩) k cS)
      have pv1 := pv.far (grown_set wr w.heap.size 0 (.slice (some ⟨gW, 0, none⟩) k cW)) (fun j e => .inl (by cases e; omega))
      have pv2 := pv1.far (grown_set _ w.heap.size 1 (.slice (some ⟨gA', 0, none⟩) na' cA')) (fun j e => .inl (by cases e; omega))
      have pv3 := pv2.far (grown_set _ w.heap.size 2 (.slice (some ⟨gS, 0, none⟩) k cS)) (fun j e => .inl (by cases e; omega))
      have hgC := hd.2.1.1
      have hgl := hd.2.2.1
      have cu1 := hd.cur.grown_far (grown_set wr w.heap.size 0 (.slice (some ⟨gW, 0, none⟩) k cW)) (fun e => by cases e; omega) (fun j e => by cases e; omega)
      have cu2 := cu1.grown_far (grown_set _ w.heap.size 1 (.slice (some ⟨gA', 0, none⟩) na' cA')) (fun e => by cases e; omega) (fun j e => by cases e; omega)
      have cu3 := cu2.grown_far (grown_set _ w.heap.size 2 (.slice (some ⟨gS, 0, none⟩) k cS)) (fun e => by cases e; omega) (fun j e => by cases e; omega)
      have gr1 := gr_new hd.1 (grown_set wr w.heap.size 0 (.slice (some ⟨gW, 0, none⟩) k cW)) (fun j e => .inr (by cases e; omega))
      have gr2 := gr_new gr1 (grown_set _ w.heap.size 1 (.slice (some ⟨gA', 0, none⟩) na' cA')) (fun j e => .inr (by cases e; omega))
      have gr3 := gr_new gr2 (grown_set _ w.heap.size 2 (.slice (some ⟨gS, 0, none⟩) k cS)) (fun j e => .inr (by cases e; omega))
      have HF := Lib.hid (And.intro q3 (And.intro (pv3.low (Nat.le_succ _)) (And.intro cu3 (And.intro gr3 p3))))
      clear pv pv1 pv2 pv3 cu1 cu2 cu3 gr1 gr2 gr3 q0 q1 q2 q3 HD hd
      go_wp2_with fail
      obtain ⟨q3, pv, cu, gr, p3⟩ := HF.out
      exact bodyPost_ret (v := .agg #[.slice (some ⟨gW, 0, none⟩) k cW, .slice (some ⟨gA', 0, none⟩) na' cA', .slice (some ⟨gS, 0, none⟩) k cS])
        (results_cell_row (p := 2) (ty := 28) (by rfl) _ _ w.heap.size _ #[.slice (some ⟨gW, 0, none⟩) k cW, .slice (some ⟨gA', 0, none⟩) na' cA', .slice (some ⟨gS, 0, none⟩) k cS] (0, 0) _ (by rfl) q3 Tryz.underlying28 rfl Tryz.infoP) rfl ⟨_, _, _, rfl, k, hk, hk', na', na1, na2, pv.up (by simpa [World.setCell] using p3) (Nat.le_refl _), cu, gr⟩
end Go.Proofs.YtonoknbangnleaaGreat
