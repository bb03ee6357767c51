/- The drawing of tracks: l09Track. -/
import Derived.Test.YthahakefmpajfaaLiH
import Derived.Test.YthahakefmpajfaaLiC
namespace Go.Proofs.Ythahakefmpajfaa
open Go.RowKit
set_option linter.unusedVariables false
set_option linter.unusedSimpArgs false

/-- A list of sights of the call's own. -/
def IsI (_ : Nat) (x : Value) : Prop := ∃ n, x = .int .i64 n
theorem sg_cells (a b c : Int) : ∀ (k : Nat) (x : Value), [Value.int .i64 a, .int .i64 b, .int .i64 c][k]? = some x → IsI (k % 3) x := fun k x hx => by
  match k with
  | 0 => cases hx; exact ⟨a, rfl⟩
  | 1 => cases hx; exact ⟨b, rfl⟩
  | 2 => cases hx; exact ⟨c, rfl⟩
  | k + 3 => simp at hx
def OwnG (w : World) (B : Nat) (v : Value) (n : Nat) : Prop := OwnC IsI 86 3 w B v n
theorem Try.infoSgZ : (Try.prog.info? 86).map (fun i => (i.zero, i.size, i.bytes)) = some (some (.agg #[.int .i64 0, .int .i64 0, .int .i64 0]), 3, 24) := by kernel_rfl
/-- What such a list holds. -/
theorem OwnG.sigs {w : World} {B n : Nat} {v : Value} (h : OwnG w B v n) : ∃ (A : Option Addr) (g cap : Nat) (f : Nat → Sg), v = .slice A n cap ∧ (0 < n → A = some ⟨g, 0, none⟩ ∧ B ≤ g) ∧ SigsIn w g 0 n f := by
  rcases Nat.eq_zero_or_pos n with rfl | hn
  · obtain ⟨A, cap, hv, _⟩ := h.value
    exact ⟨A, 0, cap, fun _ => ((0, 0), 0), hv, fun h => by omega, fun j hj => by omega⟩
  · obtain ⟨g, cap, cs, hv, _, _, hB, hg, hs, hc⟩ := h.form hn
    have key : ∀ c : Nat, ∃ m : Int, c < n * 3 → cs[c]? = some (.int .i64 m) := fun c => by
      by_cases hcn : c < n * 3
      · obtain ⟨x, hx, m, rfl⟩ := hc c hcn
        exact ⟨m, fun _ => hx⟩
      · exact ⟨0, fun h => absurd h hcn⟩
    refine ⟨some ⟨g, 0, none⟩, g, cap, fun j => (((key (j * 3)).choose, (key (j * 3 + 1)).choose), (key (j * 3 + 2)).choose), hv, fun _ => ⟨rfl, hB⟩, fun j hj => ?_⟩
    have row : ∀ k, w.cell? ⟨g, k, none⟩ = cs[k]? := fun k => cell_of_row w g k _ _ _ hg
    refine ⟨?_, ?_, ?_⟩
    · rw [Nat.zero_add, row]; exact (key (j * 3)).choose_spec (by omega)
    · rw [Nat.zero_add, row]; exact (key (j * 3 + 1)).choose_spec (by omega)
    · rw [Nat.zero_add, row]; exact (key (j * 3 + 2)).choose_spec (by omega)
set_option maxRecDepth 100000 in
set_option maxHeartbeats 4000000 in
theorem d_track (w : World) (B g len cap : Nat) (A : Option Addr) (hc : Cur w B g A len cap) :
    Calls Try.prog 53 #[.pointer (some ⟨g, 0, none⟩)] w fun e w' => ∃ (n : Nat) (v : Value), n ≤ 201 ∧ e = .returned v ∧ OwnG w' w.heap.size v n ∧ Cur w' B g A len cap ∧ w.grownBy w' (some g) := by
  obtain ⟨i0, hi, hz0, hz1, hz2⟩ := info_parts Try.infoSgZ
  have hgl := hc.lt
  have hBg := hc.1
  go_enter Try.func53, Try.ntmps53
  go_wp2_with fail
  have hown0 : OwnG (w.alloc (.cells #[] 86)) w.heap.size (.slice (some ⟨w.heap.size, 0, none⟩) 0 0) 0 := ⟨[], (fun c x hx => by simp at hx), by simp, .inr ⟨w.heap.size, 0, #[], rfl, Nat.le_refl _, heap_alloc_new w _, by simp, by simp [maxLen], by simp, by simp⟩⟩
  have hne0 : ∀ k, some g = some k → (Value.slice (some ⟨w.heap.size, 0, none⟩) 0 0).ownBlock ≠ some k := fun k ek e => by cases ek; have := (hown0.lt e).1; omega
  have gr0 := World.grownBy_alloc w (.cells #[] 86) (some g)
  refine (d_below 9 _ B g len cap A (hc.alloc _) (by omega)).mono ?_
  rintro e w1 ⟨x, x0, x1, x2, rfl, cur1, gr1⟩
  have x3 := x1 (by omega)
  clear x1 x2
  have hown1 := hown0.kept gr1 hne0
  have gr01 := grown_trans gr0 gr1
  clear gr0 gr1 hown0
  go_wp2_with fail
  refine (d_once 40 _ _ g len cap A cur1 (by omega)).mono ?_
  rintro e w2 ⟨t, rfl, cur2, gr2⟩
  have hown2 := hown1.kept gr2 hne0
  have gr02 := grown_trans gr01 gr2
  clear gr01 gr2 hown1 cur1
  cases t
  · obtain ⟨r0, rfl⟩ : ∃ r : Nat, x = r := ⟨x.toNat, by omega⟩
    go_wp2_with fail
    refine (d_below 300 _ _ g len cap A cur2 (by omega)).mono ?_
    rintro e w3 ⟨t0, _, _, _, rfl, curS, gr3⟩
    have hownS := hown2.kept gr3 hne0
    have grS := grown_trans gr02 gr3
    clear gr02 gr3 hown2 cur2
    clear hne0
    have HS := Lib.hid hownS
    clear hownS
    go_wp2
    go_loopw [3, 4, 5] (fun v m z wr => ∃ (k r : Nat) (tm : Int), k + r ≤ 201 ∧ m = .int .i64 r ∧ z = .int .i64 tm ∧ OwnG wr w.heap.size v k ∧ Cur wr B g A len cap ∧ w.grownBy wr (some g))
      (fun _ m _ _ => (intOf m).toNat)
    case atStart => exact ⟨0, r0, _, by omega, rfl, rfl, HS.out, curS, grS⟩
    case round =>
      obtain ⟨k, r, tm, hk, rfl, rfl, hown, cur, hgr⟩ := hrel
      have HO := Lib.hid hown
      by_cases hlt : 0 < r
      · have hlt' : (0 : Int) < (r : Int) := by omega
        have hne : ∀ k, some g = some k → u3.ownBlock ≠ some k := fun k ek e => by cases ek; have := (hown.lt e).1; omega
        have hne9 : u3.ownBlock ≠ some g := hne g rfl
        clear hown
        go_wp2_with fail
        refine (d_place _ _ g len cap A cur).mono ?_
        rintro e w5 ⟨⟨p1, p2⟩, rfl, cur5, gr5⟩
        dsimp only at *
        have hown5 := HO.out.kept gr5 hne
        have hlo : ∀ j, u3.ownBlock = some j → w.heap.size ≤ j := fun j e => (hown5.lt e).1
        obtain ⟨xs, hxs, hown6⟩ := hown5
        have hxl : xs.length = k * 3 := hown6.1
        have hgr5 := grown_trans hgr gr5
        have hsz5 := hgr5.size
        have HX := Lib.hid (And.intro hxs hlo)
        clear hgr cur gr5 hne HO hxs hlo
        go_wp2_with (at_builtin; refine wpList_append_own _ rfl _ _ 37 rfl w.heap.size 86 i0 (.agg #[.int .i64 0, .int .i64 0, .int .i64 0]) 3 24 Try.underlying37 hi hz0 hz1 hz2 rfl (by decide) _ _ _ rfl (hown6.alloc _) ⟨w5.heap.size, 0, none⟩ 1 1 [.int .i64 p1, .int .i64 p2, .int .i64 tm] rfl rfl (World.news_of_block (cs := #[.int .i64 p1, .int .i64 p2, .int .i64 tm]) (t := 86) (fr := (0, 0)) (heap_alloc_new w5 _)) (by simp [Value.oneCell']) (by unfold maxLen; omega) (by omega) (by simp; omega) ?_; intro v' w7 hown7 hgrow _)
        have hgA := World.grownBy_alloc w5 (.cells #[.int .i64 p1, .int .i64 p2, .int .i64 tm] 86) none
        have cur7 : Cur w7 B g A len cap := (cur5.alloc _).grown_far hgrow hne9 (fun j hj => by have := HX.out.2 j hj; omega)
        have hgr7 : w.grownBy w7 (some g) := ⟨hgrow.os.trans hgr5.os, hgrow.tape.trans hgr5.tape, hgrow.output.trans hgr5.output, Nat.le_trans hgr5.size (Nat.le_trans hgA.size hgrow.size), fun j hj hr =>
          (hgrow.block j (Nat.lt_of_lt_of_le hj (Nat.le_trans hgr5.size hgA.size)) (fun e => by have := HX.out.2 j e.symm; omega)).trans ((hgA.block j (Nat.lt_of_lt_of_le hj hgr5.size) (by simp)).trans (hgr5.block j hj hr))⟩
        have hon : OwnG w7 w.heap.size v' (k + 1) := own_add hown7 HX.out.1 (sg_cells p1 p2 tm) (by omega)
        clear hown6 hown7 hgr5 cur5 hgrow hgA hne9 HX
        have hne7 : ∀ k, some g = some k → v'.ownBlock ≠ some k := fun k ek e => by cases ek; have := (hon.lt e).1; omega
        have HN7 := Lib.hid (And.intro hon hne7)
        clear hon hne7
        go_wp2_with fail
        refine (d_below 40 _ _ g len cap A cur7 (by omega)).mono ?_
        rintro e w8 ⟨b, b0, b1, _, rfl, cur8, gr8⟩
        have hgr8 := grown_trans hgr7 gr8
        have HN8 := Lib.hid (And.intro (HN7.out.1.kept gr8 HN7.out.2) HN7.out.2)
        clear b1 cur7 gr8 hgr7 HN7
        go_wp2_with fail
        refine (d_once 60 _ _ g len cap A cur8 (by omega)).mono ?_
        rintro e w9 ⟨t9, rfl, cur9, gr9⟩
        have hgr9 := grown_trans hgr8 gr9
        have HN9 := Lib.hid (And.intro (HN8.out.1.kept gr9 HN8.out.2) HN8.out.2)
        clear cur8 gr9 hgr8 HN8
        cases t9
        · go_wp2
          go_roundw
          case rel => exact ⟨k + 1, r - 1, _, by omega, by go_num, rfl, HN9.out.1, cur9, hgr9⟩
          case measure => simp [intOf]; omega
        · go_wp2_with fail
          refine (d_number _ _ g len cap A cur9).mono ?_
          rintro e w10 ⟨nb, _, _, rfl, cur10, gr10⟩
          have hgr10 := grown_trans hgr9 gr10
          have HN10 := Lib.hid (HN9.out.1.kept gr10 HN9.out.2)
          clear cur9 gr10 hgr9 HN9
          go_wp2
          go_roundw
          case rel => exact ⟨k + 1, r - 1, _, by omega, by go_num, rfl, HN10.out, cur10, hgr10⟩
          case measure => simp [intOf]; omega
      · obtain rfl : r = 0 := by omega
        clear hown
        go_wp2
        go_ret
        exact ⟨k, u3, by omega, rfl, HO.out, cur, hgr⟩
  · go_wp2_with fail
    refine (d_below 2 _ _ g len cap A cur2 (by omega)).mono ?_
    rintro e w3 ⟨y, y0, y1, y2, rfl, cur3, gr3⟩
    have y3 := y1 (by omega)
    clear y1 y2
    have hown3 := hown2.kept gr3 hne0
    have gr03 := grown_trans gr02 gr3
    clear gr02 gr3 hown2 cur2
    obtain ⟨r0, hr0⟩ : ∃ r : Nat, 200 + y = r := ⟨(200 + y).toNat, by omega⟩
    go_wp2_with fail
    refine (d_below 300 _ _ g len cap A cur3 (by omega)).mono ?_
    rintro e w4 ⟨t0, _, _, _, rfl, curS, gr4⟩
    have hownS := hown3.kept gr4 hne0
    have grS := grown_trans gr03 gr4
    clear gr03 gr4 hown3 cur3
    clear hne0
    have HS := Lib.hid hownS
    clear hownS
    go_wp2
    go_loopw [3, 4, 5] (fun v m z wr => ∃ (k r : Nat) (tm : Int), k + r ≤ 201 ∧ m = .int .i64 r ∧ z = .int .i64 tm ∧ OwnG wr w.heap.size v k ∧ Cur wr B g A len cap ∧ w.grownBy wr (some g))
      (fun _ m _ _ => (intOf m).toNat)
    case atStart => exact ⟨0, r0, _, by omega, by rw [← hr0], rfl, HS.out, curS, grS⟩
    case round =>
      obtain ⟨k, r, tm, hk, rfl, rfl, hown, cur, hgr⟩ := hrel
      have HO := Lib.hid hown
      by_cases hlt : 0 < r
      · have hlt' : (0 : Int) < (r : Int) := by omega
        have hne : ∀ k, some g = some k → u3.ownBlock ≠ some k := fun k ek e => by cases ek; have := (hown.lt e).1; omega
        have hne9 : u3.ownBlock ≠ some g := hne g rfl
        clear hown
        go_wp2_with fail
        refine (d_place _ _ g len cap A cur).mono ?_
        rintro e w5 ⟨⟨p1, p2⟩, rfl, cur5, gr5⟩
        dsimp only at *
        have hown5 := HO.out.kept gr5 hne
        have hlo : ∀ j, u3.ownBlock = some j → w.heap.size ≤ j := fun j e => (hown5.lt e).1
        obtain ⟨xs, hxs, hown6⟩ := hown5
        have hxl : xs.length = k * 3 := hown6.1
        have hgr5 := grown_trans hgr gr5
        have hsz5 := hgr5.size
        have HX := Lib.hid (And.intro hxs hlo)
        clear hgr cur gr5 hne HO hxs hlo
        go_wp2_with (at_builtin; refine wpList_append_own _ rfl _ _ 37 rfl w.heap.size 86 i0 (.agg #[.int .i64 0, .int .i64 0, .int .i64 0]) 3 24 Try.underlying37 hi hz0 hz1 hz2 rfl (by decide) _ _ _ rfl (hown6.alloc _) ⟨w5.heap.size, 0, none⟩ 1 1 [.int .i64 p1, .int .i64 p2, .int .i64 tm] rfl rfl (World.news_of_block (cs := #[.int .i64 p1, .int .i64 p2, .int .i64 tm]) (t := 86) (fr := (0, 0)) (heap_alloc_new w5 _)) (by simp [Value.oneCell']) (by unfold maxLen; omega) (by omega) (by simp; omega) ?_; intro v' w7 hown7 hgrow _)
        have hgA := World.grownBy_alloc w5 (.cells #[.int .i64 p1, .int .i64 p2, .int .i64 tm] 86) none
        have cur7 : Cur w7 B g A len cap := (cur5.alloc _).grown_far hgrow hne9 (fun j hj => by have := HX.out.2 j hj; omega)
        have hgr7 : w.grownBy w7 (some g) := ⟨hgrow.os.trans hgr5.os, hgrow.tape.trans hgr5.tape, hgrow.output.trans hgr5.output, Nat.le_trans hgr5.size (Nat.le_trans hgA.size hgrow.size), fun j hj hr =>
          (hgrow.block j (Nat.lt_of_lt_of_le hj (Nat.le_trans hgr5.size hgA.size)) (fun e => by have := HX.out.2 j e.symm; omega)).trans ((hgA.block j (Nat.lt_of_lt_of_le hj hgr5.size) (by simp)).trans (hgr5.block j hj hr))⟩
        have hon : OwnG w7 w.heap.size v' (k + 1) := own_add hown7 HX.out.1 (sg_cells p1 p2 tm) (by omega)
        clear hown6 hown7 hgr5 cur5 hgrow hgA hne9 HX
        have hne7 : ∀ k, some g = some k → v'.ownBlock ≠ some k := fun k ek e => by cases ek; have := (hon.lt e).1; omega
        have HN7 := Lib.hid (And.intro hon hne7)
        clear hon hne7
        go_wp2_with fail
        refine (d_below 40 _ _ g len cap A cur7 (by omega)).mono ?_
        rintro e w8 ⟨b, b0, b1, _, rfl, cur8, gr8⟩
        have hgr8 := grown_trans hgr7 gr8
        have HN8 := Lib.hid (And.intro (HN7.out.1.kept gr8 HN7.out.2) HN7.out.2)
        clear b1 cur7 gr8 hgr7 HN7
        go_wp2_with fail
        refine (d_once 60 _ _ g len cap A cur8 (by omega)).mono ?_
        rintro e w9 ⟨t9, rfl, cur9, gr9⟩
        have hgr9 := grown_trans hgr8 gr9
        have HN9 := Lib.hid (And.intro (HN8.out.1.kept gr9 HN8.out.2) HN8.out.2)
        clear cur8 gr9 hgr8 HN8
        cases t9
        · go_wp2
          go_roundw
          case rel => exact ⟨k + 1, r - 1, _, by omega, by go_num, rfl, HN9.out.1, cur9, hgr9⟩
          case measure => simp [intOf]; omega
        · go_wp2_with fail
          refine (d_number _ _ g len cap A cur9).mono ?_
          rintro e w10 ⟨nb, _, _, rfl, cur10, gr10⟩
          have hgr10 := grown_trans hgr9 gr10
          have HN10 := Lib.hid (HN9.out.1.kept gr10 HN9.out.2)
          clear cur9 gr10 hgr9 HN9
          go_wp2
          go_roundw
          case rel => exact ⟨k + 1, r - 1, _, by omega, by go_num, rfl, HN10.out, cur10, hgr10⟩
          case measure => simp [intOf]; omega
      · obtain rfl : r = 0 := by omega
        clear hown
        go_wp2
        go_ret
        exact ⟨k, u3, by omega, rfl, HO.out, cur, hgr⟩
end Go.Proofs.Ythahakefmpajfaa
