/- The drawing of lists of legs: l07Some, DrawRunLegs. -/
import Derived.Test.YtonfenekjocopaaLgA
namespace Go.Proofs.Ytonfenekjocopaa
open Go.RowKit Ieee
set_option linter.unusedVariables false
set_option linter.unusedSimpArgs false
attribute [local go_sem] st_cplx

/-- A cell of a leg. -/
def LgAt (c : Nat) (x : Value) : Prop := (c = 0 → ∃ n, x = .int .i64 n) ∧ (c = 1 → ∃ s, s < 4294967296 ∧ x = .float .f32 s) ∧ (c = 2 → ∃ n, x = .int .i64 n)
def OwnL (w : World) (B : Nat) (v : Value) (n : Nat) : Prop := OwnC LgAt 45 3 w B v n
theorem lg_cells {a b : Int} {s : Nat} (hs : s < 4294967296) : ∀ (c : Nat) (x : Value), [Value.int .i64 a, .float .f32 s, .int .i64 b][c]? = some x → LgAt (c % 3) x := fun c x hx => by
  match c with
  | 0 => cases hx; exact ⟨fun _ => ⟨a, rfl⟩, fun e => (by simp at e), fun e => (by simp at e)⟩
  | 1 => cases hx; exact ⟨fun e => (by simp at e), fun _ => ⟨s, hs, rfl⟩, fun e => (by simp at e)⟩
  | 2 => cases hx; exact ⟨fun e => (by simp at e), fun e => (by simp at e), fun _ => ⟨b, rfl⟩⟩
  | k + 3 => simp at hx
theorem Try.infoLgZ : (Try.prog.info? 45).map (fun i => (i.zero, i.size, i.bytes)) = some (some (.agg #[.int .i64 0, .float .f32 0, .int .i64 0]), 3, 24) := by kernel_rfl

set_option maxRecDepth 100000 in
set_option maxHeartbeats 4000000 in
theorem d_legs (w : World) (B g len cap : Nat) (A : Option Addr) (hc : Cur w B g A len cap) :
    Calls Try.prog 34 #[.pointer (some ⟨g, 0, none⟩)] w fun e w' => ∃ (n : Nat) (v : Value), n ≤ 51 ∧ e = .returned v ∧ OwnL w' w.heap.size v n ∧ Cur w' B g A len cap ∧ w.grownBy w' (some g) := by
  obtain ⟨i0, hi, hz0, hz1, hz2⟩ := info_parts Try.infoLgZ
  have hgl := hc.lt
  have hBg := hc.1
  go_enter Try.func34, Try.ntmps34
  go_wp2_with fail
  have hown0 : OwnL (w.alloc (.cells #[] 45)) w.heap.size (.slice (some ⟨w.heap.size, 0, none⟩) 0 0) 0 := ⟨[], (fun c x hx => by simp at hx), by simp, .inr ⟨w.heap.size, 0, #[], rfl, Nat.le_refl _, heap_alloc_new w _, by simp, by simp [maxLen], by simp, by simp⟩⟩
  have hne0 : ∀ k, some g = some k → (Value.slice (some ⟨w.heap.size, 0, none⟩) 0 0).ownBlock ≠ some k := fun k ek e => by cases ek; have := (hown0.lt e).1; omega
  have gr0 := World.grownBy_alloc w (.cells #[] 45) (some g)
  refine (d_below 5 _ B g len cap A (hc.alloc _) (by omega)).mono ?_
  rintro e w1 ⟨x, x0, x1, x2, rfl, cur1, gr1⟩
  have x3 := x1 (by omega)
  clear x1 x2
  have hown1 := hown0.kept gr1 hne0
  have gr01 := grown_trans gr0 gr1
  clear gr0 gr1 hown0
  go_wp2_with fail
  refine (d_once 40 _ _ g len cap A cur1 (by omega)).mono ?_
  rintro e w2 ⟨t, rfl, cur2, gr2⟩
  have hown2 := hown1.kept gr2 hne0
  have gr02 := grown_trans gr01 gr2
  clear gr01 gr2 hown1 cur1
  cases t
  · obtain ⟨r0, rfl⟩ : ∃ r : Nat, x = r := ⟨x.toNat, by omega⟩
    have hownS := hown2
    have curS := cur2
    have grS := gr02
    clear hown2 cur2 gr02
    clear hne0
    have HS := Lib.hid hownS
    clear hownS
    go_wp2
    go_loopw [3, 4] (fun v m wr => ∃ (k r : Nat), k + r ≤ 51 ∧ m = .int .i64 r ∧ OwnL wr w.heap.size v k ∧ Cur wr B g A len cap ∧ w.grownBy wr (some g))
      (fun _ m _ => (intOf m).toNat)
    case atStart => exact ⟨0, r0, by omega, rfl, HS.out, curS, grS⟩
    case round =>
      obtain ⟨k, r, hk, rfl, hown, cur, hgr⟩ := hrel
      have HO := Lib.hid hown
      by_cases hlt : 0 < r
      · have hlt' : (0 : Int) < (r : Int) := by omega
        have hne : ∀ k, some g = some k → u3.ownBlock ≠ some k := fun k ek e => by cases ek; have := (hown.lt e).1; omega
        have hne9 : u3.ownBlock ≠ some g := hne g rfl
        clear hown
        go_wp2_with fail
        refine (d_leg _ _ g len cap A cur).mono ?_
        rintro e w5 ⟨hd, s, n, sl, rfl, cur5, gr5⟩
        have hown5 := HO.out.kept gr5 hne
        have hlo : ∀ j, u3.ownBlock = some j → w.heap.size ≤ j := fun j e => (hown5.lt e).1
        obtain ⟨xs, hxs, hown6⟩ := hown5
        have hxl : xs.length = k * 3 := hown6.1
        have hgr5 := grown_trans hgr gr5
        have hsz5 := hgr5.size
        have HX := Lib.hid (And.intro hxs hlo)
        clear hgr cur gr5 hne HO hxs hlo
        go_wp2_with (at_builtin; refine wpList_append_own _ rfl _ _ 25 rfl w.heap.size 45 i0 (.agg #[.int .i64 0, .float .f32 0, .int .i64 0]) 3 24 Try.underlying25 hi hz0 hz1 hz2 rfl (by decide) _ _ _ rfl (hown6.alloc _) ⟨w5.heap.size, 0, none⟩ 1 1 [.int .i64 hd, .float .f32 s, .int .i64 n] rfl rfl (World.news_of_block (cs := #[.int .i64 hd, .float .f32 s, .int .i64 n]) (t := 45) (fr := (0, 0)) (heap_alloc_new w5 _)) (by simp [Value.oneCell']) (by unfold maxLen; omega) (by omega) (by simp; omega) ?_; intro v' w7 hown7 hgrow _)
        have hgA := World.grownBy_alloc w5 (.cells #[.int .i64 hd, .float .f32 s, .int .i64 n] 45) none
        have cur7 : Cur w7 B g A len cap := (cur5.alloc _).grown_far hgrow hne9 (fun j hj => by have := HX.out.2 j hj; omega)
        have hgr7 : w.grownBy w7 (some g) := ⟨hgrow.os.trans hgr5.os, hgrow.tape.trans hgr5.tape, hgrow.output.trans hgr5.output, Nat.le_trans hgr5.size (Nat.le_trans hgA.size hgrow.size), fun j hj hr =>
          (hgrow.block j (Nat.lt_of_lt_of_le hj (Nat.le_trans hgr5.size hgA.size)) (fun e => by have := HX.out.2 j e.symm; omega)).trans ((hgA.block j (Nat.lt_of_lt_of_le hj hgr5.size) (by simp)).trans (hgr5.block j hj hr))⟩
        have HN := Lib.hid (show OwnL w7 w.heap.size v' (k + 1) from own_add hown7 HX.out.1 (lg_cells sl) (by omega))
        clear hown6 hown7 hgr5 cur5 hgrow hgA hne9 HX
        go_wp2
        go_roundw
        case rel => exact ⟨k + 1, r - 1, by omega, by go_num, HN.out, cur7, hgr7⟩
        case measure => simp [intOf]; omega
      · obtain rfl : r = 0 := by omega
        clear hown
        go_wp2
        go_ret
        exact ⟨k, u3, by omega, rfl, HO.out, cur, hgr⟩
  · go_wp2_with fail
    refine (d_below 2 _ _ g len cap A cur2 (by omega)).mono ?_
    rintro e w3 ⟨y, y0, y1, y2, rfl, curS, gr3⟩
    have y3 := y1 (by omega)
    clear y1 y2
    have hownS := hown2.kept gr3 hne0
    have grS := grown_trans gr02 gr3
    clear gr02 gr3 hown2 cur2
    obtain ⟨r0, hr0⟩ : ∃ r : Nat, 50 + y = r := ⟨(50 + y).toNat, by omega⟩
    clear hne0
    have HS := Lib.hid hownS
    clear hownS
    go_wp2
    go_loopw [3, 4] (fun v m wr => ∃ (k r : Nat), k + r ≤ 51 ∧ m = .int .i64 r ∧ OwnL wr w.heap.size v k ∧ Cur wr B g A len cap ∧ w.grownBy wr (some g))
      (fun _ m _ => (intOf m).toNat)
    case atStart => exact ⟨0, r0, by omega, rfl, HS.out, curS, grS⟩
    case round =>
      obtain ⟨k, r, hk, rfl, hown, cur, hgr⟩ := hrel
      have HO := Lib.hid hown
      by_cases hlt : 0 < r
      · have hlt' : (0 : Int) < (r : Int) := by omega
        have hne : ∀ k, some g = some k → u3.ownBlock ≠ some k := fun k ek e => by cases ek; have := (hown.lt e).1; omega
        have hne9 : u3.ownBlock ≠ some g := hne g rfl
        clear hown
        go_wp2_with fail
        refine (d_leg _ _ g len cap A cur).mono ?_
        rintro e w5 ⟨hd, s, n, sl, rfl, cur5, gr5⟩
        have hown5 := HO.out.kept gr5 hne
        have hlo : ∀ j, u3.ownBlock = some j → w.heap.size ≤ j := fun j e => (hown5.lt e).1
        obtain ⟨xs, hxs, hown6⟩ := hown5
        have hxl : xs.length = k * 3 := hown6.1
        have hgr5 := grown_trans hgr gr5
        have hsz5 := hgr5.size
        have HX := Lib.hid (And.intro hxs hlo)
        clear hgr cur gr5 hne HO hxs hlo
        go_wp2_with (at_builtin; refine wpList_append_own _ rfl _ _ 25 rfl w.heap.size 45 i0 (.agg #[.int .i64 0, .float .f32 0, .int .i64 0]) 3 24 Try.underlying25 hi hz0 hz1 hz2 rfl (by decide) _ _ _ rfl (hown6.alloc _) ⟨w5.heap.size, 0, none⟩ 1 1 [.int .i64 hd, .float .f32 s, .int .i64 n] rfl rfl (World.news_of_block (cs := #[.int .i64 hd, .float .f32 s, .int .i64 n]) (t := 45) (fr := (0, 0)) (heap_alloc_new w5 _)) (by simp [Value.oneCell']) (by unfold maxLen; omega) (by omega) (by simp; omega) ?_; intro v' w7 hown7 hgrow _)
        have hgA := World.grownBy_alloc w5 (.cells #[.int .i64 hd, .float .f32 s, .int .i64 n] 45) none
        have cur7 : Cur w7 B g A len cap := (cur5.alloc _).grown_far hgrow hne9 (fun j hj => by have := HX.out.2 j hj; omega)
        have hgr7 : w.grownBy w7 (some g) := ⟨hgrow.os.trans hgr5.os, hgrow.tape.trans hgr5.tape, hgrow.output.trans hgr5.output, Nat.le_trans hgr5.size (Nat.le_trans hgA.size hgrow.size), fun j hj hr =>
          (hgrow.block j (Nat.lt_of_lt_of_le hj (Nat.le_trans hgr5.size hgA.size)) (fun e => by have := HX.out.2 j e.symm; omega)).trans ((hgA.block j (Nat.lt_of_lt_of_le hj hgr5.size) (by simp)).trans (hgr5.block j hj hr))⟩
        have HN := Lib.hid (show OwnL w7 w.heap.size v' (k + 1) from own_add hown7 HX.out.1 (lg_cells sl) (by omega))
        clear hown6 hown7 hgr5 cur5 hgrow hgA hne9 HX
        go_wp2
        go_roundw
        case rel => exact ⟨k + 1, r - 1, by omega, by go_num, HN.out, cur7, hgr7⟩
        case measure => simp [intOf]; omega
      · obtain rfl : r = 0 := by omega
        clear hown
        go_wp2
        go_ret
        exact ⟨k, u3, by omega, rfl, HO.out, cur, hgr⟩
set_option maxRecDepth 100000 in
set_option maxHeartbeats 1000000 in
theorem d_runlegs (w : World) (len cap : Nat) (A : Option Addr) (hcode : Code w w.heap.size A len) :
    Calls Try.prog 10 #[.slice A len cap] w fun e w' => ∃ (p q : Nat × Nat) (n : Nat) (v : Value), W64 p ∧ W32 q ∧ n ≤ 51 ∧ e = .returned (.tuple #[.complex .f64 p.1 p.2, v, .complex .f32 q.1 q.2]) ∧ OwnL w' w.heap.size v n ∧ Below w.heap.size w w' := by
  go_enter Try.func10, Try.ntmps10
  go_wp2_with fail
  refine (d_new w w.heap.size len cap A (Nat.le_refl _) hcode).mono ?_
  rintro e w1 ⟨g, rfl, cur1, b1⟩
  have hg0 := cur1.1
  go_wp2_with fail
  refine (d_vector 5000 _ _ g len cap A cur1 (by omega) (by omega)).mono ?_
  rintro e w2 ⟨x, y, xl, yl, rfl, cur2, gr2⟩
  have b2 := below_cur b1 (Nat.le_refl _) gr2 hg0
  clear gr2 b1 cur1
  have hgl := cur2.lt
  go_wp2_with fail
  refine (d_legs _ _ g len cap A cur2).mono ?_
  rintro e w3 ⟨n, v, hn, rfl, hown, cur3, gr3⟩
  have b3 := below_cur b2 (Nat.le_refl _) gr3 hg0
  have hne : ∀ k, some g = some k → v.ownBlock ≠ some k := fun k ek e => by cases ek; have := (hown.lt e).1; omega
  have HO := Lib.hid hown
  have hz2 := b2.size
  clear gr3 b2 cur2 hown
  go_wp2_with fail
  refine (d_stream _ _ g len cap A cur3).mono ?_
  rintro e w4 ⟨s, t, sl, tl, rfl, cur4, gr4⟩
  have b4 := below_cur b3 (Nat.le_refl _) gr4 hg0
  have HN := Lib.hid ((HO.out.kept gr4 hne).low hz2)
  clear gr4 b3 cur3 HO hne
  go_wp2
  go_ret3
  exact ⟨(x, y), (s, t), n, v, ⟨xl, yl⟩, ⟨sl, tl⟩, hn, rfl, HN.out, b4⟩
end Go.Proofs.Ytonfenekjocopaa
