/- The drawing of lists of winds: l03Some, DrawRunDamp. -/
import Derived.Test.YtgohekdikgfcnaaDrW
namespace Go.Proofs.Ytgohekdikgfcnaa
open Go.RowKit Ieee

/-- A wind as a value. -/
def cv (p : Nat × Nat) : Value := .complex .f32 p.1 p.2
/-- Two words of 32 bits. -/
def Two (p : Nat × Nat) : Prop := p.1 < 4294967296 ∧ p.2 < 4294967296
theorem Try.infoC64 : (Try.prog.info? 26).map (fun i => (i.zero, i.size, i.bytes)) = some (some (.complex .f32 0 0), 1, 8) := by kernel_rfl
/-- A slice of winds, of the call's own, read. -/
theorem winds_own {w : World} {B t n : Nat} {v : Value} {xs : List (Nat × Nat)} (h : w.ownsRow B t 1 v n (xs.map cv)) (hn : n ≠ 0) :
    ∃ g cap, v = .slice (some ⟨g, 0, none⟩) n cap ∧ n ≤ cap ∧ B ≤ g ∧ g < w.heap.size ∧ ∀ j x, xs[j]? = some x → w.cell? ⟨g, j, none⟩ = some (cv x) := by
  obtain ⟨hl, ⟨_, h0⟩ | ⟨g, cap, cur, hv, hb, hg, hc, _, _, ht⟩⟩ := h
  · exact absurd h0 hn
  · refine ⟨g, cap, hv, hc, hb, ?_, fun j x hj => ?_⟩
    · rcases Nat.lt_or_ge g w.heap.size with h' | h'
      · exact h'
      · rw [Array.getElem?_eq_none h'] at hg; cases hg
    · rw [cell_of_row w g j _ _ _ hg]
      have h1 : (xs.map cv)[j]? = some (cv x) := by rw [List.getElem?_map, hj]; rfl
      rw [← ht, List.getElem?_take] at h1
      split at h1
      · rw [← Array.getElem?_toList]; exact h1
      · cases h1
theorem owns_low {w : World} {B B' : Nat} {t : TypeId} {v : Value} {n : Nat} {xs : List Value} (h : w.ownsRow B t 1 v n xs) (hB : B' ≤ B) : w.ownsRow B' t 1 v n xs :=
  ⟨h.1, h.2.imp id fun ⟨g, c, cur, h1, h2, h3⟩ => ⟨g, c, cur, h1, Nat.le_trans hB h2, h3⟩⟩
theorem two_more {xs : List (Nat × Nat)} {x : Nat × Nat} (h : ∀ (j : Nat) (p : Nat × Nat), xs[j]? = some p → Two p) (hx : Two x) : ∀ (j : Nat) (p : Nat × Nat), (xs ++ [x])[j]? = some p → Two p := fun j p hj => by
  rw [List.getElem?_append] at hj
  split at hj
  · exact h j p hj
  · rw [List.getElem?_singleton] at hj
    split at hj
    · injection hj with hj; rw [← hj]; exact hx
    · cases hj

set_option maxRecDepth 100000 in
set_option maxHeartbeats 4000000 in
theorem d_some (w : World) (B g len cap : Nat) (A : Option Addr) (hc : Cur w B g A len cap) :
    Calls Try.prog 41 #[.pointer (some ⟨g, 0, none⟩)] w fun e w' => ∃ (n : Nat) (xs : List (Nat × Nat)) (v : Value), n ≤ 101 ∧ xs.length = n ∧ (∀ (j : Nat) (p : Nat × Nat), xs[j]? = some p → Two p) ∧ e = .returned v ∧ w'.ownsRow w.heap.size 26 1 v n (xs.map cv) ∧ Cur w' B g A len cap ∧ w.grownBy w' (some g) := by
  obtain ⟨i0, hi, hz0, hz1, hz2⟩ := info_parts Try.infoC64
  have hgl := hc.lt
  go_enter Try.func41, Try.ntmps41
  go_wp2_with fail
  have hown0 : (w.alloc (.cells #[] 26)).ownsRow w.heap.size 26 1 (.slice (some ⟨w.heap.size, 0, none⟩) 0 0) 0 (([] : List (Nat × Nat)).map cv) := ⟨by simp, .inr ⟨w.heap.size, 0, #[], rfl, Nat.le_refl _, heap_alloc_new w _, by simp, by simp [maxLen], by simp, by simp⟩⟩
  have hne0 : (Value.slice (some ⟨w.heap.size, 0, none⟩) 0 0).ownBlock ≠ some g := fun e => by have := (hown0.lt g e).1; omega
  have gr0 := World.grownBy_alloc w (.cells #[] 26) (some g)
  refine (d_below 9 _ _ g len cap A (hc.alloc _) (by omega)).mono ?_
  rintro e w1 ⟨x, x0, x1, x2, rfl, cur1, gr1⟩
  have x3 := x1 (by omega)
  clear x1 x2
  have hown1 := hown0.kept gr1 (Or.inr hne0)
  have gr01 := grown_trans gr0 gr1
  clear gr0 gr1 hown0
  go_wp2_with fail
  refine (d_once 25 _ _ g len cap A cur1 (by omega)).mono ?_
  rintro e w2 ⟨t, rfl, cur2, gr2⟩
  have hown2 := hown1.kept gr2 (Or.inr hne0)
  have gr02 := grown_trans gr01 gr2
  clear gr01 gr2 hown1 cur1
  cases t
  · obtain ⟨r0, rfl⟩ : ∃ r : Nat, x = r := ⟨x.toNat, by omega⟩
    go_wp2_with fail
    refine (d_air _ _ g len cap A cur2).mono ?_
    rintro e w3 ⟨a, b, al, bl, rfl, cur3, gr3⟩
    have hown3 := hown2.kept gr3 (Or.inr hne0)
    have gr03 := grown_trans gr02 gr3
    clear gr02 gr3 hown2 cur2
    clear hne0
    go_wp2
    go_loopw [3, 4, 5] (fun v m x wr => ∃ (k r : Nat) (xs : List (Nat × Nat)) (a b : Nat), k + r ≤ 101 ∧ xs.length = k ∧ (∀ (j : Nat) (p : Nat × Nat), xs[j]? = some p → Two p) ∧ m = .int .i64 r ∧ x = .complex .f32 a b ∧ Two (a, b) ∧ wr.ownsRow w.heap.size 26 1 v k (xs.map cv) ∧ Cur wr B g A len cap ∧ w.grownBy wr (some g))
      (fun _ m _ _ => (intOf m).toNat)
    case atStart => exact ⟨0, r0, [], a, b, by omega, rfl, (fun j x h => by simp at h), rfl, rfl, ⟨al, bl⟩, hown3, cur3, gr03⟩
    case round =>
      obtain ⟨k, r, xs, a, b, hk, hxs, hbd, rfl, rfl, hab, hown, cur, hgr⟩ := hrel
      have HB := Lib.hid hbd
      have ha : a < 4294967296 := hab.1
      have hb : b < 4294967296 := hab.2
      clear hbd hab
      by_cases hlt : 0 < r
      · have hlt' : (0 : Int) < (r : Int) := by omega
        have hne : u3.ownBlock ≠ some g := fun e => by have := (hown.lt g e).1; omega
        go_wp2_with fail
        refine (d_once 3 _ _ g len cap A cur (by omega)).mono ?_
        rintro e w4 ⟨t, rfl, cur4, gr4⟩
        have hown4 := hown.kept gr4 (Or.inr hne)
        have hgr4 := grown_trans hgr gr4
        have hsz4 := hgr4.size
        clear hown hgr cur gr4
        cases t
        · go_wp2_with fail
          refine (d_air _ _ g len cap A cur4).mono ?_
          rintro e w5 ⟨a', b', al', bl', rfl, cur5, gr5⟩
          have hown5 := hown4.kept gr5 (Or.inr hne)
          have hgr5 := grown_trans hgr4 gr5
          have hsz5 := hgr5.size
          clear hown4 hgr4 cur4 gr5
          go_wp2_with (at_builtin; refine wpList_append_own _ rfl _ _ 36 rfl w.heap.size 26 i0 (.complex .f32 0 0) 1 8 Try.underlying36 hi hz0 hz1 hz2 rfl (by decide) _ _ _ rfl (hown5.alloc _) ⟨w5.heap.size, 0, none⟩ 1 1 [.complex .f32 a' b'] rfl rfl (World.news_of_block (cs := #[.complex .f32 a' b']) (t := 26) (fr := (0, 0)) (heap_alloc_new w5 _)) (by simp [Value.oneCell']) (by unfold maxLen; omega) (by omega) (by simp; omega) ?_; intro v' w7 hown7 hgrow _)
          have hgA := World.grownBy_alloc w5 (.cells #[.complex .f32 a' b'] 26) none
          have cur7 : Cur w7 B g A len cap := (cur5.alloc _).grown_far hgrow hne (fun j hj => by have := (hown5.lt j hj).1; have := hc.1; omega)
          have hgr7 : w.grownBy w7 (some g) := ⟨hgrow.os.trans hgr5.os, hgrow.tape.trans hgr5.tape, hgrow.output.trans hgr5.output, Nat.le_trans hgr5.size (Nat.le_trans hgA.size hgrow.size), fun j hj hr =>
            (hgrow.block j (Nat.lt_of_lt_of_le hj (Nat.le_trans hgr5.size hgA.size)) (fun e => by have := (hown5.lt j e.symm).1; omega)).trans ((hgA.block j (Nat.lt_of_lt_of_le hj hgr5.size) (by simp)).trans (hgr5.block j hj hr))⟩
          have HN := Lib.hid (two_more (x := (a', b')) HB.out ⟨al', bl'⟩)
          clear hown5 hgr5 cur5 hgrow hgA
          go_wp2
          go_roundw
          case rel => exact ⟨k + 1, r - 1, xs ++ [(a', b')], a', b', by omega, by simp [hxs], HN.out, by go_num, rfl, ⟨al', bl'⟩, by rw [List.map_append]; exact hown7, cur7, hgr7⟩
          case measure => simp [intOf]; omega
        · skip
          go_wp2_with (at_builtin; refine wpList_append_own _ rfl _ _ 36 rfl w.heap.size 26 i0 (.complex .f32 0 0) 1 8 Try.underlying36 hi hz0 hz1 hz2 rfl (by decide) _ _ _ rfl (hown4.alloc _) ⟨w4.heap.size, 0, none⟩ 1 1 [.complex .f32 a b] rfl rfl (World.news_of_block (cs := #[.complex .f32 a b]) (t := 26) (fr := (0, 0)) (heap_alloc_new w4 _)) (by simp [Value.oneCell']) (by unfold maxLen; omega) (by omega) (by simp; omega) ?_; intro v' w7 hown7 hgrow _)
          have hgA := World.grownBy_alloc w4 (.cells #[.complex .f32 a b] 26) none
          have cur7 : Cur w7 B g A len cap := (cur4.alloc _).grown_far hgrow hne (fun j hj => by have := (hown4.lt j hj).1; have := hc.1; omega)
          have hgr7 : w.grownBy w7 (some g) := ⟨hgrow.os.trans hgr4.os, hgrow.tape.trans hgr4.tape, hgrow.output.trans hgr4.output, Nat.le_trans hgr4.size (Nat.le_trans hgA.size hgrow.size), fun j hj hr =>
            (hgrow.block j (Nat.lt_of_lt_of_le hj (Nat.le_trans hgr4.size hgA.size)) (fun e => by have := (hown4.lt j e.symm).1; omega)).trans ((hgA.block j (Nat.lt_of_lt_of_le hj hgr4.size) (by simp)).trans (hgr4.block j hj hr))⟩
          have HN := Lib.hid (two_more (x := (a, b)) HB.out ⟨ha, hb⟩)
          clear hown4 hgr4 cur4 hgrow hgA
          go_wp2
          go_roundw
          case rel => exact ⟨k + 1, r - 1, xs ++ [(a, b)], a, b, by omega, by simp [hxs], HN.out, by go_num, rfl, ⟨ha, hb⟩, by rw [List.map_append]; exact hown7, cur7, hgr7⟩
          case measure => simp [intOf]; omega
      · obtain rfl : r = 0 := by omega
        have HO := Lib.hid hown
        clear hown
        go_wp2
        go_ret
        exact ⟨k, xs, u3, by omega, hxs, HB.out, rfl, HO.out, cur, hgr⟩
  · go_wp2_with fail
    refine (d_below 3 _ _ g len cap A cur2 (by omega)).mono ?_
    rintro e w3' ⟨y, y0, y1, y2, rfl, cur3', gr3'⟩
    have y3 := y1 (by omega)
    clear y1 y2
    have hown3' := hown2.kept gr3' (Or.inr hne0)
    have gr03' := grown_trans gr02 gr3'
    clear gr02 gr3' hown2 cur2
    obtain ⟨r0, hr0⟩ : ∃ r : Nat, 99 + y = r := ⟨(99 + y).toNat, by omega⟩
    go_wp2_with fail

    refine (d_air _ _ g len cap A cur3').mono ?_
    rintro e w3 ⟨a, b, al, bl, rfl, cur3, gr3⟩
    have hown3 := hown3'.kept gr3 (Or.inr hne0)
    have gr03 := grown_trans gr03' gr3
    clear gr03' gr3 hown3' cur3'
    clear hne0
    go_wp2
    go_loopw [3, 4, 5] (fun v m x wr => ∃ (k r : Nat) (xs : List (Nat × Nat)) (a b : Nat), k + r ≤ 101 ∧ xs.length = k ∧ (∀ (j : Nat) (p : Nat × Nat), xs[j]? = some p → Two p) ∧ m = .int .i64 r ∧ x = .complex .f32 a b ∧ Two (a, b) ∧ wr.ownsRow w.heap.size 26 1 v k (xs.map cv) ∧ Cur wr B g A len cap ∧ w.grownBy wr (some g))
      (fun _ m _ _ => (intOf m).toNat)
    case atStart => exact ⟨0, r0, [], a, b, by omega, rfl, (fun j x h => by simp at h), rfl, rfl, ⟨al, bl⟩, hown3, cur3, gr03⟩
    case round =>
      obtain ⟨k, r, xs, a, b, hk, hxs, hbd, rfl, rfl, hab, hown, cur, hgr⟩ := hrel
      have HB := Lib.hid hbd
      have ha : a < 4294967296 := hab.1
      have hb : b < 4294967296 := hab.2
      clear hbd hab
      by_cases hlt : 0 < r
      · have hlt' : (0 : Int) < (r : Int) := by omega
        have hne : u3.ownBlock ≠ some g := fun e => by have := (hown.lt g e).1; omega
        go_wp2_with fail
        refine (d_once 3 _ _ g len cap A cur (by omega)).mono ?_
        rintro e w4 ⟨t, rfl, cur4, gr4⟩
        have hown4 := hown.kept gr4 (Or.inr hne)
        have hgr4 := grown_trans hgr gr4
        have hsz4 := hgr4.size
        clear hown hgr cur gr4
        cases t
        · go_wp2_with fail
          refine (d_air _ _ g len cap A cur4).mono ?_
          rintro e w5 ⟨a', b', al', bl', rfl, cur5, gr5⟩
          have hown5 := hown4.kept gr5 (Or.inr hne)
          have hgr5 := grown_trans hgr4 gr5
          have hsz5 := hgr5.size
          clear hown4 hgr4 cur4 gr5
          go_wp2_with (at_builtin; refine wpList_append_own _ rfl _ _ 36 rfl w.heap.size 26 i0 (.complex .f32 0 0) 1 8 Try.underlying36 hi hz0 hz1 hz2 rfl (by decide) _ _ _ rfl (hown5.alloc _) ⟨w5.heap.size, 0, none⟩ 1 1 [.complex .f32 a' b'] rfl rfl (World.news_of_block (cs := #[.complex .f32 a' b']) (t := 26) (fr := (0, 0)) (heap_alloc_new w5 _)) (by simp [Value.oneCell']) (by unfold maxLen; omega) (by omega) (by simp; omega) ?_; intro v' w7 hown7 hgrow _)
          have hgA := World.grownBy_alloc w5 (.cells #[.complex .f32 a' b'] 26) none
          have cur7 : Cur w7 B g A len cap := (cur5.alloc _).grown_far hgrow hne (fun j hj => by have := (hown5.lt j hj).1; have := hc.1; omega)
          have hgr7 : w.grownBy w7 (some g) := ⟨hgrow.os.trans hgr5.os, hgrow.tape.trans hgr5.tape, hgrow.output.trans hgr5.output, Nat.le_trans hgr5.size (Nat.le_trans hgA.size hgrow.size), fun j hj hr =>
            (hgrow.block j (Nat.lt_of_lt_of_le hj (Nat.le_trans hgr5.size hgA.size)) (fun e => by have := (hown5.lt j e.symm).1; omega)).trans ((hgA.block j (Nat.lt_of_lt_of_le hj hgr5.size) (by simp)).trans (hgr5.block j hj hr))⟩
          have HN := Lib.hid (two_more (x := (a', b')) HB.out ⟨al', bl'⟩)
          clear hown5 hgr5 cur5 hgrow hgA
          go_wp2
          go_roundw
          case rel => exact ⟨k + 1, r - 1, xs ++ [(a', b')], a', b', by omega, by simp [hxs], HN.out, by go_num, rfl, ⟨al', bl'⟩, by rw [List.map_append]; exact hown7, cur7, hgr7⟩
          case measure => simp [intOf]; omega
        · skip
          go_wp2_with (at_builtin; refine wpList_append_own _ rfl _ _ 36 rfl w.heap.size 26 i0 (.complex .f32 0 0) 1 8 Try.underlying36 hi hz0 hz1 hz2 rfl (by decide) _ _ _ rfl (hown4.alloc _) ⟨w4.heap.size, 0, none⟩ 1 1 [.complex .f32 a b] rfl rfl (World.news_of_block (cs := #[.complex .f32 a b]) (t := 26) (fr := (0, 0)) (heap_alloc_new w4 _)) (by simp [Value.oneCell']) (by unfold maxLen; omega) (by omega) (by simp; omega) ?_; intro v' w7 hown7 hgrow _)
          have hgA := World.grownBy_alloc w4 (.cells #[.complex .f32 a b] 26) none
          have cur7 : Cur w7 B g A len cap := (cur4.alloc _).grown_far hgrow hne (fun j hj => by have := (hown4.lt j hj).1; have := hc.1; omega)
          have hgr7 : w.grownBy w7 (some g) := ⟨hgrow.os.trans hgr4.os, hgrow.tape.trans hgr4.tape, hgrow.output.trans hgr4.output, Nat.le_trans hgr4.size (Nat.le_trans hgA.size hgrow.size), fun j hj hr =>
            (hgrow.block j (Nat.lt_of_lt_of_le hj (Nat.le_trans hgr4.size hgA.size)) (fun e => by have := (hown4.lt j e.symm).1; omega)).trans ((hgA.block j (Nat.lt_of_lt_of_le hj hgr4.size) (by simp)).trans (hgr4.block j hj hr))⟩
          have HN := Lib.hid (two_more (x := (a, b)) HB.out ⟨ha, hb⟩)
          clear hown4 hgr4 cur4 hgrow hgA
          go_wp2
          go_roundw
          case rel => exact ⟨k + 1, r - 1, xs ++ [(a, b)], a, b, by omega, by simp [hxs], HN.out, by go_num, rfl, ⟨ha, hb⟩, by rw [List.map_append]; exact hown7, cur7, hgr7⟩
          case measure => simp [intOf]; omega
      · obtain rfl : r = 0 := by omega
        have HO := Lib.hid hown
        clear hown
        go_wp2
        go_ret
        exact ⟨k, xs, u3, by omega, hxs, HB.out, rfl, HO.out, cur, hgr⟩
set_option maxHeartbeats 1000000 in
theorem d_rundamp (w : World) (len cap : Nat) (A : Option Addr) (hcode : Code w w.heap.size A len) :
    Calls Try.prog 22 #[.slice A len cap] w fun e w' => ∃ (n : Nat) (xs : List (Nat × Nat)) (v : Value) (k : Nat), n ≤ 101 ∧ xs.length = n ∧ (∀ (j : Nat) (p : Nat × Nat), xs[j]? = some p → Two p) ∧ k < 4294967296 ∧ e = .returned (.tuple #[v, .float .f32 k]) ∧ w'.ownsRow w.heap.size 26 1 v n (xs.map cv) ∧ Below w.heap.size w w' := by
  go_enter Try.func22, Try.ntmps22
  go_wp2_with fail
  refine (d_new w w.heap.size len cap A (Nat.le_refl _) hcode).mono ?_
  rintro e w1 ⟨g, rfl, cur1, b1⟩
  have hgl := cur1.lt
  go_wp2_with fail
  refine (d_some _ _ g len cap A cur1).mono ?_
  rintro e w2 ⟨n, xs, v, hn, hxs, hbd, rfl, hown, cur2, gr2⟩
  have HB := Lib.hid hbd
  have b2 := below_cur b1 (Nat.le_refl _) gr2 cur1.1
  have hne : v.ownBlock ≠ some g := fun e => by have := (hown.lt g e).1; omega
  clear hbd gr2
  go_wp2_with fail
  refine (d_part _ _ g len cap A cur2).mono ?_
  rintro e w3 ⟨k, kl, rfl, cur3, gr3⟩
  have b3 := below_cur b2 (Nat.le_refl _) gr3 cur2.1
  have hown3 := owns_low (hown.kept gr3 (Or.inr hne)) b1.size
  clear hown gr3
  go_wp2
  go_ret2
  exact ⟨n, xs, v, k, hn, hxs, HB.out, kl, rfl, hown3, b3⟩
end Go.Proofs.Ytgohekdikgfcnaa
