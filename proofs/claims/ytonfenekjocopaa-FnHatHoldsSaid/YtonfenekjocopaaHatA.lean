/- The drawing of lists of positions: DrawHat. -/
import Derived.Test.YtonfenekjocopaaDrR
import Derived.Test.YtonfenekjocopaaRkB
namespace Go.Proofs.Ytonfenekjocopaa
open Go.RowKit Ieee
set_option linter.unusedVariables false
set_option linter.unusedSimpArgs false

/-- A position as a value. -/
def cq (p : Nat × Nat) : Value := .complex .f64 p.1 p.2
theorem Try.infoC128 : (Try.prog.info? 24).map (fun i => (i.zero, i.size, i.bytes)) = some (some (.complex .f64 0 0), 1, 16) := by kernel_rfl
/-- A slice of positions, of the call's own, read. -/
theorem vecs_own {w : World} {B t n : Nat} {v : Value} {xs : List (Nat × Nat)} (h : w.ownsRow B t 1 v n (xs.map cq)) (hn : n ≠ 0) :
    ∃ g cap, v = .slice (some ⟨g, 0, none⟩) n cap ∧ n ≤ cap ∧ B ≤ g ∧ g < w.heap.size ∧ ∀ j x, xs[j]? = some x → w.cell? ⟨g, j, none⟩ = some (cq x) := by
  obtain ⟨hl, ⟨_, h0⟩ | ⟨g, cap, cur, hv, hb, hg, hc, _, _, ht⟩⟩ := h
  · exact absurd h0 hn
  · refine ⟨g, cap, hv, hc, hb, ?_, fun j x hj => ?_⟩
    · rcases Nat.lt_or_ge g w.heap.size with h' | h'
      · exact h'
      · rw [Array.getElem?_eq_none h'] at hg; cases hg
    · rw [cell_of_row w g j _ _ _ hg]
      have h1 : (xs.map cq)[j]? = some (cq x) := by rw [List.getElem?_map, hj]; rfl
      rw [← ht, List.getElem?_take] at h1
      split at h1
      · rw [← Array.getElem?_toList]; exact h1
      · cases h1
theorem owns_low {w : World} {B B' : Nat} {t : TypeId} {v : Value} {n : Nat} {xs : List Value} (h : w.ownsRow B t 1 v n xs) (hB : B' ≤ B) : w.ownsRow B' t 1 v n xs :=
  ⟨h.1, h.2.imp id fun ⟨g, c, cur, h1, h2, h3⟩ => ⟨g, c, cur, h1, Nat.le_trans hB h2, h3⟩⟩
theorem w64_more {xs : List (Nat × Nat)} {x : Nat × Nat} (h : ∀ (j : Nat) (p : Nat × Nat), xs[j]? = some p → W64 p) (hx : W64 x) : ∀ (j : Nat) (p : Nat × Nat), (xs ++ [x])[j]? = some p → W64 p := fun j p hj => by
  rw [List.getElem?_append] at hj
  split at hj
  · exact h j p hj
  · rw [List.getElem?_singleton] at hj
    split at hj
    · injection hj with hj; rw [← hj]; exact hx
    · cases hj

set_option maxRecDepth 100000 in
set_option maxHeartbeats 4000000 in
theorem d_hat (w : World) (len cap : Nat) (A : Option Addr) (hcode : Code w w.heap.size A len) :
    Calls Try.prog 27 #[.slice A len cap] w fun e w' => ∃ (n : Nat) (xs : List (Nat × Nat)) (v : Value), n ≤ 51 ∧ xs.length = n ∧ (∀ (j : Nat) (p : Nat × Nat), xs[j]? = some p → W64 p) ∧ e = .returned v ∧ w'.ownsRow w.heap.size 24 1 v n (xs.map cq) ∧ Below w.heap.size w w' := by
  obtain ⟨i0, hi, hz0, hz1, hz2⟩ := info_parts Try.infoC128
  go_enter Try.func27, Try.ntmps27
  go_wp2_with fail
  refine (d_new w w.heap.size len cap A (Nat.le_refl _) hcode).mono ?_
  rintro e w0 ⟨g, rfl, cur0, b0⟩
  have hgl := cur0.lt
  have hg0 := cur0.1
  have hz := b0.size
  go_wp2_with fail
  have hown0 : (w0.alloc (.cells #[] 24)).ownsRow w0.heap.size 24 1 (.slice (some ⟨w0.heap.size, 0, none⟩) 0 0) 0 (([] : List (Nat × Nat)).map cq) := ⟨by simp, .inr ⟨w0.heap.size, 0, #[], rfl, Nat.le_refl _, heap_alloc_new w0 _, by simp, by simp [maxLen], by simp, by simp⟩⟩
  have hne0 : (Value.slice (some ⟨w0.heap.size, 0, none⟩) 0 0).ownBlock ≠ some g := fun e => by have := (hown0.lt g e).1; omega
  have gr0 := World.grownBy_alloc w0 (.cells #[] 24) (some g)
  refine (d_below 6 _ _ g len cap A (cur0.alloc _) (by omega)).mono ?_
  rintro e w1 ⟨x, x0, x1, x2, rfl, cur1, gr1⟩
  have x3 := x1 (by omega)
  clear x1 x2
  have hown1 := hown0.kept gr1 (Or.inr hne0)
  have gr01 := grown_trans gr0 gr1
  clear gr0 gr1 hown0
  go_wp2_with fail
  refine (d_once 30 _ _ g len cap A cur1 (by omega)).mono ?_
  rintro e w2 ⟨t, rfl, cur2, gr2⟩
  have hown2 := hown1.kept gr2 (Or.inr hne0)
  have gr02 := grown_trans gr01 gr2
  clear gr01 gr2 hown1 cur1
  cases t
  · obtain ⟨r0, rfl⟩ : ∃ r : Nat, x = r := ⟨x.toNat, by omega⟩
    have hownS := hown2
    have curS := cur2
    have grS := gr02
    clear hown2 cur2 gr02
    clear hne0
    go_wp2
    go_loopw [4, 5] (fun v m wr => ∃ (k r : Nat) (xs : List (Nat × Nat)), k + r ≤ 51 ∧ xs.length = k ∧ (∀ (j : Nat) (p : Nat × Nat), xs[j]? = some p → W64 p) ∧ m = .int .i64 r ∧ wr.ownsRow w0.heap.size 24 1 v k (xs.map cq) ∧ Cur wr w.heap.size g A len cap ∧ w0.grownBy wr (some g))
      (fun _ m _ => (intOf m).toNat)
    case atStart => exact ⟨0, r0, [], by omega, rfl, (fun j x h => by simp at h), rfl, hownS, curS, grS⟩
    case round =>
      obtain ⟨k, r, xs, hk, hxs, hbd, rfl, hown, cur, hgr⟩ := hrel
      have HB := Lib.hid hbd
      clear hbd
      by_cases hlt : 0 < r
      · have hlt' : (0 : Int) < (r : Int) := by omega
        have hne : u4.ownBlock ≠ some g := fun e => by have := (hown.lt g e).1; omega
        go_wp2_with fail
        refine (d_vector 2000 _ _ g len cap A cur (by omega) (by omega)).mono ?_
        rintro e w5 ⟨a', b', al', bl', rfl, cur5, gr5⟩
        have hown5 := hown.kept gr5 (Or.inr hne)
        have hgr5 := grown_trans hgr gr5
        have hsz5 := hgr5.size
        clear hown hgr cur gr5
        go_wp2_with (at_builtin; refine wpList_append_own _ rfl _ _ 55 rfl w0.heap.size 24 i0 (.complex .f64 0 0) 1 16 Try.underlying55 hi hz0 hz1 hz2 rfl (by decide) _ _ _ rfl (hown5.alloc _) ⟨w5.heap.size, 0, none⟩ 1 1 [.complex .f64 a' b'] rfl rfl (World.news_of_block (cs := #[.complex .f64 a' b']) (t := 24) (fr := (0, 0)) (heap_alloc_new w5 _)) (by simp [Value.oneCell']) (by unfold maxLen; omega) (by omega) (by simp; omega) ?_; intro v' w7 hown7 hgrow _)
        have hgA := World.grownBy_alloc w5 (.cells #[.complex .f64 a' b'] 24) none
        have cur7 : Cur w7 w.heap.size g A len cap := (cur5.alloc _).grown_far hgrow hne (fun j hj => by have := (hown5.lt j hj).1; omega)
        have hgr7 : w0.grownBy w7 (some g) := ⟨hgrow.os.trans hgr5.os, hgrow.tape.trans hgr5.tape, hgrow.output.trans hgr5.output, Nat.le_trans hgr5.size (Nat.le_trans hgA.size hgrow.size), fun j hj hr =>
          (hgrow.block j (Nat.lt_of_lt_of_le hj (Nat.le_trans hgr5.size hgA.size)) (fun e => by have := (hown5.lt j e.symm).1; omega)).trans ((hgA.block j (Nat.lt_of_lt_of_le hj hgr5.size) (by simp)).trans (hgr5.block j hj hr))⟩
        have HN := Lib.hid (w64_more (x := (a', b')) HB.out ⟨al', bl'⟩)
        clear hown5 hgr5 cur5 hgrow hgA
        go_wp2
        go_roundw
        case rel => exact ⟨k + 1, r - 1, xs ++ [(a', b')], by omega, by simp [hxs], HN.out, by go_num, by rw [List.map_append]; exact hown7, cur7, hgr7⟩
        case measure => simp [intOf]; omega
      · obtain rfl : r = 0 := by omega
        have HO := Lib.hid (owns_low (B' := w.heap.size) hown hz)
        clear hown
        go_wp2
        go_ret
        exact ⟨k, xs, u4, by omega, hxs, HB.out, rfl, HO.out, below_cur b0 (Nat.le_refl _) hgr hg0⟩
  · go_wp2_with fail
    refine (d_below 2 _ _ g len cap A cur2 (by omega)).mono ?_
    rintro e w3 ⟨y, y0, y1, y2, rfl, curS, gr3⟩
    have y3 := y1 (by omega)
    clear y1 y2
    have hownS := hown2.kept gr3 (Or.inr hne0)
    have grS := grown_trans gr02 gr3
    clear gr02 gr3 hown2 cur2
    obtain ⟨r0, hr0⟩ : ∃ r : Nat, 50 + y = r := ⟨(50 + y).toNat, by omega⟩
    clear hne0
    go_wp2
    go_loopw [4, 5] (fun v m wr => ∃ (k r : Nat) (xs : List (Nat × Nat)), k + r ≤ 51 ∧ xs.length = k ∧ (∀ (j : Nat) (p : Nat × Nat), xs[j]? = some p → W64 p) ∧ m = .int .i64 r ∧ wr.ownsRow w0.heap.size 24 1 v k (xs.map cq) ∧ Cur wr w.heap.size g A len cap ∧ w0.grownBy wr (some g))
      (fun _ m _ => (intOf m).toNat)
    case atStart => exact ⟨0, r0, [], by omega, rfl, (fun j x h => by simp at h), rfl, hownS, curS, grS⟩
    case round =>
      obtain ⟨k, r, xs, hk, hxs, hbd, rfl, hown, cur, hgr⟩ := hrel
      have HB := Lib.hid hbd
      clear hbd
      by_cases hlt : 0 < r
      · have hlt' : (0 : Int) < (r : Int) := by omega
        have hne : u4.ownBlock ≠ some g := fun e => by have := (hown.lt g e).1; omega
        go_wp2_with fail
        refine (d_vector 2000 _ _ g len cap A cur (by omega) (by omega)).mono ?_
        rintro e w5 ⟨a', b', al', bl', rfl, cur5, gr5⟩
        have hown5 := hown.kept gr5 (Or.inr hne)
        have hgr5 := grown_trans hgr gr5
        have hsz5 := hgr5.size
        clear hown hgr cur gr5
        go_wp2_with (at_builtin; refine wpList_append_own _ rfl _ _ 55 rfl w0.heap.size 24 i0 (.complex .f64 0 0) 1 16 Try.underlying55 hi hz0 hz1 hz2 rfl (by decide) _ _ _ rfl (hown5.alloc _) ⟨w5.heap.size, 0, none⟩ 1 1 [.complex .f64 a' b'] rfl rfl (World.news_of_block (cs := #[.complex .f64 a' b']) (t := 24) (fr := (0, 0)) (heap_alloc_new w5 _)) (by simp [Value.oneCell']) (by unfold maxLen; omega) (by omega) (by simp; omega) ?_; intro v' w7 hown7 hgrow _)
        have hgA := World.grownBy_alloc w5 (.cells #[.complex .f64 a' b'] 24) none
        have cur7 : Cur w7 w.heap.size g A len cap := (cur5.alloc _).grown_far hgrow hne (fun j hj => by have := (hown5.lt j hj).1; omega)
        have hgr7 : w0.grownBy w7 (some g) := ⟨hgrow.os.trans hgr5.os, hgrow.tape.trans hgr5.tape, hgrow.output.trans hgr5.output, Nat.le_trans hgr5.size (Nat.le_trans hgA.size hgrow.size), fun j hj hr =>
          (hgrow.block j (Nat.lt_of_lt_of_le hj (Nat.le_trans hgr5.size hgA.size)) (fun e => by have := (hown5.lt j e.symm).1; omega)).trans ((hgA.block j (Nat.lt_of_lt_of_le hj hgr5.size) (by simp)).trans (hgr5.block j hj hr))⟩
        have HN := Lib.hid (w64_more (x := (a', b')) HB.out ⟨al', bl'⟩)
        clear hown5 hgr5 cur5 hgrow hgA
        go_wp2
        go_roundw
        case rel => exact ⟨k + 1, r - 1, xs ++ [(a', b')], by omega, by simp [hxs], HN.out, by go_num, by rw [List.map_append]; exact hown7, cur7, hgr7⟩
        case measure => simp [intOf]; omega
      · obtain rfl : r = 0 := by omega
        have HO := Lib.hid (owns_low (B' := w.heap.size) hown hz)
        clear hown
        go_wp2
        go_ret
        exact ⟨k, xs, u4, by omega, hxs, HB.out, rfl, HO.out, below_cur b0 (Nat.le_refl _) hgr hg0⟩
end Go.Proofs.Ytonfenekjocopaa
