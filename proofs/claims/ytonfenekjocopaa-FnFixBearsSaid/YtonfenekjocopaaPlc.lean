/- The drawing of places: DrawPlaces. -/
import Derived.Test.YtonfenekjocopaaDr2
import Derived.Deep.RegionHeld3
import Derived.Deep.AppendLies
import Derived.Deep.DrawnRows
namespace Go.Proofs.Ytonfenekjocopaa
open Go.RowKit

theorem Try.infoInt : (Try.prog.info? 3).map (fun i => (i.zero, i.size, i.bytes)) = some (some (.int .i64 0), 1, 8) := by kernel_rfl

/-- A slice of ints, of the call's own, read. -/
theorem ints_own {w : World} {B t n : Nat} {v : Value} {xs : List Int} (h : w.ownsRow B t 1 v n (xs.map (Value.int .i64))) (hn : n ≠ 0) :
    ∃ g cap, v = .slice (some ⟨g, 0, none⟩) n cap ∧ n ≤ cap ∧ B ≤ g ∧ g < w.heap.size ∧ ∀ j x, xs[j]? = some x → w.cell? ⟨g, j, none⟩ = some (.int .i64 x) := by
  obtain ⟨hl, ⟨_, h0⟩ | ⟨g, cap, cur, hv, hb, hg, hc, _, _, ht⟩⟩ := h
  · exact absurd h0 hn
  · refine ⟨g, cap, hv, hc, hb, ?_, fun j x hj => ?_⟩
    · rcases Nat.lt_or_ge g w.heap.size with h' | h'
      · exact h'
      · rw [Array.getElem?_eq_none h'] at hg; cases hg
    · rw [cell_of_row w g j _ _ _ hg]
      have h1 : (xs.map (Value.int .i64))[j]? = some (.int .i64 x) := by rw [List.getElem?_map, hj]; rfl
      rw [← ht, List.getElem?_take] at h1
      split at h1
      · rw [← Array.getElem?_toList]; exact h1
      · cases h1

set_option maxRecDepth 100000 in
set_option maxHeartbeats 1000000 in
theorem d_places (w : World) (len cap : Nat) (A : Option Addr) (hcode : Code w w.heap.size A len) :
    Calls Try.prog 14 #[.slice A len cap] w fun e w' => ∃ (xs : List Int) (v : Value), xs.length = 12 ∧ (∀ (j : Nat) (x : Int), xs[j]? = some x → 0 ≤ x ∧ x < 10000) ∧ e = .returned v ∧ w'.ownsRow w.heap.size 3 1 v 12 (xs.map (Value.int .i64)) ∧ Below w.heap.size w w' := by
  obtain ⟨i0, hi, hz0, hz1, hz2⟩ := info_parts Try.infoInt
  go_enter Try.func14, Try.ntmps14
  go_wp2_with fail
  refine (d_new w w.heap.size len cap A (Nat.le_refl _) hcode).mono ?_
  rintro e w1 ⟨g, rfl, cur1, b1⟩
  have hgl := cur1.lt
  have hBg := cur1.1
  have hs1 := b1.size
  go_wp2
  go_loopw [4, 5] (fun v i wr => ∃ (k : Nat) (xs : List Int), k ≤ 12 ∧ xs.length = k ∧ (∀ (j : Nat) (x : Int), xs[j]? = some x → 0 ≤ x ∧ x < 10000) ∧ i = .int .i64 k ∧ wr.ownsRow w1.heap.size 3 1 v k (xs.map (Value.int .i64)) ∧ Cur wr w.heap.size g A len cap ∧ w1.grownBy wr (some g))
    (fun _ i _ => 12 - (intOf i).toNat)
  case atStart => exact ⟨0, [], Nat.zero_le _, rfl, (fun j x h => by simp at h), rfl, ⟨by simp, .inr ⟨w1.heap.size, 0, #[], rfl, Nat.le_refl _, heap_alloc_new w1 _, by simp, by simp [maxLen], by simp, by simp⟩⟩, cur1.alloc _, World.grownBy_alloc w1 _ _⟩
  case round =>
    obtain ⟨k, xs, hk, hxs, hbd, rfl, hown, cur, hgr⟩ := hrel
    have HB := Lib.hid hbd
    clear hbd
    by_cases hlt : k < 12
    · go_wp2_with fail
      refine (d_below 10000 _ _ g len cap A cur (by omega)).mono ?_
      rintro e w2 ⟨x, x0, x1, x2, rfl, cur2, gr2⟩
      have x3 := x1 (by omega)
      clear x1 x2
      have hne : u4.ownBlock ≠ some g := fun e => by have := (hown.lt g e).1; omega
      have hown1 := hown.kept gr2 (Or.inr hne)
      have hgr1 := grown_trans hgr gr2
      have hsz := hgr1.size
      clear hown hgr cur gr2
      go_wp2_with (at_builtin; refine wpList_append_own _ rfl _ _ 32 rfl w1.heap.size 3 i0 (.int .i64 0) 1 8 Try.underlying32 hi hz0 hz1 hz2 rfl (by decide) _ _ _ rfl (hown1.alloc _) ⟨w2.heap.size, 0, none⟩ 1 1 [.int .i64 x] rfl rfl (World.news_of_block (cs := #[.int .i64 x]) (t := 3) (fr := (0, 0)) (heap_alloc_new w2 _)) (by simp [Value.oneCell']) (by unfold maxLen; omega) (by omega) (by simp; omega) ?_; intro v' w3 hown2 hgrow _)
      have hgA := World.grownBy_alloc w2 (.cells #[.int .i64 x] 3) none
      have cur3 : Cur w3 w.heap.size g A len cap := (cur2.alloc _).grown_far hgrow hne (fun j hj => by have := (hown1.lt j hj).1; omega)
      have hgr2 : w1.grownBy w3 (some g) := ⟨hgrow.os.trans hgr1.os, hgrow.tape.trans hgr1.tape, hgrow.output.trans hgr1.output, Nat.le_trans hgr1.size (Nat.le_trans hgA.size hgrow.size), fun j hj hr =>
        (hgrow.block j (Nat.lt_of_lt_of_le hj (Nat.le_trans hgr1.size hgA.size)) (fun e => by have := (hown1.lt j e.symm).1; omega)).trans ((hgA.block j (Nat.lt_of_lt_of_le hj hgr1.size) (by simp)).trans (hgr1.block j hj hr))⟩
      clear hown1 hgr1 cur2 hgrow hgA
      have hnew : ∀ (j : Nat) (y : Int), (xs ++ [x])[j]? = some y → 0 ≤ y ∧ y < 10000 := fun j y h => by
        rw [List.getElem?_append] at h
        split at h
        · exact HB.out j y h
        · rw [List.getElem?_singleton] at h
          split at h
          · injection h with h; omega
          · cases h
      have HN := Lib.hid hnew
      clear hnew
      go_wp2
      go_roundw
      case rel => exact ⟨k + 1, xs ++ [x], by omega, by simp [hxs], HN.out, by go_num, by rw [List.map_append]; exact hown2, cur3, hgr2⟩
      case measure => simp [intOf]; omega
    · obtain rfl : k = 12 := by omega
      have hB := below_cur b1 (Nat.le_refl _) hgr hBg
      have hO : wr.ownsRow w.heap.size 3 1 u4 12 (xs.map (Value.int .i64)) := by
        refine ⟨hown.1, ?_⟩
        rcases hown.2 with h | ⟨g', c, cur', h1, h2, h3⟩
        · exact .inl h
        · exact .inr ⟨g', c, cur', h1, Nat.le_trans hs1 h2, h3⟩
      have HO := Lib.hid hO
      clear hO hown
      go_wp2
      go_ret
      exact ⟨xs, u4, hxs, HB.out, rfl, HO.out, hB⟩
end Go.Proofs.Ytonfenekjocopaa
