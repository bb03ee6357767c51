/- The drawing of texts: l01Long, l01Text, DrawEncodeHex. -/
import Derived.Test.YtciebalkfeoabaaDoorDr2
import Derived.Test.YtciebalkfeoabaaDoorM1
namespace Go.Proofs.YtciebalkfeoabaaDoor
open Go.RowKit

theorem Tryd.infoU8t : (Tryd.prog.info? 5).map (fun i => (i.zero, i.size, i.bytes)) = some (some (.int .u8 0), 1, 1) := by kernel_rfl
theorem grown_new {w w' : World} (h : w.grownBy w' none) {g i : Nat} (hg : w.heap.size ≤ g) (u : Value) : w.grownBy (w'.setCell ⟨g, i, none⟩ u) none :=
  ⟨h.os, h.tape, h.output, Nat.le_trans h.size (by simp [World.setCell]), fun k hk _ => (Below.heap_setCell _ _ _ _ (show k ≠ g by omega)).trans (h.block k hk (by simp))⟩
theorem grown_any {w w' : World} (h : w.grownBy w' none) (r : Option Nat) : w.grownBy w' r := ⟨h.os, h.tape, h.output, h.size, fun k hk _ => h.block k hk (by simp)⟩

set_option maxRecDepth 100000 in
set_option maxHeartbeats 1000000 in
theorem d_long (n : Nat) (x : Int) (w : World) (hn : n ≤ 30000) :
    Calls Tryd.prog 37 #[.int .i64 n, .int .u8 x] w fun e w' => ∃ s : ByteArray, s.size = n ∧ e = .returned (.string s) ∧ w.grownBy w' none := by
  obtain ⟨i0, hi, hz0, hz1, hz2⟩ := info_parts Tryd.infoU8t
  go_enter Tryd.func37, Tryd.ntmps37
  go_wp2_with (at_make; refine wpList_make_full _ rfl _ _ _ rfl w.heap.size 5 i0 _ 1 Tryd.underlying22 hi hz0 hz1 _ _ _ _ n rfl rfl rfl rfl (by rw [hz2]; omega) (by unfold maxLen; omega) (Nat.le_refl _) ?_; intro wa hown0 hgrow0)
  have hown1 : wa.ownsRow w.heap.size 5 1 (.slice (some ⟨w.heap.size, 0, none⟩) n n) n ((List.replicate n (0 : Int)).map (Value.int .u8)) := by
    have e : (madeCells (Value.int .u8 0).cells (n * 1)).toList = (List.replicate n (0 : Int)).map (Value.int .u8) := by
      rw [Nat.mul_one, List.map_replicate]; exact toList_madeCells_one _ _
    rw [← e]; exact hown0
  clear hown0
  go_loopw [6] (fun i wr => ∃ (k : Nat) (xs : List Int), k ≤ n ∧ xs.length = n ∧ i = .int .i64 k ∧ wr.ownsRow w.heap.size 5 1 (.slice (some ⟨w.heap.size, 0, none⟩) n n) n (xs.map (Value.int .u8)) ∧ w.grownBy wr none)
    (fun i _ => n - (intOf i).toNat)
  case atStart => exact ⟨0, _, Nat.zero_le _, by simp, rfl, hown1, hgrow0⟩
  case round =>
    obtain ⟨k, xs, hk, hxs, rfl, hown, hgr⟩ := hrel
    by_cases hlt : k < n
    · have hc := hown.cellAt k (by omega)
      rw [List.getElem?_map, List.getElem?_eq_getElem (show k < xs.length by omega)] at hc
      have hf := hown.frozenAt k
      have k0 : (0 : Int) ≤ (k : Int) := by omega
      have k1 : (k : Int) < (n : Int) := by omega
      have hst := hown.stored k (.int .u8 x)
      rw [show (xs.map (Value.int .u8)).set k (.int .u8 x) = (xs.set k x).map (Value.int .u8) by rw [List.map_set]] at hst
      go_wp2
      go_roundw
      case rel => exact ⟨k + 1, xs.set k x, by omega, by simp [hxs], by go_num, hst.1, grown_new hgr (Nat.le_refl _) _⟩
      case measure => simp [intOf]; omega
    · obtain rfl : k = n := by omega
      have hv := conv_owned Tryd.underlying22 Tryd.underlying5 Tryd.underlying9 hown
      go_wp2
      go_ret
      exact ⟨strOfNums xs, by rw [strOfNums_size, hxs], rfl, hgr⟩

set_option maxRecDepth 100000 in
set_option maxHeartbeats 1000000 in
theorem d_text (n : Nat) (w : World) (B g len cap : Nat) (A : Option Addr) (hc : Cur w B g A len cap) (hn : n ≤ 5000) :
    Calls Tryd.prog 39 #[.pointer (some ⟨g, 0, none⟩), .int .i64 n] w fun e w' => ∃ s : ByteArray, s.size = n ∧ e = .returned (.string s) ∧ Cur w' B g A len cap ∧ w.grownBy w' (some g) := by
  obtain ⟨i0, hi, hz0, hz1, hz2⟩ := info_parts Tryd.infoU8t
  have hgl := hc.lt
  have hBg := hc.1
  go_enter Tryd.func39, Tryd.ntmps39
  go_wp2
  go_loopw [5, 6] (fun v i wr => ∃ (k : Nat) (xs : List Int), k ≤ n ∧ xs.length = k ∧ i = .int .i64 k ∧ wr.ownsRow w.heap.size 5 1 v k (xs.map (Value.int .u8)) ∧ Cur wr B g A len cap ∧ w.grownBy wr (some g))
    (fun _ i _ => n - (intOf i).toNat)
  case atStart => exact ⟨0, [], Nat.zero_le _, rfl, rfl, ⟨by simp, .inr ⟨w.heap.size, 0, #[], rfl, Nat.le_refl _, heap_alloc_new w _, by simp, by simp [maxLen], by simp, by simp⟩⟩, hc.alloc _, World.grownBy_alloc w _ _⟩
  case round =>
    obtain ⟨k, xs, hk, hxs, rfl, hown, cur, hgr⟩ := hrel
    by_cases hlt : k < n
    · go_wp2_with fail
      refine (d_byte _ B g len cap A cur).mono ?_
      rintro e w1 ⟨x, x0, x1, rfl, cur1, gr1⟩
      have hne : u5.ownBlock ≠ some g := fun e => by have := (hown.lt g e).1; omega
      have hown1 := hown.kept gr1 (Or.inr hne)
      have hgr1 := grown_trans hgr gr1
      have hsz := hgr1.size
      clear hown hgr cur gr1
      go_wp2_with (at_builtin; refine wpList_append_own _ rfl _ _ 22 rfl w.heap.size 5 i0 (.int .u8 0) 1 1 Tryd.underlying22 hi hz0 hz1 hz2 rfl (by decide) _ _ _ rfl (hown1.alloc _) ⟨w1.heap.size, 0, none⟩ 1 1 [.int .u8 x] rfl rfl (World.news_of_block (cs := #[.int .u8 x]) (t := 5) (fr := (0, 0)) (heap_alloc_new w1 _)) (by simp [Value.oneCell']) (by unfold maxLen; omega) (by omega) (by simp; omega) ?_; intro v' w2 hown2 hgrow _)
      have hgA := World.grownBy_alloc w1 (.cells #[.int .u8 x] 5) none
      have cur2 : Cur w2 B g A len cap := (cur1.alloc _).grown_far hgrow hne (fun j hj => by have := (hown1.lt j hj).1; omega)
      have hgr2 : w.grownBy w2 (some g) := ⟨hgrow.os.trans hgr1.os, hgrow.tape.trans hgr1.tape, hgrow.output.trans hgr1.output, Nat.le_trans hgr1.size (Nat.le_trans hgA.size hgrow.size), fun j hj hr =>
        (hgrow.block j (Nat.lt_of_lt_of_le hj (Nat.le_trans hgr1.size hgA.size)) (fun e => by have := (hown1.lt j e.symm).1; omega)).trans ((hgA.block j (Nat.lt_of_lt_of_le hj hgr1.size) (by simp)).trans (hgr1.block j hj hr))⟩
      clear hown1 hgr1 cur1 hgrow hgA
      go_wp2
      go_roundw
      case rel => exact ⟨k + 1, xs ++ [x], by omega, by simp [hxs], by go_num, by rw [List.map_append]; exact hown2, cur2, hgr2⟩
      case measure => simp [intOf]; omega
    · obtain rfl : k = n := by omega
      have hv := conv_owned Tryd.underlying22 Tryd.underlying5 Tryd.underlying9 hown
      go_wp2
      go_ret
      exact ⟨strOfNums xs, by rw [strOfNums_size, hxs], rfl, cur, hgr⟩

set_option maxRecDepth 100000 in
set_option maxHeartbeats 1000000 in
theorem d_enchex (w : World) (len cap : Nat) (A : Option Addr) (hcode : Code w w.heap.size A len) :
    Calls Tryd.prog 14 #[.slice A len cap] w fun e w' => ∃ s : ByteArray, s.size ≤ 20001 ∧ e = .returned (.string s) ∧ Below w.heap.size w w' := by
  go_enter Tryd.func14, Tryd.ntmps14
  go_wp2_with fail
  refine (d_new w w.heap.size len cap A (Nat.le_refl _) hcode).mono ?_
  rintro e w1 ⟨g, rfl, cur1, b1⟩
  go_wp2_with fail
  refine (d_once _ _ _ g len cap A cur1 (by omega)).mono ?_
  rintro e w2 ⟨t, rfl, cur2, gr2⟩
  have b2 := below_cur b1 (Nat.le_refl _) gr2 cur2.1
  cases t
  · go_wp2_with fail
    refine (d_below _ _ _ g len cap A cur2 (by omega)).mono ?_
    rintro e w3 ⟨x, x0, x1, x2, rfl, cur3, gr3⟩
    have x3 := x1 (by omega)
    clear x1 x2
    obtain ⟨k, rfl⟩ : ∃ k : Nat, x = k := ⟨x.toNat, by omega⟩
    have b3 := below_cur b2 (Nat.le_refl _) gr3 cur2.1
    go_wp2_with fail
    refine (d_text k _ _ g len cap A cur3 (by omega)).mono ?_
    rintro e w4 ⟨s, hs, rfl, cur4, gr4⟩
    go_wp2
    go_ret
    exact ⟨s, by omega, rfl, below_cur b3 (Nat.le_refl _) gr4 cur2.1⟩
  · go_wp2_with fail
    refine (d_below _ _ _ g len cap A cur2 (by omega)).mono ?_
    rintro e w3 ⟨x, x0, x1, x2, rfl, cur3, gr3⟩
    have x3 := x1 (by omega)
    clear x1 x2
    obtain ⟨k, hk⟩ : ∃ k : Nat, 20000 + x = k := ⟨(20000 + x).toNat, by omega⟩
    have b3 := below_cur b2 (Nat.le_refl _) gr3 cur2.1
    go_wp2_with fail

    refine (d_long k 200 _ (by omega)).mono ?_
    rintro e w4 ⟨s, hs, rfl, gr4⟩
    have b4 := b3.grown gr4 b3.size (fun j h => by cases h)
    have hk2 : k ≤ 20001 := by omega
    clear hk
    go_wp2
    go_ret
    exact ⟨s, by omega, rfl, b4⟩
end Go.Proofs.YtciebalkfeoabaaDoor
