/- The drawing of texts: l01Long, l01Text, DrawEncodeHex. -/
import Derived.Test.YtbjaedmifacgaaaDoorDr2
import Derived.Test.YtbjaedmifacgaaaDoorM1
namespace Go.Proofs.YtbjaedmifacgaaaDoor
open Go.RowKit

theorem Tryd.infoU8t : (Tryd.prog.info? 5).map (fun i => (i.zero, i.size, i.bytes)) = some (some (.int .u8 0), 1, 1) := by kernel_rfl
theorem grown_new {w w' : World} (h : w.grownBy w' none) {g i : Nat} (hg : w.heap.size ≤ g) (u : Value) : w.grownBy (w'.setCell ⟨g, i, none⟩ u) none :=
  ⟨h.os, h.tape, h.output, Nat.le_trans h.size (by simp [World.setCell]), fun k hk _ => (Below.heap_setCell _ _ _ _ (show k ≠ g by omega)).trans (h.block k hk (by simp))⟩
theorem grown_any {w w' : World} (h : w.grownBy w' none) (r : Option Nat) : w.grownBy w' r := ⟨h.os, h.tape, h.output, h.size, fun k hk _ => h.block k hk (by simp)⟩

set_option maxRecDepth 100000 in
set_option maxHeartbeats 1000000 in
theorem d_long (n : Nat) (x : Int) (w : World) (hn : n ≤ 30000) :
    Calls Tryd.prog 13 #[.int .i64 n, .int .u8 x] w fun e w' => ∃ s : ByteArray, s.size = n ∧ e = .returned (.string s) ∧ w.grownBy w' none := by
  obtain ⟨i0, hi, hz0, hz1, hz2⟩ := info_parts Tryd.infoU8t
  go_enter Tryd.func13, Tryd.ntmps13
  go_wp2_with (at_make; refine wpList_make_full _ rfl _ _ _ rfl w.heap.size 5 i0 _ 1 Tryd.underlying22 hi hz0 hz1 _ _ _ _ n rfl rfl rfl rfl (by rw [hz2]; omega) (by unfold maxLen; omega) (Nat.le_refl _) ?_; intro wa hown0 hgrow0)
  have hown1 : wa.ownsRow w.heap.size 5 1 (.slice (some ⟨w.heap.size, 0, none⟩) n n) n ((List.replicate n (0 : Int)).map (Value.int .u8)) := by
    have e : (madeCells (Value.int .u8 0).cells (n * 1)).toList = (List.replicate n (0 : Int)).map (Value.int .u8) := by
      rw [Nat.mul_one, List.map_replicate]; exact toList_madeCells_one _ _
    rw [← e]; exact hown0
  clear hown0
  go_loopw [6] (fun i wr => ∃ (k : Nat) (xs : List Int), k ≤ n ∧ xs.length = n ∧ i = .int .i64 k ∧ wr.ownsRow w.heap.size 5 1 (.slice (some ⟨w.heap.size, 0, none⟩) n n) n (xs.map (Value.int .u8)) ∧ w.grownBy wr none)
    (fun i _ => n - (intOf i).toNat)
  case atStart => exact ⟨0, _, Nat.zero_le _, by simp, rfl, hown1, hgrow0⟩
  case round =>
    obtain ⟨k, xs, hk, hxs, rfl, hown, hgr⟩ := hrel
    by_cases hlt : k < n
    · have hc := hown.cellAt k (by omega)
      rw [List.getElem?_map, List.getElem?_eq_getElem (show k < xs.length by omega)] at hc
      have hf := hown.frozenAt k
      have k0 : (0 : Int) ≤ (k : Int) := by omega
      have k1 : (k : Int) < (n : Int) := by omega
      have hst := hown.stored k (.int .u8 x)
      rw [show (xs.map (Value.int .u8)).set k (.int .u8 x) = (xs.set k x).map (Value.int .u8) by rw [List.map_set]] at hst
      go_wp2
      go_roundw
      case rel => exact ⟨k + 1, xs.set k x, by omega, by simp [hxs], by go_num, hst.1, grown_new hgr (Nat.le_refl _) _⟩
      case measure => simp [intOf]; omega
    · obtain rfl : k = n := by omega
      have hv := conv_owned Tryd.underlying22 Tryd.underlying5 Tryd.underlying9 hown
      go_wp2
      go_ret
      exact ⟨strOfNums xs, by rw [strOfNums_size, hxs], rfl, hgr⟩


end Go.Proofs.YtbjaedmifacgaaaDoor
