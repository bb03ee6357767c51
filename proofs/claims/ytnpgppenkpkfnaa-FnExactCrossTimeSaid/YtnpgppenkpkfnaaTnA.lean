/- The walks of allTurns and Turn; the walk of the law FnExactTurn. -/
import Derived.Test.YtnpgppenkpkfnaaTnW
import Derived.Laws.CopyOwn
namespace Go.Proofs.Ytnpgppenkpkfnaa
open Go.RowKit Ieee

def zeroT : Array Value := Array.replicate 360 (.complex .f64 0 0)
theorem Try.infoTurns : (Try.prog.info? 104).map (fun i => (i.zero, i.size)) = some (some (.agg zeroT), 360) := by kernel_rfl

/-- An array of turns, the first k of them filled in. -/
def TurnsTo (cs : Array Value) (k : Nat) : Prop := cs.size = 360 ∧ (∀ i, i < k → cs[i]? = some (tv i)) ∧ cs.all (·.oneCell') = true
theorem size_zeroT : zeroT.size = 360 := Array.size_replicate
theorem zero_turns : TurnsTo zeroT 0 := ⟨size_zeroT, fun i h => by omega, Array.all_eq_true_iff_forall_mem.2 fun v hv => by rw [(Array.mem_replicate.1 hv).2]; rfl⟩
theorem TurnsTo.set {cs : Array Value} {k : Nat} (h : TurnsTo cs k) (hk : k < 360) : TurnsTo (cs.setIfInBounds k (tv k)) (k + 1) := by
  obtain ⟨h1, h2, h3⟩ := h
  refine ⟨by simpa using h1, fun i hi => ?_, ?_⟩
  · rw [Array.getElem?_setIfInBounds]
    by_cases e : k = i
    · subst e
      simp [h1, hk]
    · rw [if_neg e]; exact h2 i (by omega)
  · rw [Array.all_eq_true_iff_forall_mem] at h3 ⊢
    intro v hv
    rcases Array.mem_or_eq_of_mem_setIfInBounds hv with h | h
    · exact h3 v h
    · subst h; rfl

/-- A whole array stored over another, as the walk meets it. -/
theorem run_storeCells_row {P : Program} (w : World) (g : Nat) (t : TypeId) (old cs : Array Value) (hg : w.heap[g]? = some (.cells old t (0, 0))) (hi : (P.info? t).map (·.size) = some cs.size) (ho : old.size = cs.size) (h1 : cs.all (·.oneCell') = true) :
    (storeCells ⟨g, 0, none⟩ cs.toList).run P w = .ok () (w.setRow g cs) := by
  have := run_storeVar_row (P := P) w g t t old cs hg hi ho h1
  cases hq : P.info? t with
  | none => simp [hq] at hi
  | some i =>
    have hs : cs.size = i.size := by simp [hq] at hi; omega
    simpa [storeVar, sizeOf, typeInfo, hq, Value.cells, hs] using this
theorem setRow_self (w : World) (g : Nat) (old cs : Array Value) (t : TypeId) (fr : Nat × Nat) (hg : w.heap[g]? = some (.cells old t fr)) : (w.setRow g cs).heap[g]? = some (.cells cs t fr) := by
  simp [World.setRow, Array.getElem?_modify, hg]

set_option maxRecDepth 100000 in
set_option maxHeartbeats 1000000 in
theorem i_turns (w : World) :
    Calls Try.prog 81 #[] w fun e w' => ∃ cs, TurnsTo cs 360 ∧ e = .returned (.agg cs) ∧ Below w.heap.size w w' := by
  obtain ⟨hz, hi⟩ := zero_of_info Try.infoTurns
  go_enter Try.func81, Try.ntmps81
  go_wp2
  go_loopw [2, 3, 4] (fun z _ i wr => ∃ (k : Nat) (cs : Array Value), k ≤ 360 ∧ i = .int .i64 k ∧ z = .complex .f64 (trn k).1 (trn k).2 ∧ TurnsTo cs k ∧ wr.heap[w.heap.size]? = some (.cells zeroT 104 (0, 0)) ∧ wr.heap[w.heap.size + 1]? = some (.cells cs 104 (0, 0)) ∧ Below w.heap.size w wr)
    (fun _ _ i _ => 360 - (intOf i).toNat)
  case atStart =>
    refine ⟨0, zeroT, by omega, rfl, rfl, zero_turns, ?_, ?_, ?_⟩
    · show ((w.heap.push _).push _)[w.heap.size]? = _
      rw [Array.getElem?_push, if_neg (by simp), Array.getElem?_push, if_pos rfl]
    · show ((w.heap.push _).push _)[w.heap.size + 1]? = _
      rw [Array.getElem?_push, if_pos (by simp)]
    · exact ((Below.refl _ _).alloc (Nat.le_refl _) _).alloc (by simp) _
  case round =>
    obtain ⟨k, cs, hk, rfl, rfl, ht, hb0, hb1, hbel⟩ := hrel
    have hs := ht.1
    by_cases hlt : k < 360
    · have hc : wr.cell? ⟨w.heap.size + 1, k, none⟩ = some cs[k] := by
        rw [cell_of_row wr _ k _ _ _ hb1]; exact Array.getElem?_eq_getElem (by omega)
      have hf : wr.frozen? ⟨w.heap.size + 1, k, none⟩ = false := by simp [World.frozen?, hb1]
      have hst : (store ⟨w.heap.size + 1, k, none⟩ (.complex .f64 (trn k).1 (trn k).2)).run Try.prog wr = .ok () (wr.setCell ⟨w.heap.size + 1, k, none⟩ (.complex .f64 (trn k).1 (trn k).2)) := by
        rw [run_store _ _ _ _ _ rfl, hc]; simp [hf]
      have k1 : (k : Int) < 360 := by omega
      obtain ⟨ac, bd, ad', bc, h1, h2, h3, h4, h5, h6⟩ := trn_ops k (by omega)
      have hp := fun w => i_product _ _ _ _ _ _ _ _ _ _ w h1 h2 h3 h4 h5 h6
      clear h1 h2 h3 h4 h5 h6 hz hi hc hf
      have HT := Lib.hid ht
      have HB := Lib.hid (And.intro hb0 (And.intro hb1 hbel))
      clear ht hb0 hb1 hbel
      generalize hz : trn (k + 1) = z at *
      go_wp2_with (go_at_call 84; ((with_reducible refine (hp _).mono ?_); rintro e w' ⟨rfl, rfl⟩))
      go_roundw
      case rel =>
        obtain ⟨hb0, hb1, hbel⟩ := HB.out
        refine ⟨k + 1, _, by omega, by go_num, by rw [hz], HT.out.set hlt, ?_, ?_, hbel.setCell (by simp) _⟩
        · rw [Below.heap_setCell _ _ _ _ (by simp)]; exact hb0
        · simp [World.setCell, Array.getElem?_modify, hb1, tv]
      case measure => simp [intOf]; omega
    · have hk60 : k = 360 := by omega
      subst hk60
      go_wp2_with fail
      refine wp_load_row _ _ (by rfl) (w.heap.size + 1) (by rfl) _ cs (0, 0) _ hb1 Try.underlying104 rfl (by rw [hs]; exact hi) ?_
      go_wp2_with fail
      have hsc := run_storeCells_row (P := Try.prog) wr _ _ zeroT cs hb0 (by rw [hs]; exact hi) (by rw [hs]; exact size_zeroT) ht.2.2
      have hb2 := setRow_self wr _ _ cs _ _ hb0
      have hbe : Below w.heap.size w (wr.setRow w.heap.size cs) := below_setRow hbel (Nat.le_refl _) cs
      go_wp2_with fail
      rw [hsc]
      go_wp2_with fail
      refine bodyPost_ret (v := .agg cs) (results_cell_row (p := 0) (ty := 104) (by rfl) _ _ w.heap.size _ cs (0, 0) _ (by rfl) hb2 Try.underlying104 rfl (by rw [hs]; exact hi)) rfl ⟨cs, ht, rfl, hbe⟩

set_option maxRecDepth 100000 in
set_option maxHeartbeats 1000000 in
theorem i_turn (n : Int) (w : World) :
    Calls Try.prog 71 #[.int .i64 n] w fun e w' => e = .returned (tv (n % 360).toNat) ∧ Below w.heap.size w w' := by
  obtain ⟨hz, hi⟩ := zero_of_info Try.infoTurns
  obtain ⟨m, hm⟩ : ∃ m : Nat, m = (n % 360).toNat := ⟨_, rfl⟩
  have hm2 : n % 360 = (m : Int) := by omega
  have hm3 : m < 360 := by omega
  rw [← hm]
  unfold tv
  clear hm
  go_enter Try.func71, Try.ntmps71
  go_wp2_with fail
  refine (i_turns w).mono ?_
  rintro e w1 ⟨cs, ht, rfl, b1⟩
  have hst := run_storeCells_new (P := Try.prog) w1 104 zeroT cs (by rw [ht.1]; exact hi) (by rw [ht.1]; exact size_zeroT) ht.2.2
  have hc : (w1.alloc (.cells cs 104)).cell? ⟨w1.heap.size, m, none⟩ = some (.complex .f64 (trn m).1 (trn m).2) := by
    rw [cell_of_row _ _ m _ _ _ (heap_alloc_last w1 _)]; exact ht.2.1 m hm3
  have hb2 : Below w.heap.size w (w1.alloc (.cells cs 104)) := b1.alloc b1.size _
  have m1 : (m : Int) < 360 := by omega
  have hsz := ht.1
  clear hi ht
  go_wp2_with fail
  refine (i_deg n _).mono ?_
  rintro e w2 ⟨rfl, rfl⟩
  rw [hm2]
  clear hst hz hm2
  go_wp2
  go_ret
  exact ⟨rfl, hb2⟩

end Go.Proofs.Ytnpgppenkpkfnaa
