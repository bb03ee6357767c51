/- The laws' marks: eqIntS, markIntS, heldIntS, over lists of whole numbers in blocks. -/
import Derived.Test.YtlliiecdadiagaaOwnA
namespace Go.Proofs.Ytlliiecdadiagaa
open Go.RowKit
set_option linter.unusedVariables false
set_option linter.unusedSimpArgs false

/-- Whole numbers at the head of a block. -/
def InB (w : World) (A : Option Addr) (n g : Nat) (f : Nat → Int) : Prop := 0 < n → A = some ⟨g, 0, none⟩ ∧ ∃ cs t, w.heap[g]? = some (.cells cs t (0, 0)) ∧ n ≤ cs.size ∧ ∀ j, j < n → cs[j]? = some (.int .i64 (f j))
theorem InB.at {w : World} {A : Option Addr} {n g : Nat} {f : Nat → Int} (h : InB w A n g f) {j : Nat} (hj : j < n) : A = some ⟨g, 0, none⟩ ∧ w.cell? ⟨g, j, none⟩ = some (.int .i64 (f j)) := by
  obtain ⟨e, cs, t, h1, h2, h3⟩ := h (by omega)
  exact ⟨e, (cell_of_row w g j _ _ _ h1).trans (h3 j hj)⟩
theorem InB.same {w w' : World} {A : Option Addr} {n g : Nat} {f : Nat → Int} (h : InB w A n g f) (k : 0 < n → w'.heap[g]? = w.heap[g]?) : InB w' A n g f := fun hn => by
  obtain ⟨e, cs, t, h1, h2⟩ := h hn
  exact ⟨e, cs, t, (k hn).trans h1, h2⟩
theorem InB.below {w w' : World} {B : Nat} {A : Option Addr} {n g : Nat} {f : Nat → Int} (h : InB w A n g f) (b : Below B w w') (hB : w.heap.size ≤ B) : InB w' A n g f := h.same fun hn => by
  obtain ⟨_, cs, t, h1, _⟩ := h hn
  have := block_lt h1
  exact b.block g (by omega)
/-- Only the list has been written. -/
def GrI (w : World) (n g : Nat) (w' : World) : Prop := w.grownBy w' (if 0 < n then some g else none)
set_option maxRecDepth 100000 in
set_option maxHeartbeats 1000000 in
theorem l_hdI (A : Option Addr) (n cap g : Nat) (k : Int) (w : World) (hA : InB w A n g (fun j => k + j)) (hn : n ≤ 1048576) (h0 : 0 ≤ k) (h1 : k ≤ 4398046511104) :
    Calls Try.prog 48 #[.slice A n cap, .int .i64 k] w fun e w' => e = .returned (.int .i64 (k + n)) ∧ w = w' := by
  have HA := Lib.hid hA
  clear hA
  go_enter Try.func48, Try.ntmps48
  go_wp2_with fail
  go_loopw [1, 5] (fun kk ii wr => ∃ j : Nat, j ≤ n ∧ ii = .int .i64 j ∧ kk = .int .i64 (k + j) ∧ w = wr) (fun _ ii _ => n - (intOf ii).toNat)
  case atStart => exact ⟨0, Nat.zero_le _, rfl, by simp, rfl⟩
  case round =>
    obtain ⟨j, hj, rfl, rfl, rfl⟩ := hrel
    by_cases hlt : j < n
    · have hlt1 : (j : Int) < (n : Int) := by omega
      obtain ⟨rfl, kc⟩ := HA.out.at hlt
      go_wp2
      go_roundw
      case rel => exact ⟨j + 1, by omega, by go_num, by go_num, by first | rfl | trivial⟩
      case measure => simp [intOf]; omega
    · obtain rfl : j = n := by omega
      have hlt1 : ¬ (j : Int) < (j : Int) := by omega
      go_wp2
      go_ret
      exact ⟨rfl, rfl⟩
set_option maxRecDepth 100000 in
set_option maxHeartbeats 1000000 in
theorem l_mkI (A : Option Addr) (n cap g : Nat) (k : Int) (f : Nat → Int) (w : World) (hA : InB w A n g f) (hn : n ≤ 1048576) (h0 : 0 ≤ k) (h1 : k ≤ 4398046511104) :
    Calls Try.prog 47 #[.slice A n cap, .int .i64 k] w fun e w' => e = .returned (.int .i64 (k + n)) ∧ InB w' A n g (fun j => k + j) ∧ GrI w n g w' := by
  have HA := Lib.hid hA
  clear hA
  go_enter Try.func47, Try.ntmps47
  go_wp2_with fail
  go_loopw [1, 5] (fun kk ii wr => ∃ j : Nat, j ≤ n ∧ ii = .int .i64 j ∧ kk = .int .i64 (k + j) ∧ (0 < n → ∃ cs t, wr.heap[g]? = some (.cells cs t (0, 0)) ∧ n ≤ cs.size ∧ ∀ i, i < j → cs[i]? = some (.int .i64 (k + i))) ∧ GrI w n g wr) (fun _ ii _ => n - (intOf ii).toNat)
  case atStart => exact ⟨0, Nat.zero_le _, rfl, by simp, fun h => by
    obtain ⟨_, cs, t, c1, c2, _⟩ := HA.out h
    exact ⟨cs, t, c1, c2, fun i hi => by omega⟩, ⟨rfl, rfl, rfl, Nat.le_refl _, fun _ _ _ => rfl⟩⟩
  case round =>
    obtain ⟨j, hj, rfl, rfl, hc, hs⟩ := hrel
    by_cases hlt : j < n
    · have hlt1 : (j : Int) < (n : Int) := by omega
      obtain ⟨cs, t, c1, c2, c3⟩ := hc (by omega)
      obtain ⟨rfl, _⟩ := HA.out (by omega)
      obtain ⟨_, x5, f5⟩ := cell_at c1 rfl (show j < cs.size by omega)
      unfold GrI at hs
      rw [if_pos (show 0 < n by omega)] at hs
      have HN := Lib.hid (And.intro (heap_set_self (k := j) c1 (.int .i64 (k + j))) (And.intro (show ∀ i, i < j + 1 → (cs.setIfInBounds j (.int .i64 (k + j)))[i]? = some (.int .i64 (k + i)) from fun i hi => by
        by_cases hij : i = j
        · subst hij; rw [Array.getElem?_setIfInBounds_self_of_lt (by omega)]
        · rw [Array.getElem?_setIfInBounds_ne (fun e => hij e.symm)]; exact c3 i (by omega)) (grown_trans hs (grown_set wr g j (.int .i64 (k + j))))))
      have HC2 := Lib.hid c2
      clear hc hs c1 c3 c2
      go_wp2
      go_roundw
      case rel => exact ⟨j + 1, by omega, by go_num, by go_num, fun _ => ⟨_, t, HN.out.1, by simpa using HC2.out, HN.out.2.1⟩, by unfold GrI; rw [if_pos (show 0 < n by omega)]; exact HN.out.2.2⟩
      case measure => simp [intOf]; omega
    · obtain rfl : j = n := by omega
      have hlt1 : ¬ (j : Int) < (j : Int) := by omega
      have HN := Lib.hid (And.intro (show InB wr A j g (fun i => k + i) from fun h => by
        obtain ⟨cs, t, c1, c2, c3⟩ := hc h
        exact ⟨(HA.out h).1, cs, t, c1, c2, c3⟩) hs)
      clear hc hs
      go_wp2
      go_ret
      exact ⟨rfl, HN.out⟩
/-- A block with room. -/
def Blk (w : World) (g m : Nat) : Prop := ∃ cs t, w.heap[g]? = some (.cells cs t (0, 0)) ∧ m ≤ cs.size
theorem Blk.set {w : World} {g m : Nat} (h : Blk w g m) (k : Nat) (v : Value) : Blk (w.setCell ⟨g, k, none⟩ v) g m := by
  obtain ⟨cs, t, h1, h2⟩ := h
  exact ⟨_, t, heap_set_self (k := k) h1 v, by simpa using h2⟩
theorem Blk.at {w : World} {g m : Nat} (h : Blk w g m) {k : Nat} (hk : k < m) : ∃ v, w.cell? ⟨g, k, none⟩ = some v ∧ w.frozen? ⟨g, k, none⟩ = false := by
  obtain ⟨cs, t, h1, h2⟩ := h
  exact cell_at h1 rfl (by omega)
/-- The cell's value, as it stands. -/
noncomputable def cellV (w : World) (a : Addr) : Value := (w.cell? a).getD (.int .i64 0)
theorem Blk.cell {w : World} {g m : Nat} (h : Blk w g m) {k : Nat} (hk : k < m) : w.cell? ⟨g, k, none⟩ = some (cellV w ⟨g, k, none⟩) := by
  obtain ⟨v, h1, _⟩ := h.at hk
  simp [cellV, h1]
theorem Blk.soft {w : World} {g m : Nat} (h : Blk w g m) (k : Nat) : w.frozen? ⟨g, k, none⟩ = false := by
  obtain ⟨cs, t, h1, h2⟩ := h
  simp [World.frozen?, h1]
theorem grI3 {w wr : World} {n g : Nat} (h : GrI w n g wr) (hn : 0 < n) (a b c : Nat) (v u x : Value) : GrI w n g (((wr.setCell ⟨g, a, none⟩ v).setCell ⟨g, b, none⟩ u).setCell ⟨g, c, none⟩ x) := by
  unfold GrI at *
  rw [if_pos hn] at *
  exact grown_trans (grown_trans (grown_trans h (grown_set wr g a v)) (grown_set _ g b u)) (grown_set _ g c x)
theorem Blk.alloc {w : World} {g m : Nat} (h : Blk w g m) (o : Obj) : Blk (w.alloc o) g m := by
  obtain ⟨cs, t, h1, h2⟩ := h
  exact ⟨cs, t, (Below.heap_alloc w o g (block_lt h1)).trans h1, h2⟩
theorem GrI.alloc {w w' : World} {n g : Nat} {o : Obj} (h : GrI (w.alloc o) n g w') : GrI w n g w' := grown_trans (World.grownBy_alloc w o _) h
set_option maxRecDepth 100000 in
set_option maxHeartbeats 2000000 in
theorem l_eqIn (f : Nat → Int) (A1 A2 : Option Addr) (n c1 c2 g1 g2 : Nat) (w : World) (h1 : InB w A1 n g1 f) (h2 : InB w A2 n g2 f) (hn : n ≤ 1048576) :
    Calls Try.prog 43 #[.slice A1 n c1, .slice A2 n c2] w fun e w' => e = .returned (.bool true) ∧ Below w.heap.size w w' := by
  have HW := Lib.hid (And.intro h1 (And.intro h2 (Below.refl w.heap.size w)))
  clear h1 h2
  have nn : ((n : Int) == (n : Int)) = true := by simp
  go_enter Try.func43, Try.ntmps43
  go_wp2
  go_loopw [5] (fun i wr => ∃ k : Nat, k ≤ n ∧ i = .int .i64 k ∧ InB wr A1 n g1 f ∧ InB wr A2 n g2 f ∧ Below w.heap.size w wr) (fun i _ => n - (intOf i).toNat)
  case atStart => exact ⟨0, Nat.zero_le _, rfl, HW.out⟩
  case round =>
    clear HW
    obtain ⟨k, hk, rfl, i1, i2, hb⟩ := hrel
    have HD := Lib.hid (And.intro i1 (And.intro i2 hb))
    clear hb
    by_cases hlt : k < n
    · obtain ⟨rfl, d1⟩ := i1.at hlt
      obtain ⟨rfl, d2⟩ := i2.at hlt
      have hk1 : (k : Int) < (n : Int) := by omega
      generalize f k = x at *
      clear i1 i2
      go_wp2
      go_quiet (fail)
      have HE := Lib.hid (show InB (wr.drewN nq) _ n g1 f ∧ InB (wr.drewN nq) _ n g2 f ∧ Below w.heap.size w (wr.drewN nq) from ⟨HD.out.1.same (fun _ => rfl), HD.out.2.1.same (fun _ => rfl), below_drewN HD.out.2.2 nq⟩)
      clear HD
      go_wp2
      go_roundw
      case rel => exact ⟨k + 1, by omega, by go_num, HE.out⟩
      case measure => simp [intOf]; omega
    · obtain rfl : k = n := by omega
      have hk1 : ¬ (k : Int) < (k : Int) := by omega
      clear i1 i2
      go_wp2
      go_ret
      exact ⟨rfl, HD.out.2.2⟩
/-- A list of the call's own, as such numbers. -/
theorem InB.of_owns {w : World} {B : Nat} {t : TypeId} {v : Value} {l : List Int} (h : w.ownsRow B t 1 v l.length (l.map (Value.int .i64))) : ∃ (A : Option Addr) (cap g : Nat), v = .slice A l.length cap ∧ InB w A l.length g (fun j => l.getD j 0) ∧ (0 < l.length → v.ownBlock = some g ∧ B ≤ g ∧ g < w.heap.size) := by
  have hlt := fun k hk => h.lt (k := k) hk
  obtain ⟨_, ⟨rfl, h0⟩ | ⟨g, cap, cs, rfl, hB, hg, hc, hm, hs, ht⟩⟩ := h
  · rw [h0]
    exact ⟨none, 0, 0, rfl, fun h => by omega, fun h => by omega⟩
  · refine ⟨_, cap, g, rfl, fun hn => ⟨rfl, cs, t, hg, by omega, fun j hj => ?_⟩, fun hn => ⟨rfl, hlt g rfl⟩⟩
    have hj' : j < cs.size := by omega
    have e1 : (cs.toList.take (l.length * 1))[j]? = cs[j]? := by
      rw [List.getElem?_take, if_pos (by omega)]; simp
    rw [← e1, ht]
    simp [List.getD, List.getElem?_eq_getElem hj]
end Go.Proofs.Ytlliiecdadiagaa
