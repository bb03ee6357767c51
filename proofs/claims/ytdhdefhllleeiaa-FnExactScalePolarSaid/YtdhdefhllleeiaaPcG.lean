/- The exact laws' marks: markIntS, markFloat32SS, markPolar; what is held. -/
import Derived.Test.YtdhdefhllleeiaaPcF
namespace Go.Proofs.Ytdhdefhllleeiaa
open Go.RowKit Ieee
set_option linter.unusedSimpArgs false
set_option linter.unusedVariables false

set_option maxRecDepth 100000 in
set_option maxHeartbeats 1000000 in
theorem m_I (A : Option Addr) (n cap g lo hi : Nat) (k : Int) (w : World) (V : Nat → Value) (hA : 0 < n → A = some ⟨g, 0, none⟩ ∧ lo ≤ g ∧ g < hi ∧ OwnB w g n 3 V) (hn : n ≤ 1048576) (h0 : 0 ≤ k) (h1 : k ≤ 4398046511104) :
    Calls Try.prog 75 #[.slice A n cap, .int .i64 k] w fun e w' => e = .returned (.int .i64 (k + n)) ∧ (0 < n → OwnB w' g n 3 (fun j => iv (k + j))) ∧ (∀ j, j < w.heap.size → (0 < n → j ≠ g) → w'.heap[j]? = w.heap[j]?) ∧ Touch lo hi w w' := by
  have HA := Lib.hid hA
  clear hA
  go_enter Try.func75, Try.ntmps75
  go_wp2_with fail
  go_loopw [1, 5] (fun kk ii wr => ∃ j : Nat, j ≤ n ∧ ii = .int .i64 j ∧ kk = .int .i64 (k + j) ∧ (0 < n → ∃ cs, wr.heap[g]? = some (.cells cs 3 (0, 0)) ∧ n ≤ cs.size ∧ ∀ i, i < j → cs[i]? = some (iv (k + i))) ∧ (∀ j, j < w.heap.size → (0 < n → j ≠ g) → wr.heap[j]? = w.heap[j]?) ∧ Touch lo hi w wr) (fun _ ii _ => n - (intOf ii).toNat)
  case atStart => exact ⟨0, Nat.zero_le _, rfl, by simp, fun h => by
    obtain ⟨_, _, _, cs, c1, c2, _⟩ := HA.out h
    exact ⟨cs, c1, c2, fun i hi => by omega⟩, fun _ _ _ => rfl, Touch.refl _ _ _⟩
  case round =>
    obtain ⟨j, hj, rfl, rfl, hc, hs, ht⟩ := hrel
    by_cases hlt : j < n
    · have hlt1 : (j : Int) < (n : Int) := by omega
      obtain ⟨cs, c1, c2, c3⟩ := hc (by omega)
      obtain ⟨rfl, l1, l2, _⟩ := HA.out (by omega)
      obtain ⟨_, x5, f5⟩ := cell_at c1 rfl (show j < cs.size by omega)
      have HN := Lib.hid (And.intro (heap_set_self (k := j) c1 (.int .i64 (k + j))) (And.intro (show ∀ i, i < j + 1 → (cs.setIfInBounds j (.int .i64 (k + j)))[i]? = some (iv (k + i)) from fun i hi => by
        by_cases hij : i = j
        · subst hij; rw [Array.getElem?_setIfInBounds_self_of_lt (by omega)]; rfl
        · rw [Array.getElem?_setIfInBounds_ne (fun e => hij e.symm)]; exact c3 i (by omega)) (And.intro (ht.trans (Touch.set (k := j) (v := .int .i64 (k + j)) l1 l2)) (show ∀ i, i < w.heap.size → (0 < n → i ≠ g) → (wr.setCell ⟨g, j, none⟩ (.int .i64 (k + j))).heap[i]? = w.heap[i]? from fun i hi hne => (Below.heap_setCell _ _ _ _ (hne (by omega))).trans (hs i hi hne)))))
      have HC2 := Lib.hid c2
      clear hc hs ht c1 c3 c2
      go_wp2
      go_roundw
      case rel => exact ⟨j + 1, by omega, by go_num, by go_num, fun _ => ⟨_, HN.out.1, by simpa using HC2.out, HN.out.2.1⟩, HN.out.2.2.2, HN.out.2.2.1⟩
      case measure => simp [intOf]; omega
    · obtain rfl : j = n := by omega
      have hlt1 : ¬ (j : Int) < (j : Int) := by omega
      have HN := Lib.hid (And.intro (show 0 < j → OwnB wr g j 3 (fun i => iv (k + i)) from fun h => by
        obtain ⟨cs, c1, c2, c3⟩ := hc h
        exact ⟨cs, c1, c2, c3⟩) (And.intro hs ht))
      clear hc hs ht
      go_wp2
      go_ret
      exact ⟨rfl, HN.out⟩
set_option maxRecDepth 100000 in
set_option maxHeartbeats 2000000 in
theorem m_FF (A : Option Addr) (ns cap gS lo hi : Nat) (k : Int) (w : World) (R : Nat → Option Addr) (rn rc b : Nat → Nat) (sp : Nat → Nat → Nat) (hA : 0 < ns → A = some ⟨gS, 0, none⟩ ∧ OwnB w gS ns 24 (fun i => .slice (R i) (rn i) (rc i)))
    (hr : ∀ i, i < ns → 0 < rn i → R i = some ⟨b i, 0, none⟩ ∧ lo ≤ b i ∧ b i < hi ∧ OwnB w (b i) (rn i) 31 (fun j => fv (sp i j))) (hd : ∀ i i', i < i' → i' < ns → 0 < rn i → 0 < rn i' → b i ≠ b i') (hn : ns ≤ 1048576) (hrn : ∀ i, i < ns → rn i ≤ 1048576) (h0 : 0 ≤ k) (h1 : k ≤ 2199023255552) :
    Calls Try.prog 76 #[.slice A ns cap, .int .i64 k] w fun e w' => e = .returned (.int .i64 (k + sumTo rn ns)) ∧ (∀ i, i < ns → 0 < rn i → OwnB w' (b i) (rn i) 31 (fun j => fv (floatOfInt .f32 (k + sumTo rn i + j)))) ∧ (∀ j, j < w.heap.size → (∀ i, i < ns → 0 < rn i → j ≠ b i) → w'.heap[j]? = w.heap[j]?) ∧ Touch lo hi w w' := by
  have HA := Lib.hid hA
  have HR := Lib.hid hr
  have HD := Lib.hid hd
  have HRN := Lib.hid hrn
  clear hA hr hd hrn
  go_enter Try.func76, Try.ntmps76
  go_wp2_with fail
  go_loopw [1, 5] (fun kk ii wr => ∃ i : Nat, i ≤ ns ∧ ii = .int .i64 i ∧ kk = .int .i64 (k + sumTo rn i) ∧ (∀ i', i' < i → 0 < rn i' → OwnB wr (b i') (rn i') 31 (fun j => fv (floatOfInt .f32 (k + sumTo rn i' + j)))) ∧ (∀ i', i ≤ i' → i' < ns → 0 < rn i' → OwnB wr (b i') (rn i') 31 (fun j => fv (sp i' j))) ∧ (0 < ns → OwnB wr gS ns 24 (fun i => .slice (R i) (rn i) (rc i))) ∧ (∀ j, j < w.heap.size → (∀ i, i < ns → 0 < rn i → j ≠ b i) → wr.heap[j]? = w.heap[j]?) ∧ Touch lo hi w wr) (fun _ ii _ => ns - (intOf ii).toNat)
  case atStart => exact ⟨0, Nat.zero_le _, rfl, by simp [sumTo], fun i hi => by omega, fun i _ hi hp => (HR.out i hi hp).2.2.2, fun h => (HA.out h).2, fun _ _ _ => rfl, Touch.refl _ _ _⟩
  case round =>
    obtain ⟨i, hil, rfl, rfl, hdone, hrest, hS, hs, ht⟩ := hrel
    have hsum : sumTo rn i ≤ i * 1048576 := sumTo_le fun j hj => HRN.out j (by omega)
    have hsum2 : i * 1048576 ≤ 1048576 * 1048576 := Nat.mul_le_mul_right _ (by omega)
    have hsum3 : (1048576 * 1048576 : Nat) = 1099511627776 := rfl
    by_cases hlt : i < ns
    · have hlt1 : (i : Int) < (ns : Int) := by omega
      obtain ⟨rfl, _⟩ := HA.out (by omega)
      obtain ⟨cs, c1, c2, c3⟩ := hS (by omega)
      have kc := (cell_of_row wr gS i _ _ _ c1).trans (c3 i hlt)
      have hcall := m_F (R i) (rn i) (rc i) (b i) lo hi (k + sumTo rn i) wr (fun j => fv (sp i j)) (fun hp => ⟨(HR.out i hlt hp).1, (HR.out i hlt hp).2.1, (HR.out i hlt hp).2.2.1, hrest i (Nat.le_refl _) hlt hp⟩) (HRN.out i hlt) (by omega) (by omega)
      have HN := Lib.hid (And.intro hdone (And.intro hrest (And.intro hS (And.intro hs ht))))
      have HSZ := Lib.hid ht.2.2.2.1
      have hrni := HRN.out i hlt
      dsimp only at kc
      clear hdone hrest hS hs ht c1 c2 c3
      have hnext : ((sumTo rn (i + 1) : Nat) : Int) = (sumTo rn i : Nat) + (rn i : Nat) := by simp [sumTo]
      have HNX := Lib.hid hnext
      clear hnext
      go_wp2_with fail
      refine hcall.mono ?_
      rintro e w1 ⟨rfl, ho, hfar, ht1⟩
      have HN2 := Lib.hid (show (∀ i', i' < i + 1 → 0 < rn i' → OwnB w1 (b i') (rn i') 31 (fun j => fv (floatOfInt .f32 (k + sumTo rn i' + j)))) ∧ (∀ i', i + 1 ≤ i' → i' < ns → 0 < rn i' → OwnB w1 (b i') (rn i') 31 (fun j => fv (sp i' j))) ∧ (0 < ns → OwnB w1 gS ns 24 (fun i => .slice (R i) (rn i) (rc i))) ∧ (∀ j, j < w.heap.size → (∀ i, i < ns → 0 < rn i → j ≠ b i) → w1.heap[j]? = w.heap[j]?) ∧ Touch lo hi w w1 from by
        obtain ⟨hdone, hrest, hS, hs, ht⟩ := HN.out
        refine ⟨fun i' hi' hp => ?_, fun i' hi' hlt' hp => ?_, fun h => ?_, fun j hj hne => ?_, ht.trans ht1⟩
        · by_cases hii : i' = i
          · subst hii; exact ho hp
          · have h2 := hdone i' (by omega) hp
            exact h2.block (hfar _ h2.lt (fun hp' => HD.out i' i (by omega) hlt hp hp'))
        · have h2 := hrest i' (by omega) hlt' hp
          exact h2.block (hfar _ h2.lt (fun hp' => fun e => HD.out i i' (by omega) hlt' hp' hp e.symm))
        · have h2 := hS h
          refine h2.block (hfar _ h2.lt (fun hp' => ?_))
          obtain ⟨cs', c1', _⟩ := hrest i (Nat.le_refl _) hlt hp'
          exact h2.ne c1' (by decide)
        · exact (hfar j (Nat.lt_of_lt_of_le hj HSZ.out) (fun hp' => hne i hlt hp')).trans (hs j hj hne))
      clear ho hfar ht1 HN kc hcall
      go_wp2_with fail
      go_roundw
      case rel => exact ⟨i + 1, by omega, by go_num, by rw [HNX.out]; go_num, HN2.out⟩
      case measure => simp [intOf]; omega
    · obtain rfl : i = ns := by omega
      have hlt1 : ¬ (i : Int) < (i : Int) := by omega
      have HN := Lib.hid (And.intro hdone (And.intro hs ht))
      clear hdone hrest hS hs ht
      go_wp2_with fail
      go_ret
      exact ⟨rfl, HN.out⟩
end Go.Proofs.Ytdhdefhllleeiaa
