/- The walk of impl.ParseFixed. -/
import Derived.Test.YtciebalkfeoabaaDoorM5
import Derived.Test.YtciebalkfeoabaaDoorShelf
namespace Go.Proofs.YtciebalkfeoabaaDoor
open Go.RowKit

abbrev TabM (w : World) : Prop := ∃ m, w.cell? ⟨2, 0, none⟩ = some (.int .i64 m)
theorem TabM.below {w w' : World} (h : TabM w) (hb : Below w.heap.size w w') : TabM w' := by
  obtain ⟨m, hm⟩ := h
  exact ⟨m, (hb.cell (World.block_lt_of_cell? w _ hm)).trans hm⟩
theorem TabM.of {w : World} (h : w.ShapedOpen Tryd.prog) : TabM w := Tryd.laysM145.s1_3 w h

theorem i_cutp (s : ByteArray) (w : World) :
    Calls Tryd.prog 48 #[.string s, .string ⟨#[45]⟩] w fun e w' => e = .returned (.tuple #[.string (pRest s), .bool (pNeg s)]) ∧ w = w' :=
  (Tryd.strings_CutPrefix s ⟨#[45]⟩ w).mono fun _ _ ⟨h1, h2⟩ => ⟨h1, h2.symm⟩
def pHas (s : ByteArray) : Bool := (Lib.cut (pRest s).data.toList [46]).2.2
theorem i_cut (s : ByteArray) (w : World) (hs : (pRest s).size < 4294967281) (hm : TabM w) :
    Calls Tryd.prog 49 #[.string (pRest s), .string ⟨#[46]⟩] w fun e w' => ∃ n, e = .returned (.tuple #[.string (pFront s), .string (pBack s), .bool (pHas s)]) ∧ w' = w.drewN n := by
  obtain ⟨m, hm⟩ := hm
  exact (Tryd.strings_Cut (pRest s) ⟨#[46]⟩ m w hs hm).mono fun _ _ ⟨h1, n, h2⟩ => ⟨n, h1, h2⟩
theorem ret_i64' {a b : Int} (h : a = b) : Ending.returned (.int .i64 a) = .returned (.int .i64 b) := by rw [h]
theorem list_size (l : List UInt8) : (⟨l.toArray⟩ : ByteArray).size = l.length := by rw [str_size]
theorem rest_size (s : ByteArray) : (pRest s).size ≤ s.size := by
  have e : (pRest s).size = (Lib.trimPrefix s.data.toList [45]).length := list_size _
  rw [e, str_size s]
  unfold Lib.trimPrefix
  split
  · rw [List.length_drop]; omega
  · omega
theorem part_sizes (s : ByteArray) : (pFront s).size ≤ s.size ∧ (pBack s).size ≤ s.size := by
  have h := rest_size s
  have e1 : (pFront s).size = (Lib.cut (pRest s).data.toList [46]).1.length := list_size _
  have e2 : (pBack s).size = (Lib.cut (pRest s).data.toList [46]).2.1.length := list_size _
  rw [e1, e2]
  rw [str_size (pRest s)] at h
  generalize (pRest s).data.toList = l at *
  unfold Lib.cut
  split
  · refine ⟨?_, ?_⟩
    · rw [List.length_take]; omega
    · rw [List.length_drop]; omega
  · exact ⟨h, Nat.zero_le _⟩
theorem scVal_bd (s : ByteArray) : 0 ≤ scVal s ∧ scVal s ≤ 9999999999 := by
  unfold scVal
  split
  · rename_i h
    obtain ⟨_, h10, hd, _⟩ := sc_facts h
    exact numTo_bd hd h10
  · omega

set_option maxHeartbeats 400000 in
theorem i_thou (a b sg n : Int) (g : Nat) (w : World) (hc : w.cell? ⟨g, 0, none⟩ = some (.int .i64 sg)) (hsg : sg = 1 ∨ sg = -1) (a0 : 0 ≤ a) (a1 : a ≤ 9999999999) (b0 : 0 ≤ b) (b1 : b ≤ 9999999999) (h : sg * (1000 * a + b) = n) :
    Calls Tryd.prog 60 #[.int .i64 a, .int .i64 b, .pointer (some ⟨g, 0, none⟩)] w fun e w' => e = .returned (.int .i64 n) ∧ w = w' := by
  subst h
  rcases hsg with rfl | rfl
  · go_enter Tryd.func60, Tryd.ntmps60
    go_wp2
    go_ret
    exact ⟨ret_i64' (by omega), rfl⟩
  · go_enter Tryd.func60, Tryd.ntmps60
    go_wp2
    go_ret
    exact ⟨ret_i64' (by omega), rfl⟩

theorem pf_ret_no {s : ByteArray} (h : ¬ (scOk (pFront s) = true ∧ scOk (pBack s) = true ∧ fixText (pNum s) = s)) : Ending.returned (.tuple #[.int .i64 0, .bool false]) = .returned (.tuple #[.int .i64 (pfVal s), .bool (pfOk s)]) := by
  obtain ⟨a, b⟩ := pf_no h; rw [a, b]
theorem pf_ret_yes {s : ByteArray} (hf : scOk (pFront s) = true) (h : fixText (pNum s) = s) : Ending.returned (.tuple #[.int .i64 (pNum s), .bool true]) = .returned (.tuple #[.int .i64 (pfVal s), .bool (pfOk s)]) := by
  obtain ⟨a, b⟩ := pf_yes hf h; rw [a, b]
theorem below_drewN (w : World) (n : Nat) : Below w.heap.size w (w.drewN n) := ⟨rfl, rfl, rfl, Nat.le_refl _, fun _ _ => rfl⟩
theorem beq_str {a b : ByteArray} (h : a = b) : (a.toList == b.toList) = true := by subst h; simp
theorem bne_str {a b : ByteArray} (h : ¬ a = b) : (a.toList == b.toList) = false := by
  rw [beq_eq_false_iff_ne]; intro e; rw [ByteArray.toList_eq, ByteArray.toList_eq] at e; exact h (str_ext e)

set_option maxRecDepth 100000 in
set_option maxHeartbeats 2000000 in
theorem i_pf_neg (s : ByteArray) (w : World) (hs : s.size ≤ 1048576) (ht : TabI w) (hm : TabM w) (hn : pNeg s = true) :
    Calls Tryd.prog 26 #[.string s] w fun e w' => e = .returned (.tuple #[.int .i64 (pfVal s), .bool (pfOk s)]) ∧ Below w.heap.size w w' := by
  obtain ⟨z1, z2⟩ := part_sizes s
  have z3 := rest_size s
  obtain ⟨f0, f1⟩ := scVal_bd (pFront s)
  obtain ⟨k0, k1⟩ := scVal_bd (pBack s)
  have hnum : (-1 : Int) * (1000 * scVal (pFront s) + scVal (pBack s)) = pNum s := by unfold pNum; rw [if_pos hn]
  have HN := Lib.hid hnum
  clear hnum
  go_enter Tryd.func26, Tryd.ntmps26
  go_wp2_with (first
    | (go_at_call 48; ((with_reducible refine (i_cutp _ _).mono ?_); rintro e w1 ⟨rfl, rfl⟩))
    | (go_at_call 49; ((with_reducible refine (i_cut s _ (by omega) hm).mono ?_); rintro e w1 ⟨nd, rfl, rfl⟩))
    | (go_at_call 43; ((with_reducible refine (i_scan _ _ (by omega)).mono ?_); rintro e w1 ⟨rfl, rfl⟩))
    | (go_at_call 50; go_in))
  refine (i_thou _ _ (-1) (pNum s) w.heap.size _ (cell_of_row _ w.heap.size 0 #[.int .i64 (-1)] 3 (0, 0) (heap_alloc_new (w.drewN nd) _)) (Or.inr rfl) f0 f1 k0 k1 HN.out).mono ?_
  rintro e w2 ⟨rfl, rfl⟩
  have bA : Below w.heap.size w ((w.drewN nd).alloc (.cells #[.int .i64 (-1)] 3)) := (below_drewN w nd).alloc (Nat.le_refl _) _
  generalize (w.drewN nd).alloc (.cells #[.int .i64 (-1)] 3) = wA at *
  have htA := TabI.below ht bA
  by_cases o1 : scOk (pFront s) = true
  · by_cases o2 : scOk (pBack s) = true
    · by_cases hq : fixText (pNum s) = s
      · have hy := Lib.hid (pf_ret_yes o1 hq)
        have hb := beq_str hq
        clear hq
        go_wp2_with (go_at_call 25; ((with_reducible refine (i_ff _ _ htA).mono ?_); rintro e w3 ⟨rfl, b3⟩))
        go_ret2
        exact ⟨hy.out, bA.trans (b3.mono bA.size)⟩
      · have hno := Lib.hid (pf_ret_no (s := s) (fun h => hq h.2.2))
        have hb := bne_str hq
        clear hq
        go_wp2_with (go_at_call 25; ((with_reducible refine (i_ff _ _ htA).mono ?_); rintro e w3 ⟨rfl, b3⟩))
        go_ret2
        exact ⟨hno.out, bA.trans (b3.mono bA.size)⟩
    · have hno := Lib.hid (pf_ret_no (s := s) (fun h => o2 h.2.1))
      have o2' : scOk (pBack s) = false := by simpa using o2
      clear o2
      go_wp2
      go_ret2
      exact ⟨hno.out, bA⟩
  · have hno := Lib.hid (pf_ret_no (s := s) (fun h => o1 h.1))
    have o1' : scOk (pFront s) = false := by simpa using o1
    clear o1
    go_wp2
    go_ret2
    exact ⟨hno.out, bA⟩

set_option maxRecDepth 100000 in
set_option maxHeartbeats 2000000 in
theorem i_pf_pos (s : ByteArray) (w : World) (hs : s.size ≤ 1048576) (ht : TabI w) (hm : TabM w) (hn : pNeg s = false) :
    Calls Tryd.prog 26 #[.string s] w fun e w' => e = .returned (.tuple #[.int .i64 (pfVal s), .bool (pfOk s)]) ∧ Below w.heap.size w w' := by
  obtain ⟨z1, z2⟩ := part_sizes s
  have z3 := rest_size s
  obtain ⟨f0, f1⟩ := scVal_bd (pFront s)
  obtain ⟨k0, k1⟩ := scVal_bd (pBack s)
  have hnum : (1 : Int) * (1000 * scVal (pFront s) + scVal (pBack s)) = pNum s := by unfold pNum; rw [if_neg (by rw [hn]; simp)]
  have HN := Lib.hid hnum
  clear hnum
  go_enter Tryd.func26, Tryd.ntmps26
  go_wp2_with (first
    | (go_at_call 48; ((with_reducible refine (i_cutp _ _).mono ?_); rintro e w1 ⟨rfl, rfl⟩))
    | (go_at_call 49; ((with_reducible refine (i_cut s _ (by omega) hm).mono ?_); rintro e w1 ⟨nd, rfl, rfl⟩))
    | (go_at_call 43; ((with_reducible refine (i_scan _ _ (by omega)).mono ?_); rintro e w1 ⟨rfl, rfl⟩))
    | (go_at_call 50; go_in))
  refine (i_thou _ _ (1) (pNum s) w.heap.size _ (cell_of_row _ w.heap.size 0 #[.int .i64 (1)] 3 (0, 0) (heap_alloc_new (w.drewN nd) _)) (Or.inl rfl) f0 f1 k0 k1 HN.out).mono ?_
  rintro e w2 ⟨rfl, rfl⟩
  have bA : Below w.heap.size w ((w.drewN nd).alloc (.cells #[.int .i64 (1)] 3)) := (below_drewN w nd).alloc (Nat.le_refl _) _
  generalize (w.drewN nd).alloc (.cells #[.int .i64 (1)] 3) = wA at *
  have htA := TabI.below ht bA
  by_cases o1 : scOk (pFront s) = true
  · by_cases o2 : scOk (pBack s) = true
    · by_cases hq : fixText (pNum s) = s
      · have hy := Lib.hid (pf_ret_yes o1 hq)
        have hb := beq_str hq
        clear hq
        go_wp2_with (go_at_call 25; ((with_reducible refine (i_ff _ _ htA).mono ?_); rintro e w3 ⟨rfl, b3⟩))
        go_ret2
        exact ⟨hy.out, bA.trans (b3.mono bA.size)⟩
      · have hno := Lib.hid (pf_ret_no (s := s) (fun h => hq h.2.2))
        have hb := bne_str hq
        clear hq
        go_wp2_with (go_at_call 25; ((with_reducible refine (i_ff _ _ htA).mono ?_); rintro e w3 ⟨rfl, b3⟩))
        go_ret2
        exact ⟨hno.out, bA.trans (b3.mono bA.size)⟩
    · have hno := Lib.hid (pf_ret_no (s := s) (fun h => o2 h.2.1))
      have o2' : scOk (pBack s) = false := by simpa using o2
      clear o2
      go_wp2
      go_ret2
      exact ⟨hno.out, bA⟩
  · have hno := Lib.hid (pf_ret_no (s := s) (fun h => o1 h.1))
    have o1' : scOk (pFront s) = false := by simpa using o1
    clear o1
    go_wp2
    go_ret2
    exact ⟨hno.out, bA⟩

theorem i_pf (s : ByteArray) (w : World) (hs : s.size ≤ 1048576) (ht : TabI w) (hm : TabM w) :
    Calls Tryd.prog 26 #[.string s] w fun e w' => e = .returned (.tuple #[.int .i64 (pfVal s), .bool (pfOk s)]) ∧ Below w.heap.size w w' := by
  cases hn : pNeg s
  · exact i_pf_pos s w hs ht hm hn
  · exact i_pf_neg s w hs ht hm hn
end Go.Proofs.YtciebalkfeoabaaDoor
