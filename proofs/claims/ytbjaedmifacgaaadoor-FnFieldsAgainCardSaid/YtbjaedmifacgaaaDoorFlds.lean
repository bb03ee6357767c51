/- The walk of impl.SplitFields. -/
import Derived.Test.YtbjaedmifacgaaaDoorStr
import Derived.Test.YtbjaedmifacgaaaDoorNum2
import Derived.Test.YtbjaedmifacgaaaDoorM1
import Derived.Lib.Fields
namespace Go.Proofs.YtbjaedmifacgaaaDoor
open Go.RowKit

abbrev TabS (w : World) : Prop := Lib.TabIs Tryd.prog w "strings.asciiSpace" .u8 Lib.asciiSpaceTab
theorem TabS.below {w w' : World} (h : TabS w) (hb : Below w.heap.size w w') : TabS w' := var_keep h hb

/-- A line's bytes up to a place are letters or blanks. -/
def okTo32 (s : ByteArray) (k : Nat) : Prop := ∀ j, j < k → 32 ≤ byteAt s j ∧ byteAt s j ≤ 126
theorem okTo32_succ {s : ByteArray} {k : Nat} (h : okTo32 s k) (h0 : 32 ≤ byteAt s k) (h1 : byteAt s k ≤ 126) : okTo32 s (k + 1) := fun j hj => by
  by_cases e : j = k
  · subst e; exact ⟨h0, h1⟩
  · exact h j (by omega)
theorem byteAt_get {s : ByteArray} {j : Nat} {b : UInt8} (h : s.data.toList[j]? = some b) : byteAt s j = (b.toNat : Int) := by
  unfold byteAt; rw [List.getD, h]; rfl
theorem get_lt {s : ByteArray} {j : Nat} {b : UInt8} (h : s.data.toList[j]? = some b) : j < s.size := by
  rw [str_size]; exact (List.getElem?_eq_some_iff.1 h).1
theorem okTo32_ascii {s : ByteArray} (h : okTo32 s s.size) : ∀ (j : Nat) b, s.data.toList[j]? = some b → b.toNat < 128 := fun j b e => by
  have h1 := h j (get_lt e)
  rw [byteAt_get e] at h1
  omega

/-- The fields of a line, as strings. -/
def fldS (s : ByteArray) : List ByteArray := (Lib.fields s.data.toList).map fun l => ⟨l.toArray⟩
def spOk (s : ByteArray) : Prop := s.size ≤ 600 ∧ okTo32 s s.size ∧ (fldS s).length ≤ 24
def SpRes (s : ByteArray) (n : Nat) (xs : List ByteArray) (ok : Bool) : Prop :=
  (spOk s ∧ ok = true ∧ xs = fldS s ∧ n = (fldS s).length) ∨ (¬ spOk s ∧ ok = false ∧ xs = [] ∧ n = 0)
theorem SpRes.same {s : ByteArray} {n n' : Nat} {xs xs' : List ByteArray} {ok ok' : Bool} (h : SpRes s n xs ok) (h' : SpRes s n' xs' ok') : n = n' ∧ xs = xs' ∧ ok = ok' := by
  rcases h with ⟨a, rfl, rfl, rfl⟩ | ⟨a, rfl, rfl, rfl⟩ <;> rcases h' with ⟨b, rfl, rfl, rfl⟩ | ⟨b, rfl, rfl, rfl⟩
  · exact ⟨rfl, rfl, rfl⟩
  · exact absurd a b
  · exact absurd b a
  · exact ⟨rfl, rfl, rfl⟩
theorem strBlock_fields (s : ByteArray) (w : World) : StrBlock (w.alloc (.cells ((Lib.fields s.data.toList).map fun l => Value.string ⟨l.toArray⟩).toArray 9)) w.heap.size (fldS s) := by
  unfold StrBlock
  rw [heap_alloc_new]
  unfold strCells fldS
  rw [List.map_map]; rfl

/-- What a call of SplitFields answers: its own block, or none. -/
def SpOut (s : ByteArray) (B : Nat) (w' : World) (e : Ending) : Prop :=
  ∃ n c A xs ok, SpRes s n xs ok ∧ e = .returned (.tuple #[.slice A n c, .bool ok]) ∧ n ≤ 24 ∧ ((A = none ∧ n = 0) ∨ ∃ g, A = some ⟨g, 0, none⟩ ∧ B ≤ g ∧ StrBlock w' g xs)
theorem SpOut.no {s : ByteArray} (h : ¬ spOk s) (B : Nat) (w' : World) : SpOut s B w' (.returned (.tuple #[.slice none 0 0, .bool false])) :=
  ⟨0, 0, none, [], false, .inr ⟨h, rfl, rfl, rfl⟩, rfl, by omega, .inl ⟨rfl, rfl⟩⟩
theorem SpOut.yes {s : ByteArray} (h : spOk s) (w : World) : SpOut s w.heap.size (w.alloc (.cells ((Lib.fields s.data.toList).map fun l => Value.string ⟨l.toArray⟩).toArray 9)) (.returned (.tuple #[.slice (some ⟨w.heap.size, 0, none⟩) (Lib.fields s.data.toList).length (Lib.fields s.data.toList).length, .bool true])) :=
  ⟨(fldS s).length, (Lib.fields s.data.toList).length, some ⟨w.heap.size, 0, none⟩, fldS s, true, .inl ⟨h, rfl, rfl, rfl⟩, by simp [fldS], by have := h.2.2; exact this, .inr ⟨_, rfl, Nat.le_refl _, strBlock_fields s w⟩⟩

set_option maxRecDepth 100000 in
set_option maxHeartbeats 1000000 in
theorem i_sp (s : ByteArray) (w : World) (hs : s.size ≤ 1048576) (ht : TabS w) :
    Calls Tryd.prog 6 #[.string s] w fun e w' => SpOut s w.heap.size w' e ∧ Below w.heap.size w w' := by
  by_cases h6 : s.size ≤ 600
  · go_enter Tryd.func6, Tryd.ntmps6
    go_wp2
    go_loopw [11] (fun i wr => ∃ k : Nat, k ≤ s.size ∧ i = .int .i64 k ∧ okTo32 s k ∧ Below w.heap.size w wr) (fun i _ => s.size - (intOf i).toNat)
    case atStart => exact ⟨0, Nat.zero_le _, rfl, fun j hj => absurd hj (by omega), Below.refl _ _⟩
    case round =>
      obtain ⟨k, hk, rfl, hok, hbel⟩ := hrel
      by_cases hlt : k < s.size
      · have q1 := byteAt_eq s k hlt
        have k0 : (0 : Int) ≤ (k : Int) := by omega
        have k1 : (k : Int) < (s.size : Int) := by omega
        have HK := Lib.hid hok
        obtain ⟨b1, b1'⟩ := byteAt_bd s k
        have hbad : ¬ (32 ≤ byteAt s k ∧ byteAt s k ≤ 126) → ¬ spOk s := fun h h' => h (h'.2.1 k hlt)
        have HB := Lib.hid hbad
        clear hok hbad
        by_cases c0 : 32 ≤ byteAt s k
        · by_cases c1 : byteAt s k ≤ 126
          · go_wp2
            go_roundw
            case rel => exact ⟨k + 1, by omega, by go_num, okTo32_succ HK.out c0 c1, hbel⟩
            case measure => simp [intOf]; omega
          · go_wp2
            go_ret2
            exact ⟨SpOut.no (HB.out (fun h => by omega)) _ _, hbel⟩
        · go_wp2
          go_ret2
          exact ⟨SpOut.no (HB.out (fun h => by omega)) _ _, hbel⟩
      · obtain rfl : k = s.size := by omega
        have HK := Lib.hid hok
        have HT := Lib.hid (ht.below hbel)
        clear hok ht
        go_wp2_with fail
        refine (Tryd.strings_Fields s _ (by omega) (okTo32_ascii HK.out) HT.out).mono ?_
        rintro e w2 ⟨rfl, rfl⟩
        by_cases h24 : (Lib.fields s.data.toList).length ≤ 24
        · have hS : spOk s := ⟨h6, HK.out, by simpa [fldS] using h24⟩
          have HO := Lib.hid (SpOut.yes hS wr)
          go_wp2
          go_ret2
          exact ⟨by obtain ⟨n, c, A, xs, ok, a1, a2, a3, a4⟩ := HO.out; exact ⟨n, c, A, xs, ok, a1, a2, a3, a4.imp id fun ⟨g, g1, g2, g3⟩ => ⟨g, g1, Nat.le_trans hbel.size g2, g3⟩⟩, hbel.alloc hbel.size _⟩
        · have hS : ¬ spOk s := fun h => h24 (by simpa [fldS] using h.2.2)
          have HS := Lib.hid hS
          clear hS
          go_wp2
          go_ret2
          exact ⟨SpOut.no HS.out _ _, hbel.alloc hbel.size _⟩
  · have hS : ¬ spOk s := fun h => h6 h.1
    have HS := Lib.hid hS
    clear hS
    go_enter Tryd.func6, Tryd.ntmps6
    go_wp2
    go_ret2
    exact ⟨SpOut.no HS.out _ _, Below.refl _ _⟩
end Go.Proofs.YtbjaedmifacgaaaDoor
