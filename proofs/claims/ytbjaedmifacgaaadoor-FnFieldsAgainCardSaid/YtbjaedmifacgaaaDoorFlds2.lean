/- The walk of spec.SplitFields. -/
import Derived.Test.YtbjaedmifacgaaaDoorFlds
import Derived.Lib.FieldsLaws
namespace Go.Proofs.YtbjaedmifacgaaaDoor
open Go.RowKit
attribute [local go_sem ↓] Go.wp_at_zero Go.wp_at_succ

theorem Tryd.infoStr : (Tryd.prog.info? 9).map (fun i => (i.zero, i.size, i.bytes)) = some (some (.string ⟨#[]⟩), 1, 16) := by kernel_rfl

theorem isSp_ok {b : UInt8} (h : 32 ≤ b.toNat) : Lib.isSp b = decide (b.toNat = 32) := by
  have ne : ∀ c : UInt8, c.toNat < 32 → (b == c) = false := fun c hc => by
    rw [beq_eq_false_iff_ne]; intro e; subst e; omega
  unfold Lib.isSp
  rw [ne 9 (by decide), ne 10 (by decide), ne 11 (by decide), ne 12 (by decide), ne 13 (by decide)]
  simp only [Bool.false_or]
  by_cases e : b.toNat = 32
  · have : b = 32 := UInt8.toNat_inj.1 e
    subst this; rfl
  · rw [decide_eq_false e, beq_eq_false_iff_ne]
    intro e'; subst e'; exact e rfl
theorem go_cons (cur : List UInt8) (b : UInt8) (l : List UInt8) : Lib.fieldsGo cur (b :: l) = if Lib.isSp b then (if cur.isEmpty then Lib.fieldsGo [] l else cur :: Lib.fieldsGo [] l) else Lib.fieldsGo (cur ++ [b]) l := rfl
theorem go_nil (cur : List UInt8) : Lib.fieldsGo cur [] = if cur.isEmpty then [] else [cur] := rfl

def curS (s : ByteArray) (bg k : Nat) : List UInt8 := (s.data.toList.drop bg).take (k - bg)
theorem ext_cur (s : ByteArray) (bg k : Nat) : (s.extract bg k).data.toList = curS s bg k := by
  unfold curS
  rw [ByteArray.data_extract, Array.toList_extract, List.extract_eq_take_drop]
structure FldRel (s : ByteArray) (k bg : Nat) (done : List ByteArray) : Prop where
  le : bg ≤ k
  top : k ≤ s.size + 1
  last : k = s.size + 1 → bg = k
  ok : okTo32 s (min k s.size)
  few : done.length ≤ k
  eq : done.map (·.data.toList) ++ Lib.fieldsGo (curS s bg k) (s.data.toList.drop k) = Lib.fields s.data.toList
theorem FldRel.start (s : ByteArray) : FldRel s 0 0 [] := ⟨by omega, by omega, by omega, fun j hj => absurd hj (by omega), by simp, by simp [curS, Lib.fields]⟩
theorem curS_ne {s : ByteArray} {bg k : Nat} (h : bg < k) (hk : k ≤ s.size) : (curS s bg k).isEmpty = false := by
  have := Lib.piece_ne (l := s.data.toList) h (by rw [← str_size]; exact hk)
  unfold curS
  cases e : (s.data.toList.drop bg).take (k - bg) with
  | nil => exact absurd e this
  | cons a b => rfl
theorem curS_nil (s : ByteArray) (k : Nat) : curS s k k = [] := by simp [curS]
theorem drop_byte {s : ByteArray} {k : Nat} (h : k < s.size) : s.data.toList[k]? = some s[k] := by
  have h' : k < s.data.toList.length := by rw [← str_size]; exact h
  rw [List.getElem?_eq_getElem h']; rfl
theorem drop_end (s : ByteArray) (k : Nat) (h : s.size ≤ k) : s.data.toList.drop k = [] := List.drop_eq_nil_of_le (by rw [← str_size]; exact h)
theorem FldRel.more {s : ByteArray} {k bg : Nat} {done : List ByteArray} (h : FldRel s k bg done) (hk : k < s.size) (h0 : 32 ≤ byteAt s k) (h1 : byteAt s k ≤ 126) (h2 : byteAt s k ≠ 32) : FldRel s (k + 1) bg done := by
  have e := drop_byte hk
  have hb := byteAt_get e
  refine ⟨by have := h.le; omega, by omega, by omega, ?_, by have := h.few; omega, ?_⟩
  · rw [show min (k + 1) s.size = k + 1 by omega]
    have := h.ok; rw [show min k s.size = k by omega] at this
    exact okTo32_succ this h0 h1
  · rw [← h.eq, Lib.drop_at e, go_cons, isSp_ok (by omega), if_neg (by simp; omega)]
    unfold curS
    rw [Lib.piece_more h.le e]
theorem FldRel.okSucc {s : ByteArray} {k bg : Nat} {done : List ByteArray} (h : FldRel s k bg done) (hc : (k < s.size ∧ byteAt s k = 32) ∨ k = s.size) : okTo32 s (min (k + 1) s.size) := by
  have := h.ok
  rcases hc with ⟨hk, h32⟩ | hk
  · rw [show min k s.size = k by omega] at this
    rw [show min (k + 1) s.size = k + 1 by omega]
    exact okTo32_succ this (by omega) (by omega)
  · rw [show min (k + 1) s.size = min k s.size by omega]; exact this
theorem FldRel.cut {s : ByteArray} {k bg : Nat} {done : List ByteArray} (h : FldRel s k bg done) (hc : (k < s.size ∧ byteAt s k = 32) ∨ k = s.size) (hb : bg < k) : FldRel s (k + 1) (k + 1) (done ++ [s.extract bg k]) := by
  refine ⟨by omega, by omega, fun _ => rfl, h.okSucc hc, by have := h.few; simp; omega, ?_⟩
  rw [← h.eq, List.map_append, List.append_assoc, curS_nil]
  congr 1
  rcases hc with ⟨hk, h32⟩ | hk
  · have e := drop_byte hk
    have hb' := byteAt_get e
    rw [Lib.drop_at e, go_cons, isSp_ok (by omega), if_pos (by simp; omega), curS_ne hb (by omega)]
    simp
    rfl
  · rw [drop_end s (k + 1) (by omega), drop_end s k (by omega), go_nil, go_nil, curS_ne hb (by omega)]
    simp
    rfl
theorem FldRel.skip {s : ByteArray} {k bg : Nat} {done : List ByteArray} (h : FldRel s k bg done) (hc : (k < s.size ∧ byteAt s k = 32) ∨ k = s.size) (hb : ¬ bg < k) : FldRel s (k + 1) (k + 1) done := by
  have hle := h.le
  obtain rfl : bg = k := by omega
  refine ⟨by omega, by omega, fun _ => rfl, h.okSucc hc, by have := h.few; omega, ?_⟩
  rw [← h.eq, curS_nil, curS_nil]
  congr 1
  rcases hc with ⟨hk, h32⟩ | hk
  · have e := drop_byte hk
    have hb' := byteAt_get e
    rw [Lib.drop_at e, go_cons, isSp_ok (by omega), if_pos (by simp; omega)]
    rfl
  · rw [drop_end s _ (by omega), drop_end s bg (by omega)]
theorem FldRel.fin {s : ByteArray} {bg : Nat} {done : List ByteArray} (h : FldRel s (s.size + 1) bg done) : okTo32 s s.size ∧ done = fldS s := by
  obtain rfl := h.last rfl
  have e := h.eq
  rw [curS_nil, drop_end s _ (by omega), go_nil] at e
  have ho := h.ok
  rw [show min (s.size + 1) s.size = s.size by omega] at ho
  refine ⟨ho, ?_⟩
  unfold fldS
  rw [← e]
  simp only [List.isEmpty_nil, if_true, List.append_nil, List.map_map]
  conv => lhs; rw [← List.map_id done]
  exact List.map_congr_left fun x _ => by cases x; simp

def SpOutS (s : ByteArray) (w' : World) (e : Ending) : Prop :=
  ∃ n c A xs ok, SpRes s n xs ok ∧ e = .returned (.tuple #[.slice A n c, .bool ok]) ∧ StrRow w' A n xs
theorem SpOutS.no {s : ByteArray} (h : ¬ spOk s) (A : Option Addr) (c : Nat) (w' : World) : SpOutS s w' (.returned (.tuple #[.slice A 0 c, .bool false])) :=
  ⟨0, c, A, [], false, .inr ⟨h, rfl, rfl, rfl⟩, rfl, ⟨rfl, fun h => absurd rfl h⟩⟩
theorem strRow_of_own {w : World} {B n : Nat} {v : Value} {xs : List ByteArray} (h : w.ownsRow B 9 1 v n (xs.map Value.string)) : ∃ A c, v = .slice A n c ∧ xs.length = n ∧ StrRow w A n xs := by
  have hl : xs.length = n := by have := h.1; simp at this; omega
  rcases h.2 with ⟨rfl, rfl⟩ | ⟨g, cap, cur, rfl, _⟩
  · exact ⟨none, 0, rfl, hl, hl, fun h => absurd rfl h⟩
  · refine ⟨_, cap, rfl, hl, hl, fun _ => ⟨g, rfl, fun j hj => ⟨xs[j], List.getElem?_eq_getElem (by omega), ?_⟩⟩⟩
    rw [h.cellAt j (by omega), List.getElem?_map, List.getElem?_eq_getElem (by omega)]; rfl
theorem SpOutS.yes {s : ByteArray} {w : World} {B n : Nat} {v : Value} (h : spOk s) (ho : w.ownsRow B 9 1 v n ((fldS s).map Value.string)) : SpOutS s w (.returned (.tuple #[v, .bool true])) := by
  obtain ⟨A, c, rfl, hl, hr⟩ := strRow_of_own ho
  exact ⟨n, c, A, fldS s, true, .inl ⟨h, rfl, rfl, hl.symm⟩, rfl, hr⟩
theorem fld_step {m B : Nat} {w wr w1 : World} {v v' : Value} {o : Obj} {done : List ByteArray} {t : ByteArray} (hbel : Below w.heap.size w wr) (hown : wr.ownsRow w.heap.size B 1 v m (done.map Value.string))
    (hown1 : w1.ownsRow w.heap.size B 1 v' (m + 1) (done.map Value.string ++ [.string t])) (hgrow : (wr.alloc o).grownBy w1 v.ownBlock) :
    w1.ownsRow w.heap.size B 1 v' (m + 1) ((done ++ [t]).map Value.string) ∧ Below w.heap.size w w1 := by
  refine ⟨?_, ?_⟩
  · rw [List.map_append]; exact hown1
  · exact (hbel.alloc hbel.size _).grown hgrow (by have := hbel.size; simp; omega) (fun j hj => (hown.lt j hj).1)

set_option maxRecDepth 100000 in
set_option maxHeartbeats 2000000 in
theorem s_sp_loop (s : ByteArray) (w : World) (hs : s.size ≤ 600) :
    Calls Tryd.prog 7 #[.string s] w fun e w' => SpOutS s w' e ∧ Below w.heap.size w w' := by
  obtain ⟨i0, hi, hz0, hz1, hz2⟩ := info_parts Tryd.infoStr
  go_enter Tryd.func7, Tryd.ntmps7
  go_wp2
  go_loopw [4, 5, 6] (fun v bg i wr => ∃ (k b m : Nat) (done : List ByteArray), i = .int .i64 k ∧ bg = .int .i64 b ∧ FldRel s k b done ∧ done.length = m ∧ wr.ownsRow w.heap.size 9 1 v m (done.map Value.string) ∧ Below w.heap.size w wr)
    (fun _ _ i _ => s.size + 1 - (intOf i).toNat)
  case atStart => exact ⟨0, 0, 0, [], rfl, rfl, FldRel.start s, rfl, ⟨by simp, .inr ⟨w.heap.size, 0, #[], rfl, Nat.le_refl _, heap_alloc_new w _, by simp, by simp [maxLen], by simp, by simp⟩⟩, (Below.refl _ _).alloc (Nat.le_refl _) _⟩
  case round =>
    obtain ⟨k, b, m, done, rfl, rfl, hR, hm, hown, hbel⟩ := hrel
    have hle := hR.le
    have htop := hR.top
    have hfew := hR.few
    have HR := Lib.hid hR
    have HM := Lib.hid hm
    have k0 : (0 : Int) ≤ (k : Int) := by omega
    have b0 : (0 : Int) ≤ (b : Int) := by omega
    have bk : (b : Int) ≤ (k : Int) := by omega
    have hm6 : m ≤ 601 := by omega
    by_cases hlt : k < s.size
    · have q1 := byteAt_eq s k hlt
      have k1 : (k : Int) < (s.size : Int) := by omega
      have hbad : ¬ (32 ≤ byteAt s k ∧ byteAt s k ≤ 126) → ¬ spOk s := fun h h' => h (h'.2.1 k hlt)
      have HB := Lib.hid hbad
      clear hR hm hbad hfew
      by_cases c0 : 32 ≤ byteAt s k
      · by_cases c1 : byteAt s k ≤ 126
        · by_cases c2 : byteAt s k = 32
          · have hc := Lib.hid (show (k < s.size ∧ byteAt s k = 32) ∨ k = s.size from .inl ⟨hlt, c2⟩)
            rw [c2] at q1
            by_cases c3 : b < k
            · go_wp2_with (at_builtin; refine wpList_append_own _ rfl _ _ 25 rfl w.heap.size 9 i0 (.string ⟨#[]⟩) 1 16 Tryd.underlying25 hi hz0 hz1 hz2 rfl (by decide) _ _ _ rfl (hown.alloc _) ⟨wr.heap.size, 0, none⟩ 1 1 [.string (s.extract b k)] rfl rfl (World.news_of_block (cs := #[.string (s.extract b k)]) (t := 9) (fr := (0, 0)) (heap_alloc_new wr _)) (by simp [Value.oneCell']) (by unfold maxLen; omega) (by omega) (by have := hbel.size; simp; omega) ?_; intro v' w1 hown1 hgrow _)
              have hS := fld_step hbel hown hown1 hgrow
              clear hown1 hgrow hown
              go_wp2
              go_roundw
              case rel => exact ⟨k + 1, k + 1, m + 1, _, by go_num, by go_num, HR.out.cut hc.out c3, by simp [HM.out], hS.1, hS.2⟩
              case measure => simp [intOf]; omega
            · go_wp2
              go_roundw
              case rel => exact ⟨k + 1, k + 1, m, _, by go_num, by go_num, HR.out.skip hc.out c3, HM.out, hown, hbel⟩
              case measure => simp [intOf]; omega
          · have q2 : (byteAt s k == 32) = false := by simpa using c2
            have q3 : (byteAt s k != 32) = true := by simpa using c2
            go_wp2
            go_roundw
            case rel => exact ⟨k + 1, b, m, _, by go_num, rfl, HR.out.more hlt c0 c1 c2, HM.out, hown, hbel⟩
            case measure => simp [intOf]; omega
        · go_wp2
          go_ret2
          exact ⟨SpOutS.no (HB.out (fun h => by omega)) _ _ _, hbel.alloc hbel.size _⟩
      · go_wp2
        go_ret2
        exact ⟨SpOutS.no (HB.out (fun h => by omega)) _ _ _, hbel.alloc hbel.size _⟩
    · by_cases he : k = s.size
      · subst he
        have hc := Lib.hid (show (s.size < s.size ∧ byteAt s s.size = 32) ∨ s.size = s.size from .inr rfl)
        clear hR hm hfew
        by_cases c3 : b < s.size
        · go_wp2_with (at_builtin; refine wpList_append_own _ rfl _ _ 25 rfl w.heap.size 9 i0 (.string ⟨#[]⟩) 1 16 Tryd.underlying25 hi hz0 hz1 hz2 rfl (by decide) _ _ _ rfl (hown.alloc _) ⟨wr.heap.size, 0, none⟩ 1 1 [.string (s.extract b s.size)] rfl rfl (World.news_of_block (cs := #[.string (s.extract b s.size)]) (t := 9) (fr := (0, 0)) (heap_alloc_new wr _)) (by simp [Value.oneCell']) (by unfold maxLen; omega) (by omega) (by have := hbel.size; simp; omega) ?_; intro v' w1 hown1 hgrow _)
          have hS := fld_step hbel hown hown1 hgrow
          clear hown1 hgrow hown
          go_wp2
          go_roundw
          case rel => exact ⟨s.size + 1, s.size + 1, m + 1, _, by go_num, by go_num, HR.out.cut hc.out c3, by simp [HM.out], hS.1, hS.2⟩
          case measure => simp [intOf]
        · go_wp2
          go_roundw
          case rel => exact ⟨s.size + 1, s.size + 1, m, _, by go_num, by go_num, HR.out.skip hc.out c3, HM.out, hown, hbel⟩
          case measure => simp [intOf]
      · obtain rfl : k = s.size + 1 := by omega
        obtain ⟨ho, hd⟩ := hR.fin
        subst hd
        have HO := Lib.hid ho
        clear hR ho hfew HR
        obtain ⟨A, c, rfl, hl, hr⟩ := strRow_of_own hown
        have HW := Lib.hid hr
        clear hr
        by_cases h24 : m ≤ 24
        · have HS := Lib.hid (show spOk s from ⟨hs, HO.out, by omega⟩)
          have HF := Lib.hid (SpOutS.yes HS.out hown)
          clear hm
          go_wp2
          go_ret2
          exact ⟨HF.out, hbel⟩
        · have HS := Lib.hid (show ¬ spOk s from fun h => by have := h.2.2; omega)
          clear hm
          go_wp2
          go_ret2
          exact ⟨SpOutS.no HS.out _ _ _, hbel.alloc hbel.size _⟩
end Go.Proofs.YtbjaedmifacgaaaDoor
