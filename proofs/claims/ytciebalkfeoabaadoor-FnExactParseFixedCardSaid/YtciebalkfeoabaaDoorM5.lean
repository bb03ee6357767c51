/- Plain mathematics for chapter 1: the text of thousandths, parsed. Nothing here speaks of the program. -/
import Derived.WalkKit
import Derived.Test.YtciebalkfeoabaaDoorM4
import Derived.Test.YtciebalkfeoabaaDoorFix1
import Derived.Test.YtciebalkfeoabaaDoorParse2
import Derived.Lib.IndexMore
import Derived.Lib.Strings
namespace Go.Proofs.YtciebalkfeoabaaDoor
open Go.RowKit

/-- The three digits behind the point. -/
def dig3 (r : Nat) : List UInt8 := [UInt8.ofNat (48 + r / 100), UInt8.ofNat (48 + r / 10 % 10), UInt8.ofNat (48 + r % 10)]
theorem dec_1000 (r : Nat) (h : r < 1000) : Lib.decDigits (1000 + r) = 49 :: dig3 r := by
  have e3 : Lib.decDigits 1 = [49] := by rw [Lib.decDigits_one (by omega)]; rfl
  rw [Lib.decDigits, dif_neg (by omega), Lib.decDigits, dif_neg (by omega), Lib.decDigits, dif_neg (by omega)]
  rw [show (1000 + r) / 10 / 10 / 10 = 1 by omega, e3]
  rw [show (1000 + r) / 10 / 10 % 10 = r / 100 by omega, show (1000 + r) / 10 % 10 = r / 10 % 10 by omega, show (1000 + r) % 10 = r % 10 by omega]
  rfl
theorem dig3_spec (r : Nat) (h : r < 1000) : digL (dig3 r) ∧ valL (dig3 r) = r ∧ (dig3 r).length = 3 := by
  have a := u8_dig (r / 100) (by omega)
  have b := u8_dig (r / 10 % 10) (by omega)
  have c := u8_dig (r % 10) (by omega)
  refine ⟨fun x hx => ?_, ?_, rfl⟩
  · unfold dig3 at hx
    rcases List.mem_cons.1 hx with h | hx
    · rw [h, a]; omega
    · rcases List.mem_cons.1 hx with h | hx
      · rw [h, b]; omega
      · rw [List.mem_singleton.1 hx, c]; omega
  · simp only [valL, dig3, List.foldl_cons, List.foldl_nil, a, b, c]
    omega

theorem numStr_list (n : Int) : (numStr n).data.toList = Lib.itoa n := by simp [numStr]
/-- The letters of the text of m thousandths, without its sign. -/
def fixL (m : Nat) : List UInt8 := Lib.decDigits (m / 1000) ++ 46 :: dig3 (m % 1000)
theorem fixStr_list (sg : ByteArray) (m : Nat) : (fixStr sg (m : Int)).data.toList = sg.data.toList ++ fixL m := by
  unfold fixStr fixL
  have e1 : (numStr ((m : Int) / 1000)).data.toList = Lib.decDigits (m / 1000) := by
    rw [show ((m : Int) / 1000) = ((m / 1000 : Nat) : Int) by omega, numStr_list, Lib.itoa_nonneg]
  have e2 : (numStr (1000 + (m : Int) % 1000)).data.toList = 49 :: dig3 (m % 1000) := by
    rw [show (1000 + (m : Int) % 1000) = ((1000 + m % 1000 : Nat) : Int) by omega, numStr_list, Lib.itoa_nonneg, dec_1000 _ (by omega)]
  rw [str_cat, str_cat, str_cat, e1]
  have e3 : ((numStr (1000 + (m : Int) % 1000)).extract 1 (numStr (1000 + (m : Int) % 1000)).size).data.toList = dig3 (m % 1000) := by
    have := Lib.extract_toList (numStr (1000 + (m : Int) % 1000)) 1 (numStr (1000 + (m : Int) % 1000)).size
    rw [ByteArray.toList_eq, e2, str_size, e2] at this
    rw [str_size, e2, this]
    rfl
  rw [e3]
  simp
/-- The letters of the text of n. -/
theorem fixText_neg (m : Nat) (h : m ≠ 0) (h1 : m ≤ 1000000000) : (fixText (-(m : Int))).data.toList = 45 :: fixL m := by
  unfold fixText
  rw [if_pos (by omega), if_pos (by omega), Int.neg_neg, fixStr_list]; rfl
theorem fixText_pos (m : Nat) (h1 : m ≤ 1000000000) : (fixText (m : Int)).data.toList = fixL m := by
  unfold fixText
  rw [if_pos (by omega), if_neg (by omega), fixStr_list]; rfl
theorem fixText_out {n : Int} (h : ¬ (-1000000000 ≤ n ∧ n ≤ 1000000000)) : fixText n = ⟨#[]⟩ := by unfold fixText; rw [if_neg h]
theorem fixL_head (m : Nat) : ∃ c l, fixL m = c :: l ∧ c ≠ 45 ∧ (fixL m).length = (Lib.decDigits (m / 1000)).length + 4 ∧ 1 ≤ (Lib.decDigits (m / 1000)).length := by
  obtain ⟨d1, _⟩ := dec_spec (m / 1000)
  have hlen : 1 ≤ (Lib.decDigits (m / 1000)).length := by rw [Lib.decDigits]; split <;> simp
  cases e : Lib.decDigits (m / 1000) with
  | nil => rw [e] at hlen; simp at hlen
  | cons c l =>
    refine ⟨c, l ++ 46 :: dig3 (m % 1000), by unfold fixL; rw [e]; rfl, fun h => ?_, by unfold fixL; rw [e]; simp [dig3], by simp⟩
    have := d1 c (by rw [e]; simp)
    rw [h] at this
    simp at this

theorem index_dot (a r : List UInt8) (h : digL a) : Lib.index (a ++ 46 :: r) [46] = a.length := by
  induction a with
  | nil => simp [Lib.index, List.isPrefixOf]
  | cons c l ih =>
    have hc := h c (by simp)
    have hi := ih (fun x hx => h x (by simp [hx]))
    have hne : ((46 : UInt8) == c) = false := by
      rw [beq_eq_false_iff_ne]; intro e; rw [← e] at hc; simp at hc
    rw [List.cons_append, Lib.index]
    rw [show ([46] : List UInt8).isPrefixOf (c :: (l ++ 46 :: r)) = false by simp [List.isPrefixOf, hne], hi]
    rw [if_neg (by simp), if_neg (by simp), List.length_cons]
    omega
theorem cut_dot (a r : List UInt8) (h : digL a) : Lib.cut (a ++ 46 :: r) [46] = (a, r, true) := by
  unfold Lib.cut
  rw [index_dot a r h, if_pos (by omega)]
  simp

/-- The parts into which a text is parsed: its sign, what stands ahead of the point, what stands behind it; the number. -/
def pNeg (s : ByteArray) : Bool := Lib.hasPrefix s.data.toList [45]
def pRest (s : ByteArray) : ByteArray := ⟨(Lib.trimPrefix s.data.toList [45]).toArray⟩
def pFront (s : ByteArray) : ByteArray := ⟨(Lib.cut (pRest s).data.toList [46]).1.toArray⟩
def pBack (s : ByteArray) : ByteArray := ⟨(Lib.cut (pRest s).data.toList [46]).2.1.toArray⟩
noncomputable def pNum (s : ByteArray) : Int := (if pNeg s = true then -1 else 1) * (1000 * scVal (pFront s) + scVal (pBack s))
noncomputable def pfOk (s : ByteArray) : Bool := @decide (∃ n : Int, -1000000000 ≤ n ∧ n ≤ 1000000000 ∧ fixText n = s) (Classical.propDecidable _)
noncomputable def pfVal (s : ByteArray) : Int := if pfOk s = true then pNum s else 0

theorem sc_dig {l : List UInt8} (h : digL l) (h0 : 1 ≤ l.length) (h1 : l.length ≤ 10) : scOk ⟨l.toArray⟩ = true ∧ scVal ⟨l.toArray⟩ = valL l := by
  have hl : (⟨l.toArray⟩ : ByteArray).data.toList = l := by simp
  have hs : (⟨l.toArray⟩ : ByteArray).size = l.length := by rw [str_size, hl]
  have e := sc_yes (s := ⟨l.toArray⟩) (by omega) (by omega) (allDig_of (by rw [hl]; exact h))
  exact ⟨e, by unfold scVal; rw [if_pos e, numTo_all, hl]⟩
theorem rest_fix {s : ByteArray} {m : Nat} (h : s.data.toList = fixL m ∨ s.data.toList = 45 :: fixL m) : (pRest s).data.toList = fixL m := by
  obtain ⟨c, l, e, hc, _⟩ := fixL_head m
  unfold pRest Lib.trimPrefix Lib.hasPrefix
  rcases h with h | h
  · rw [h, e]
    have : ([45] : List UInt8).isPrefixOf (c :: l) = false := by
      simp only [List.isPrefixOf, Bool.and_eq_false_iff, beq_eq_false_iff_ne]; exact Or.inl fun h => hc h.symm
    rw [this]; simp
  · rw [h]; simp [List.isPrefixOf]
theorem parts_fix {s : ByteArray} {m : Nat} (hm : m ≤ 1000000000) (h : s.data.toList = fixL m ∨ s.data.toList = 45 :: fixL m) :
    scOk (pFront s) = true ∧ scOk (pBack s) = true ∧ 1000 * scVal (pFront s) + scVal (pBack s) = m := by
  have hr := rest_fix h
  obtain ⟨d1, d2⟩ := dec_spec (m / 1000)
  obtain ⟨t1, t2, t3⟩ := dig3_spec (m % 1000) (by omega)
  obtain ⟨c, l, _, _, _, hlen⟩ := fixL_head m
  have hc : Lib.cut (pRest s).data.toList [46] = (Lib.decDigits (m / 1000), dig3 (m % 1000), true) := by rw [hr]; exact cut_dot _ _ d1
  have f1 := sc_dig d1 hlen (nDigits_le10 _ (by omega))
  have f2 := sc_dig t1 (by omega) (by omega)
  unfold pFront pBack
  rw [hc]
  refine ⟨f1.1, f2.1, ?_⟩
  show 1000 * scVal ⟨(Lib.decDigits (m / 1000)).toArray⟩ + scVal ⟨(dig3 (m % 1000)).toArray⟩ = (m : Int)
  rw [f1.2, f2.2, d2, t2]
  omega
/-- A text of a number is parsed as that number. -/
theorem parse_text {n : Int} (h0 : -1000000000 ≤ n) (h1 : n ≤ 1000000000) : scOk (pFront (fixText n)) = true ∧ scOk (pBack (fixText n)) = true ∧ pNum (fixText n) = n := by
  by_cases hn : n < 0
  · obtain ⟨m, rfl⟩ : ∃ m : Nat, n = -(m : Int) := ⟨n.natAbs, by omega⟩
    have hl := fixText_neg m (by omega) (by omega)
    obtain ⟨a, b, c⟩ := parts_fix (m := m) (by omega) (Or.inr hl)
    refine ⟨a, b, ?_⟩
    unfold pNum
    rw [c, show pNeg (fixText (-(m : Int))) = true by unfold pNeg Lib.hasPrefix; rw [hl]; simp [List.isPrefixOf]]
    simp
  · obtain ⟨m, rfl⟩ : ∃ m : Nat, n = m := ⟨n.toNat, by omega⟩
    have hl := fixText_pos m (by omega)
    obtain ⟨a, b, c⟩ := parts_fix (m := m) (by omega) (Or.inl hl)
    obtain ⟨x, l, e, hc, _⟩ := fixL_head m
    refine ⟨a, b, ?_⟩
    unfold pNum
    have : pNeg (fixText (m : Int)) = false := by
      unfold pNeg Lib.hasPrefix
      rw [hl, e]
      simp only [List.isPrefixOf, Bool.and_eq_false_iff, beq_eq_false_iff_ne]; exact Or.inl fun h => hc h.symm
    rw [c, this]
    simp
theorem pf_yes {s : ByteArray} (hf : scOk (pFront s) = true) (h : fixText (pNum s) = s) : pfOk s = true ∧ pfVal s = pNum s := by
  have hin : -1000000000 ≤ pNum s ∧ pNum s ≤ 1000000000 := by
    rcases Classical.em (-1000000000 ≤ pNum s ∧ pNum s ≤ 1000000000) with hh | hh
    · exact hh
    · have e := fixText_out hh
      rw [h] at e
      have := (sc_facts hf).1
      rw [e] at this
      exact absurd this (by decide)
  have e : pfOk s = true := by unfold pfOk; simp only [decide_eq_true_eq]; exact ⟨_, hin.1, hin.2, h⟩
  exact ⟨e, by unfold pfVal; rw [if_pos e]⟩
theorem pf_no {s : ByteArray} (h : ¬ (scOk (pFront s) = true ∧ scOk (pBack s) = true ∧ fixText (pNum s) = s)) : pfOk s = false ∧ pfVal s = 0 := by
  have e : pfOk s = false := by
    unfold pfOk; simp only [decide_eq_false_iff_not]
    rintro ⟨n, h0, h1, rfl⟩
    obtain ⟨a, b, c⟩ := parse_text h0 h1
    exact h ⟨a, b, by rw [c]⟩
  exact ⟨e, by unfold pfVal; rw [e]; rfl⟩
theorem pf_text {n : Int} (h0 : -1000000000 ≤ n) (h1 : n ≤ 1000000000) : pfOk (fixText n) = true ∧ pfVal (fixText n) = n := by
  obtain ⟨a, b, c⟩ := parse_text h0 h1
  obtain ⟨d, e⟩ := pf_yes (s := fixText n) a (by rw [c])
  exact ⟨d, by rw [e, c]⟩
theorem pf_empty : pfOk ⟨#[]⟩ = false ∧ pfVal ⟨#[]⟩ = 0 := pf_no (fun h => absurd (sc_facts h.1).1 (by unfold pFront pRest Lib.trimPrefix Lib.hasPrefix Lib.cut; decide))
end Go.Proofs.YtciebalkfeoabaaDoor
