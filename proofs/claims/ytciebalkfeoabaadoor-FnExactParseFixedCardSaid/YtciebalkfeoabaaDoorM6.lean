/- Plain mathematics for chapter 1: thousandths scanned with their point skipped. Nothing here speaks of the program. -/
import Derived.WalkKit
import Derived.Test.YtciebalkfeoabaaDoorFixP
namespace Go.Proofs.YtciebalkfeoabaaDoor
open Go.RowKit

def numSkip (t : ByteArray) (p : Nat) : Nat → Int
  | 0 => 0
  | k + 1 => if k = p then numSkip t p k else 10 * numSkip t p k + (byteAt t k - 48)
def skDig (t : ByteArray) (p k : Nat) : Prop := ∀ j, j < k → j ≠ p → isDig (byteAt t j)
theorem numSkip_at (t : ByteArray) (p : Nat) : numSkip t p (p + 1) = numSkip t p p := by rw [numSkip, if_pos rfl]
theorem numSkip_off (t : ByteArray) (p k : Nat) (h : k ≠ p) : numSkip t p (k + 1) = 10 * numSkip t p k + (byteAt t k - 48) := by rw [numSkip, if_neg h]
theorem skDig_zero (t : ByteArray) (p : Nat) : skDig t p 0 := fun j hj => absurd hj (by omega)
theorem skDig_at {t : ByteArray} {p : Nat} (h : skDig t p p) : skDig t p (p + 1) := fun j hj hn => h j (by omega) hn
theorem skDig_off {t : ByteArray} {p k : Nat} (h : skDig t p k) (h1 : isDig (byteAt t k)) : skDig t p (k + 1) := fun j hj hn => by
  by_cases e : j = k
  · exact e ▸ h1
  · exact h j (by omega) hn
theorem numSkip_pow {t : ByteArray} {p : Nat} : ∀ {k : Nat}, skDig t p k → 0 ≤ numSkip t p k ∧ numSkip t p k + 1 ≤ (10 : Int) ^ k
  | 0, _ => ⟨by simp [numSkip], by simp [numSkip]⟩
  | k + 1, h => by
    have ih := numSkip_pow (k := k) (fun j hj hn => h j (by omega) hn)
    rw [numSkip]
    split
    · rw [Int.pow_succ]; omega
    · rename_i hk
      have hd := h k (by omega) hk
      unfold isDig at hd
      rw [Int.pow_succ]; omega
theorem numSkip_bd {t : ByteArray} {p k : Nat} (h : skDig t p k) (hk : k ≤ 12) : 0 ≤ numSkip t p k ∧ numSkip t p k ≤ 999999999999 := by
  obtain ⟨h0, h1⟩ := numSkip_pow h
  refine ⟨h0, ?_⟩
  have hp : (10 : Int) ^ k ≤ 10 ^ 12 := by
    have : (10 : Nat) ^ k ≤ 10 ^ 12 := Nat.pow_le_pow_right (by omega) hk
    exact_mod_cast this
  omega
theorem numSkip_front (t : ByteArray) (p : Nat) : ∀ k, k ≤ p → numSkip t p k = numTo t k
  | 0, _ => rfl
  | k + 1, h => by rw [numSkip_off t p k (by omega), numTo_succ, numSkip_front t p k (by omega)]; omega

/-- The form that a text of thousandths has, the sign aside: the point four letters ahead of the end, digits elsewhere. -/
def FormOk (t : ByteArray) (p : Nat) : Prop := t.size = p + 4 ∧ 1 ≤ p ∧ p ≤ 8 ∧ byteAt t p = 46 ∧ skDig t p (p + 4)

theorem dec_len_pow : ∀ (k v : Nat), v < 10 ^ (k + 1) → (Lib.decDigits v).length ≤ k + 1 := by
  intro k
  induction k with
  | zero => intro v hv; rw [Lib.decDigits, dif_pos (by omega)]; simp
  | succ k ih =>
    intro v hv
    rw [Lib.decDigits]
    split
    · simp
    · rw [List.length_append]
      have := ih (v / 10) (by rw [Nat.pow_succ] at hv; omega)
      simp only [List.length_cons, List.length_nil]; omega
theorem byte_list {t : ByteArray} {l : List UInt8} (h : t.data.toList = l) (i : Nat) : byteAt t i = ((l.getD i 0).toNat : Int) := by unfold byteAt; rw [h]
theorem form_fix {t : ByteArray} {m : Nat} (hm : m ≤ 1000000000) (h : t.data.toList = fixL m) : ∃ p, FormOk t p ∧ numSkip t p (p + 4) = m := by
  obtain ⟨d1, d2⟩ := dec_spec (m / 1000)
  obtain ⟨c, l, _, _, hlen, hone⟩ := fixL_head m
  have hseven := dec_len_pow 6 (m / 1000) (by omega)
  have e0 : t.data.toList = Lib.decDigits (m / 1000) ++ 46 :: dig3 (m % 1000) := h
  generalize hD : Lib.decDigits (m / 1000) = D at *
  have a := u8_dig (m % 1000 / 100) (by omega)
  have b := u8_dig (m % 1000 / 10 % 10) (by omega)
  have g := u8_dig (m % 1000 % 10) (by omega)
  have hs : t.size = D.length + 4 := by rw [str_size, h, hlen]
  have q0 : byteAt t D.length = 46 := by rw [byte_list e0]; simp [List.getD]
  have q1 : byteAt t (D.length + 1) = 48 + ((m % 1000 / 100 : Nat) : Int) := by rw [byte_list e0]; simp only [List.getD, dig3]; rw [List.getElem?_append_right (by omega)]; simp only [show D.length + 1 - D.length = 1 by omega]; simp only [List.getElem?_cons_succ, List.getElem?_cons_zero, Option.getD_some, a]; omega
  have q2 : byteAt t (D.length + 2) = 48 + ((m % 1000 / 10 % 10 : Nat) : Int) := by rw [byte_list e0]; simp only [List.getD, dig3]; rw [List.getElem?_append_right (by omega)]; simp only [show D.length + 2 - D.length = 2 by omega]; simp only [List.getElem?_cons_succ, List.getElem?_cons_zero, Option.getD_some, b]; omega
  have q3 : byteAt t (D.length + 3) = 48 + ((m % 1000 % 10 : Nat) : Int) := by rw [byte_list e0]; simp only [List.getD, dig3]; rw [List.getElem?_append_right (by omega)]; simp only [show D.length + 3 - D.length = 3 by omega]; simp only [List.getElem?_cons_succ, List.getElem?_cons_zero, Option.getD_some, g]; omega
  have qf : ∀ j, j < D.length → isDig (byteAt t j) := fun j hj => by
    have hx := d1 _ (List.getElem_mem hj)
    rw [byte_list e0]
    simp only [List.getD]
    rw [List.getElem?_append_left hj, List.getElem?_eq_getElem hj]
    unfold isDig
    simp only [Option.getD_some]
    omega
  refine ⟨D.length, ⟨hs, hone, by omega, q0, fun j hj hn => ?_⟩, ?_⟩
  · by_cases hj1 : j < D.length
    · exact qf j hj1
    · unfold isDig
      rcases (show j = D.length + 1 ∨ j = D.length + 2 ∨ j = D.length + 3 by omega) with rfl | rfl | rfl
      · rw [q1]; omega
      · rw [q2]; omega
      · rw [q3]; omega
  · rw [numSkip_off t _ (D.length + 3) (by omega), numSkip_off t _ (D.length + 2) (by omega), numSkip_off t _ (D.length + 1) (by omega), numSkip_at, numSkip_front t _ _ (Nat.le_refl _), q1, q2, q3]
    rw [numTo_valL t _ (by omega), e0, List.take_left, d2]
    omega
theorem form_unique {t : ByteArray} {p q : Nat} (h : FormOk t p) (h' : FormOk t q) : p = q := by have := h.1; have := h'.1; omega

theorem rest_list {n : Int} (h0 : -1000000000 ≤ n) (h1 : n ≤ 1000000000) : ∃ m : Nat, m ≤ 1000000000 ∧ (pRest (fixText n)).data.toList = fixL m ∧ n = (if pNeg (fixText n) = true then -1 else 1) * (m : Int) := by
  by_cases hn : n < 0
  · obtain ⟨m, rfl⟩ : ∃ m : Nat, n = -(m : Int) := ⟨n.natAbs, by omega⟩
    have hl := fixText_neg m (by omega) (by omega)
    refine ⟨m, by omega, rest_fix (Or.inr hl), ?_⟩
    rw [show pNeg (fixText (-(m : Int))) = true by unfold pNeg Lib.hasPrefix; rw [hl]; simp [List.isPrefixOf]]
    simp
  · obtain ⟨m, rfl⟩ : ∃ m : Nat, n = m := ⟨n.toNat, by omega⟩
    have hl := fixText_pos m (by omega)
    obtain ⟨x, l, e, hc, _⟩ := fixL_head m
    refine ⟨m, by omega, rest_fix (Or.inl hl), ?_⟩
    have : pNeg (fixText (m : Int)) = false := by
      unfold pNeg Lib.hasPrefix
      rw [hl, e]
      simp only [List.isPrefixOf, Bool.and_eq_false_iff, beq_eq_false_iff_ne]; exact Or.inl fun h => hc h.symm
    rw [this]; simp
/-- Where the form or the text fails, no number has the text. -/
theorem sp_no {s : ByteArray} (h : ∀ p, FormOk (pRest s) p → ¬ fixText ((if pNeg s = true then -1 else 1) * numSkip (pRest s) p (p + 4)) = s) :
    Ending.returned (.tuple #[.int .i64 0, .bool false]) = .returned (.tuple #[.int .i64 (pfVal s), .bool (pfOk s)]) := by
  have e : pfOk s = false := by
    unfold pfOk; simp only [decide_eq_false_iff_not]
    rintro ⟨n, h0, h1, rfl⟩
    obtain ⟨m, hm, hl, hn⟩ := rest_list h0 h1
    obtain ⟨p, hp, hv⟩ := form_fix hm hl
    exact h p hp (by rw [hv, ← hn])
  unfold pfVal; rw [e]; rfl
theorem sp_yes {s : ByteArray} {n : Int} (hs : 1 ≤ s.size) (h : fixText n = s) : Ending.returned (.tuple #[.int .i64 n, .bool true]) = .returned (.tuple #[.int .i64 (pfVal s), .bool (pfOk s)]) := by
  have hin : -1000000000 ≤ n ∧ n ≤ 1000000000 := by
    rcases Classical.em (-1000000000 ≤ n ∧ n ≤ 1000000000) with hh | hh
    · exact hh
    · have e := fixText_out hh
      rw [h] at e
      rw [e] at hs
      exact absurd hs (by decide)
  obtain ⟨a, b⟩ := pf_text hin.1 hin.2
  rw [h] at a b
  rw [a, b]
end Go.Proofs.YtciebalkfeoabaaDoor
