/- Plain mathematics for chapter 1: a number's decimal text tells the number. Nothing here speaks of the program. -/
import Derived.WalkKit
import Derived.Test.YtciebalkfeoabaaDoorM3
namespace Go.Proofs.YtciebalkfeoabaaDoor
open Go.RowKit

/-- The number that a list of digits tells. -/
def valL (l : List UInt8) : Int := l.foldl (fun a c => 10 * a + (c.toNat : Int) - 48) 0
def digL (l : List UInt8) : Prop := ∀ c ∈ l, 48 ≤ c.toNat ∧ c.toNat ≤ 57
theorem valL_snoc (l : List UInt8) (c : UInt8) : valL (l ++ [c]) = 10 * valL l + (c.toNat : Int) - 48 := by simp [valL, List.foldl_append]
theorem u8_dig (d : Nat) (h : d < 10) : (UInt8.ofNat (48 + d)).toNat = 48 + d := by
  rw [UInt8.toNat_ofNat']; omega
theorem digL_app {a b : List UInt8} (ha : digL a) (hb : digL b) : digL (a ++ b) := fun c hc => by
  rcases List.mem_append.1 hc with h | h
  · exact ha c h
  · exact hb c h
theorem dec_spec (u : Nat) : digL (Lib.decDigits u) ∧ valL (Lib.decDigits u) = u := by
  induction u using Nat.strongRecOn with
  | _ u ih =>
    rw [Lib.decDigits]
    by_cases h : u < 10
    · rw [dif_pos h]
      refine ⟨fun c hc => ?_, ?_⟩
      · obtain rfl := List.mem_singleton.1 hc; rw [u8_dig u h]; omega
      · have := u8_dig u h
        simp only [valL, List.foldl_cons, List.foldl_nil, this]
        omega
    · rw [dif_neg h]
      obtain ⟨i1, i2⟩ := ih (u / 10) (by omega)
      have hd := u8_dig (u % 10) (by omega)
      refine ⟨digL_app i1 (fun c hc => by obtain rfl := List.mem_singleton.1 hc; rw [hd]; omega), ?_⟩
      rw [valL_snoc, i2, hd]
      omega
theorem numTo_valL (s : ByteArray) : ∀ k, k ≤ s.size → numTo s k = valL (s.data.toList.take k)
  | 0, _ => rfl
  | k + 1, h => by
    rw [numTo_succ, numTo_valL s k (by omega), take_snoc s k (by omega), valL_snoc, ← byteAt_eq s k (by omega)]
theorem allDig_of {s : ByteArray} (h : digL s.data.toList) : allDig s s.size := fun j hj => by
  have hj' : j < s.data.toList.length := by rw [← str_size]; exact hj
  have := h _ (List.getElem_mem hj')
  unfold isDig byteAt
  rw [List.getD, List.getElem?_eq_getElem hj']
  simp only [Option.getD_some]
  omega
theorem digL_of {s : ByteArray} (h : allDig s s.size) : digL s.data.toList := fun c hc => by
  obtain ⟨j, hj, rfl⟩ := List.getElem_of_mem hc
  have := h j (by rw [str_size]; exact hj)
  unfold isDig byteAt at this
  rw [List.getD, List.getElem?_eq_getElem hj] at this
  simp only [Option.getD_some] at this
  omega
theorem numTo_all (s : ByteArray) : numTo s s.size = valL s.data.toList := by
  rw [numTo_valL s s.size (Nat.le_refl _), List.take_of_length_le (by rw [← str_size]; omega)]

/-- The text of a number, as a string. -/
def decStr (n : Int) : ByteArray := ⟨(Lib.itoa n).toArray⟩
theorem decStr_list (n : Int) : (decStr n).data.toList = Lib.itoa n := by simp [decStr]
theorem nDigits_le10 (u : Nat) (h : u ≤ 1000000000) : (Lib.decDigits u).length ≤ 10 := by
  have hs : ∀ k, ∀ v : Nat, v < 10 ^ (k + 1) → (Lib.decDigits v).length ≤ k + 1 := by
    intro k
    induction k with
    | zero => intro v hv; rw [Lib.decDigits, dif_pos (by omega)]; simp
    | succ k ih =>
      intro v hv
      rw [Lib.decDigits]
      split
      · simp
      · rw [List.length_append]
        have := ih (v / 10) (by rw [Nat.pow_succ] at hv; omega)
        simp only [List.length_cons, List.length_nil]; omega
  exact hs 9 u (by omega)
theorem pu_text (n : Int) : (0 ≤ n ∧ n ≤ 1000000000 → puOk (decStr n) = true ∧ puVal (decStr n) = n) ∧ (¬ (0 ≤ n ∧ n ≤ 1000000000) → puOk (decStr n) = false) := by
  by_cases h0 : 0 ≤ n
  · obtain ⟨u, rfl⟩ : ∃ u : Nat, n = u := ⟨n.toNat, by omega⟩
    obtain ⟨d1, d2⟩ := dec_spec u
    have hl : (decStr u).data.toList = Lib.decDigits u := by rw [decStr_list, Lib.itoa_nonneg]
    have hd : allDig (decStr u) (decStr u).size := allDig_of (by rw [hl]; exact d1)
    have hn : numTo (decStr u) (decStr u).size = u := by rw [numTo_all, hl, d2]
    refine ⟨fun h => ?_, fun h => ?_⟩
    · have hs : (decStr u).size ≤ 10 := by rw [str_size, hl]; exact nDigits_le10 u (by omega)
      have e : puOk (decStr u) = true := by
        unfold puOk; simp only [decide_eq_true_eq]
        exact ⟨hs, hd, by rw [hn]; omega, by rw [hn, decStr_list]⟩
      exact ⟨e, by unfold puVal; rw [if_pos e, hn]⟩
    · exact pu_not fun hh => by
        have := hh.2.2.1
        rw [hn] at this
        exact h ⟨h0, this⟩
  · refine ⟨fun h => absurd h.1 h0, fun _ => pu_not fun hh => ?_⟩
    obtain ⟨u, rfl⟩ : ∃ u : Nat, n = -(u : Int) := ⟨n.natAbs, by omega⟩
    have hl : (decStr (-(u : Int))).data.toList = 45 :: Lib.decDigits u := by rw [decStr_list, Lib.itoa_neg u (by omega)]
    have := digL_of hh.2.1 45 (by rw [hl]; simp)
    simp at this
end Go.Proofs.YtciebalkfeoabaaDoor
