/- Plain mathematics for chapter 1: hexadecimal texts as lists of numbers. Nothing here speaks of the program. -/
import Derived.WalkKit
namespace Go.Proofs.Ytlliiecdadiagaa
open Go.RowKit

/-- The code of a hexadecimal digit. -/
def figN (d : Int) : Int := if d < 10 then 48 + d else 97 + d - 10
theorem figN_bd {d : Int} (h0 : 0 ≤ d) (h1 : d < 16) : 0 ≤ figN d ∧ figN d < 256 := by unfold figN; split <;> omega

/-- The codes of the two digits of each byte. -/
def hexNums (l : List UInt8) : List Int := l.flatMap fun c => [figN ((c.toNat : Int) / 16), figN ((c.toNat : Int) % 16)]
theorem hexNums_length (l : List UInt8) : (hexNums l).length = 2 * l.length := by
  induction l with
  | nil => rfl
  | cons c l ih => simp only [hexNums, List.flatMap_cons, List.length_append, List.length_cons, List.length_nil] at ih ⊢; omega
theorem hexNums_snoc (l : List UInt8) (c : UInt8) : hexNums (l ++ [c]) = hexNums l ++ [figN ((c.toNat : Int) / 16), figN ((c.toNat : Int) % 16)] := by
  simp [hexNums, List.flatMap_append]
theorem take_snoc (s : ByteArray) (k : Nat) (h : k < s.size) : s.data.toList.take (k + 1) = s.data.toList.take k ++ [s[k]] := by
  rw [List.take_succ_eq_append_getElem (by simpa using h)]; rfl
theorem u8_lt (c : UInt8) : (c.toNat : Int) < 256 := by have := c.toNat_lt; omega

/-- A slice of bytes that the call owns, as a string. -/
theorem conv_owned {P : Program} {w : World} {base src dst e : TypeId} {v : Value} {n : Nat} {xs : List Int} (hs : P.underlying src = some (.slice e)) (he : P.underlying e = some (.int .u8)) (hd : P.underlying dst = some .string)
    (hown : w.ownsRow base e 1 v n (xs.map (Value.int .u8))) : (convert src dst v).run P w = .ok (.string (strOfNums xs)) w := by
  rcases hown.2 with ⟨rfl, h0⟩ | ⟨g, cap, cur, rfl, _⟩
  · have hx : xs = [] := by have := hown.1; subst h0; simpa using this
    subst hx
    rw [run_convert_bytes_nil w src e hs he 0 0 dst hd]; rfl
  · have hl : xs.length = n := by have := hown.1; simpa using this
    refine run_convert_bytes_arg w src e hs he g 0 n cap xs hl (fun i hi => ?_) dst hd
    have := hown.cellAt i (by omega)
    rw [Nat.zero_add, this]
    simp [List.getD, List.getElem?_eq_getElem (show i < xs.length by omega)]
/-- The value of a hexadecimal digit's code; -1 for every other byte. -/
def valN (c : Int) : Int := if 48 ≤ c ∧ c ≤ 57 then c - 48 else if 97 ≤ c ∧ c ≤ 102 then c - 97 + 10 else -1
theorem valN_bd (c : Int) : -1 ≤ valN c ∧ valN c ≤ 15 := by unfold valN; split <;> (try split) <;> omega
/-- The byte at a place of a string, as a number; 0 behind its end. -/
def byteAt (s : ByteArray) (i : Nat) : Int := ((s.data.toList.getD i 0).toNat : Int)
theorem byteAt_eq (s : ByteArray) (i : Nat) (h : i < s.size) : (s[i].toNat : Int) = byteAt s i := by
  unfold byteAt
  have h' : i < s.data.toList.length := by simpa using h
  rw [List.getD, List.getElem?_eq_getElem h']; rfl
theorem byteAt_bd (s : ByteArray) (i : Nat) : 0 ≤ byteAt s i ∧ byteAt s i < 256 := by
  unfold byteAt; have := (s.data.toList.getD i 0).toNat_lt; omega
/-- The two digits of pair j are digits; what they tell; the first m pairs. -/
def goodPair (s : ByteArray) (j : Nat) : Prop := 0 ≤ valN (byteAt s (2 * j)) ∧ 0 ≤ valN (byteAt s (2 * j + 1))
def pairNum (s : ByteArray) (j : Nat) : Int := 16 * valN (byteAt s (2 * j)) + valN (byteAt s (2 * j + 1))
def decTake (s : ByteArray) (m : Nat) : List Int := (List.range m).map (pairNum s)
theorem decTake_length (s : ByteArray) (m : Nat) : (decTake s m).length = m := by simp [decTake]
theorem decTake_succ (s : ByteArray) (m : Nat) : decTake s (m + 1) = decTake s m ++ [pairNum s m] := by simp [decTake, List.range_succ]
def allGood (s : ByteArray) : Prop := ∀ j, j < s.size / 2 → goodPair s j
/-- What DecodeHex answers, the length being even and not too great. -/
def DecPost (s : ByteArray) (e : Ending) : Prop :=
  (allGood s ∧ e = .returned (.tuple #[.string (strOfNums (decTake s (s.size / 2))), .bool true])) ∨ (¬ allGood s ∧ e = .returned (.tuple #[.string ⟨#[]⟩, .bool false]))
theorem DecPost.same {s : ByteArray} {e e' : Ending} (h : DecPost s e) (h' : DecPost s e') : e = e' := by
  rcases h with ⟨g, h⟩ | ⟨g, h⟩ <;> rcases h' with ⟨g', h'⟩ | ⟨g', h'⟩
  · rw [h, h']
  · exact absurd g g'
  · exact absurd g' g
  · rw [h, h']
theorem DecPost.bad {s : ByteArray} {m : Nat} (hm : m < s.size / 2) (h : ¬ goodPair s m) : DecPost s (.returned (.tuple #[.string ⟨#[]⟩, .bool false])) :=
  .inr ⟨fun g => h (g m hm), rfl⟩
theorem okTo_succ {s : ByteArray} {m : Nat} (h : ∀ j, j < m → goodPair s j) (h1 : goodPair s m) : ∀ j, j < m + 1 → goodPair s j := fun j hj => by
  by_cases e : j = m
  · exact e ▸ h1
  · exact h j (by omega)
end Go.Proofs.Ytlliiecdadiagaa
