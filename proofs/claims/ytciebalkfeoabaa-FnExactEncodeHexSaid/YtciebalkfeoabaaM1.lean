/- Plain mathematics for chapter 1: hexadecimal texts as lists of numbers. Nothing here speaks of the program. -/
import Derived.WalkKit
namespace Go.Proofs.Ytciebalkfeoabaa
open Go.RowKit

/-- The code of a hexadecimal digit. -/
def figN (d : Int) : Int := if d < 10 then 48 + d else 97 + d - 10
theorem figN_bd {d : Int} (h0 : 0 ≤ d) (h1 : d < 16) : 0 ≤ figN d ∧ figN d < 256 := by unfold figN; split <;> omega

/-- The codes of the two digits of each byte. -/
def hexNums (l : List UInt8) : List Int := l.flatMap fun c => [figN ((c.toNat : Int) / 16), figN ((c.toNat : Int) % 16)]
theorem hexNums_length (l : List UInt8) : (hexNums l).length = 2 * l.length := by
  induction l with
  | nil => rfl
  | cons c l ih => simp only [hexNums, List.flatMap_cons, List.length_append, List.length_cons, List.length_nil] at ih ⊢; omega
theorem hexNums_snoc (l : List UInt8) (c : UInt8) : hexNums (l ++ [c]) = hexNums l ++ [figN ((c.toNat : Int) / 16), figN ((c.toNat : Int) % 16)] := by
  simp [hexNums, List.flatMap_append]
theorem take_snoc (s : ByteArray) (k : Nat) (h : k < s.size) : s.data.toList.take (k + 1) = s.data.toList.take k ++ [s[k]] := by
  rw [List.take_succ_eq_append_getElem (by simpa using h)]; rfl
theorem u8_lt (c : UInt8) : (c.toNat : Int) < 256 := by have := c.toNat_lt; omega

/-- A slice of bytes that the call owns, as a string. -/
theorem conv_owned {P : Program} {w : World} {base src dst e : TypeId} {v : Value} {n : Nat} {xs : List Int} (hs : P.underlying src = some (.slice e)) (he : P.underlying e = some (.int .u8)) (hd : P.underlying dst = some .string)
    (hown : w.ownsRow base e 1 v n (xs.map (Value.int .u8))) : (convert src dst v).run P w = .ok (.string (strOfNums xs)) w := by
  rcases hown.2 with ⟨rfl, h0⟩ | ⟨g, cap, cur, rfl, _⟩
  · have hx : xs = [] := by have := hown.1; subst h0; simpa using this
    subst hx
    rw [run_convert_bytes_nil w src e hs he 0 0 dst hd]; rfl
  · have hl : xs.length = n := by have := hown.1; simpa using this
    refine run_convert_bytes_arg w src e hs he g 0 n cap xs hl (fun i hi => ?_) dst hd
    have := hown.cellAt i (by omega)
    rw [Nat.zero_add, this]
    simp [List.getD, List.getElem?_eq_getElem (show i < xs.length by omega)]
end Go.Proofs.Ytciebalkfeoabaa
