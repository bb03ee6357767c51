/- Plain mathematics for chapter 1: decimal texts. Nothing here speaks of the program. -/
import Derived.WalkKit
import Derived.Lib.ItoaLen
namespace Go.Proofs.YtbjaedmifacgaaaDoor
open Go.RowKit

theorem i64_wf {n : Int} (h : (Lit.int .i64 n).wf = true) : -9223372036854775808 ≤ n ∧ n ≤ 9223372036854775807 := by
  simp [Lit.wf, IntKind.min, IntKind.max, IntKind.signed, IntKind.bits] at h
  omega

/-- The digits that are still to come in front: none for 0. -/
def frontD (u : Nat) : List UInt8 := if u = 0 then [] else Lib.decDigits u
theorem frontD_pos {u : Nat} (h : u ≠ 0) : frontD u = Lib.decDigits u := by unfold frontD; rw [if_neg h]
theorem frontD_step {u : Nat} (h : u ≠ 0) : frontD u = frontD (u / 10) ++ [UInt8.ofNat (48 + u % 10)] := by
  rw [frontD_pos h, Lib.decDigits]
  by_cases h10 : u < 10
  · rw [dif_pos h10, Nat.mod_eq_of_lt h10, show u / 10 = 0 by omega]; rfl
  · rw [dif_neg h10, frontD_pos (by omega)]
theorem frontD_carry {u : Nat} {t T : List UInt8} (h : u ≠ 0) (he : frontD u ++ t = T) : frontD (u / 10) ++ (UInt8.ofNat (48 + u % 10) :: t) = T := by
  rw [← he, frontD_step h, List.append_assoc]; rfl
theorem frontD_zero {t T : List UInt8} (he : frontD 0 ++ t = T) : t = T := he
theorem dec_len (u : Nat) (h : u ≤ 9223372036854775808) : (Lib.decDigits u).length ≤ 20 := by
  rw [Lib.decDigits_length]; exact Lib.nDigits_le20 u (by omega)

theorem str_ext {a b : ByteArray} (h : a.data.toList = b.data.toList) : a = b := by
  cases a; cases b; simp at h; simp [h]
theorem str_eta (a : ByteArray) : a = ⟨a.data.toList.toArray⟩ := by cases a; simp
theorem str_cat (a b : ByteArray) : (a ++ b).data.toList = a.data.toList ++ b.data.toList := by simp
theorem str_nums (xs : List Int) : (strOfNums xs).data.toList = xs.map fun n => UInt8.ofNat n.toNat := rfl
theorem str_size (a : ByteArray) : a.size = a.data.toList.length := Array.length_toList.symm
end Go.Proofs.YtbjaedmifacgaaaDoor
