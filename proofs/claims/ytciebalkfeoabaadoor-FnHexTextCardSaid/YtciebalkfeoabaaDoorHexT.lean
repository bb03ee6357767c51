/- The walk of the law FnHexText. -/
import Derived.Test.YtciebalkfeoabaaDoorDrT
import Derived.Test.YtciebalkfeoabaaDoorHex2
import Derived.Test.YtciebalkfeoabaaDoorHex5
import Derived.Test.YtciebalkfeoabaaDoorNum2
namespace Go.Proofs.YtciebalkfeoabaaDoor
open Go.RowKit

/-- The encoding of a string. -/
def hexStr (s : ByteArray) : ByteArray := strOfNums (hexNums s.data.toList)
theorem hexStr_size (s : ByteArray) : (hexStr s).size = 2 * s.size := by
  unfold hexStr; rw [strOfNums_size, hexNums_length, str_size]
theorem valN_figN {d : Int} (h0 : 0 ≤ d) (h1 : d < 16) : valN (figN d) = d := by
  unfold figN valN
  by_cases h : d < 10
  · rw [if_pos h, if_pos (by omega)]; omega
  · rw [if_neg h, if_neg (by omega), if_pos (by omega)]; omega
theorem hexNums_at (l : List UInt8) : ∀ j, j < l.length → (hexNums l)[2 * j]? = some (figN (((l.getD j 0).toNat : Int) / 16)) ∧ (hexNums l)[2 * j + 1]? = some (figN (((l.getD j 0).toNat : Int) % 16)) := by
  induction l with
  | nil => intro j hj; simp at hj
  | cons c l ih =>
    intro j hj
    have e : hexNums (c :: l) = figN ((c.toNat : Int) / 16) :: figN ((c.toNat : Int) % 16) :: hexNums l := rfl
    rw [e]
    cases j with
    | zero => simp
    | succ j =>
      have h := ih j (by simpa using hj)
      rw [show 2 * (j + 1) = 2 * j + 1 + 1 by omega]
      simp only [List.getElem?_cons_succ, List.getD_cons_succ]
      exact h
theorem hexStr_byte (s : ByteArray) (j : Nat) (hj : j < s.size) : byteAt (hexStr s) (2 * j) = figN (byteAt s j / 16) ∧ byteAt (hexStr s) (2 * j + 1) = figN (byteAt s j % 16) := by
  have hl : j < s.data.toList.length := by rw [← str_size]; exact hj
  obtain ⟨h1, h2⟩ := hexNums_at s.data.toList j hl
  obtain ⟨b0, b1⟩ := byteAt_bd s j
  have f1 := figN_bd (d := byteAt s j / 16) (by omega) (by omega)
  have f2 := figN_bd (d := byteAt s j % 16) (by omega) (by omega)
  have key : ∀ (i : Nat) (v : Int), (hexNums s.data.toList)[i]? = some v → 0 ≤ v → v < 256 → byteAt (hexStr s) i = v := fun i v hv v0 v1 => by
    unfold byteAt hexStr
    rw [str_nums]
    simp only [List.getD, List.getElem?_map, hv, Option.map_some, Option.getD_some]
    rw [UInt8.toNat_ofNat']
    omega
  exact ⟨key _ _ h1 f1.1 f1.2, key _ _ h2 f2.1 f2.2⟩
theorem hexStr_good (s : ByteArray) : allGood (hexStr s) ∧ strOfNums (decTake (hexStr s) ((hexStr s).size / 2)) = s := by
  have hz := hexStr_size s
  have hp : ∀ j, j < s.size → valN (byteAt (hexStr s) (2 * j)) = byteAt s j / 16 ∧ valN (byteAt (hexStr s) (2 * j + 1)) = byteAt s j % 16 := fun j hj => by
    obtain ⟨b0, b1⟩ := byteAt_bd s j
    obtain ⟨e1, e2⟩ := hexStr_byte s j hj
    rw [e1, e2]
    exact ⟨valN_figN (by omega) (by omega), valN_figN (by omega) (by omega)⟩
  refine ⟨fun j hj => ?_, str_ext ?_⟩
  · obtain ⟨b0, b1⟩ := byteAt_bd s j
    obtain ⟨e1, e2⟩ := hp j (by omega)
    unfold goodPair
    rw [e1, e2]; omega
  · rw [hz, show 2 * s.size / 2 = s.size by omega, str_nums]
    apply List.ext_getElem
    · rw [List.length_map, decTake_length, str_size]
    · intro i h1 h2
      have hi : i < s.size := by rw [str_size]; exact h2
      obtain ⟨e1, e2⟩ := hp i hi
      obtain ⟨b0, b1⟩ := byteAt_bd s i
      have hb : byteAt s i = ((s.data.toList[i]'h2).toNat : Int) := by unfold byteAt; rw [List.getD, List.getElem?_eq_getElem h2]; rfl
      simp only [decTake, List.map_map, List.getElem_map, List.getElem_range, Function.comp_apply, pairNum, e1, e2]
      rw [show (16 * (byteAt s i / 16) + byteAt s i % 16) = byteAt s i by omega, hb]
      apply UInt8.toNat_inj.1
      rw [UInt8.toNat_ofNat']
      have := (s.data.toList[i]'h2).toNat_lt
      omega

set_option maxHeartbeats 400000 in
theorem i_enc_longD (s : ByteArray) (w : World) (hs : 20000 < s.size) :
    Calls Tryd.prog 15 #[.string s] w fun e w' => e = .returned (.tuple #[.string ⟨#[]⟩, .bool false]) ∧ w = w' := by
  go_enter Tryd.func15, Tryd.ntmps15
  go_wp2
  go_ret2
  exact ⟨rfl, rfl⟩
theorem i_encD (s : ByteArray) (w : World) (hs : s.size ≤ 20000) :
    Calls Tryd.prog 15 #[.string s] w fun e w' => e = .returned (.tuple #[.string (hexStr s), .bool true]) ∧ Below w.heap.size w w' := i_enc_loop s w hs
theorem i_decD (s : ByteArray) (w : World) (hs : s.size ≤ 20000) :
    Calls Tryd.prog 17 #[.string (hexStr s)] w fun e w' => e = .returned (.tuple #[.string s, .bool true]) ∧ Below w.heap.size w w' := by
  obtain ⟨g1, g2⟩ := hexStr_good s
  have hz := hexStr_size s
  refine (i_dec_loop (hexStr s) w (by omega) (by omega)).mono fun e w' ⟨h, hb⟩ => ⟨?_, hb⟩
  rcases h with ⟨_, h⟩ | ⟨h, _⟩
  · rw [h, g2]
  · exact absurd g1 h
theorem ten_str : Lib.itoa 10 = [49, 48] := by
  rw [show (10 : Int) = ((10 : Nat) : Int) from rfl, Lib.itoa_nonneg, Lib.decDigits_two (by omega) (by omega)]; rfl

abbrev Tabs_FnHexText (w : World) : Prop := TabI w
set_option maxRecDepth 100000 in
set_option maxHeartbeats 2000000 in
theorem w_FnHexText (a0 : Option Addr) (len cap : Nat) (zs : List Int) (w : World) (hr : IsRow .u8 w a0 len cap zs) (ht : Tabs_FnHexText w) :
    Calls Tryd.prog 3 #[.slice a0 len cap] w fun e w' => e = .returned (.bool true) ∧ Below w.heap.size w w' := by
  by_cases hbig : len ≤ 1048576
  · have hcode := code_of_row hr hbig
    go_enter Tryd.func3, Tryd.ntmps3
    go_wp2_with (first
      | (go_at_call 13; go_in)
      | (go_at_call 14; ((with_reducible refine (d_enchex _ len cap a0 hcode).mono ?_); rintro e w1 ⟨s, hs, rfl, b1⟩)))
    by_cases h2 : 20000 < s.size
    · refine (i_enc_longD s _ h2).mono ?_
      rintro e w2 ⟨rfl, rfl⟩
      have hten2 : Lib.itoa 10 = [49, 48] := ten_str
      go_wp2_with (go_at_call 16; ((with_reducible refine (i_fmt _ _ (by omega) (by omega) (TabI.below ht b1)).mono ?_); rintro e w3 ⟨rfl, b3⟩))
      go_ret
      exact ⟨rfl, b1.trans (b3.mono b1.size)⟩
    · refine (i_encD s _ (by omega)).mono ?_
      rintro e w2 ⟨rfl, b2⟩
      have b12 := b1.trans (b2.mono b1.size)
      have hz := hexStr_size s
      have hz2 : ((hexStr s).size : Int) = 2 * (s.size : Int) := by omega
      clear hz
      go_wp2_with (go_at_call 17; ((with_reducible refine (i_decD s _ (by omega)).mono ?_); rintro e w3 ⟨rfl, b3⟩))
      go_ret
      exact ⟨rfl, b12.trans (b3.mono b12.size)⟩
  · go_enter Tryd.func3, Tryd.ntmps3
    go_wp2
    go_ret
    exact ⟨rfl, Below.refl _ _⟩
end Go.Proofs.YtciebalkfeoabaaDoor
