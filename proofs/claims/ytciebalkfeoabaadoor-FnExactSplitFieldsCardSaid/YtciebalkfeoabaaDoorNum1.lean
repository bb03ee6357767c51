/- The walk of spec.FormatInt. -/
import Derived.Test.YtciebalkfeoabaaDoorRows
import Derived.Test.YtciebalkfeoabaaDoorM2
import Derived.WalkKit
import Derived.WalkSpells
import Derived.WalkLawsBesides
import Derived.Lib.Hide
namespace Go.Proofs.YtciebalkfeoabaaDoor
open Go.RowKit

set_option maxHeartbeats 400000 in
theorem s_fig10 (n : Int) (w : World) (h0 : 0 ≤ n) (h1 : n < 10) :
    Calls Tryd.prog 51 #[.int .i64 n] w fun e w' => e = .returned (.int .u8 (48 + n)) ∧ w = w' := by
  go_enter Tryd.func51, Tryd.ntmps51
  go_wp2
  go_ret
  exact ⟨rfl, rfl⟩

/-- What a round of the loop makes: a digit, as a string, from a new block. -/
theorem conv_digit {P : Program} {src dst e : TypeId} (hs : P.underlying src = some (.slice e)) (he : P.underlying e = some (.int .u8)) (hd : P.underlying dst = some .string) (w : World) (x : Int) :
    (convert src dst (.slice (some ⟨w.heap.size, 0, none⟩) 1 1)).run P (w.alloc (.cells #[.int .u8 x] e)) = .ok (.string (strOfNums [x])) (w.alloc (.cells #[.int .u8 x] e)) := by
  refine run_convert_bytes_arg (w.alloc (.cells #[.int .u8 x] e)) src e hs he w.heap.size 0 1 1 [x] rfl (fun i hi => ?_) dst hd
  obtain rfl : i = 0 := by omega
  have := cell_of_row (w.alloc (.cells #[.int .u8 x] e)) w.heap.size 0 #[.int .u8 x] e (0, 0) (heap_alloc_new w _)
  rw [Nat.zero_add, this]; rfl

/-- The loop's relation behind a round. -/
theorem fmt_step {s : ByteArray} {u : Nat} {d : Int} {T : List UInt8} (hd : d = ((u % 10 : Nat) : Int)) (hu : u ≠ 0) (he : frontD u ++ s.data.toList = T) :
    frontD (u / 10) ++ (strOfNums [48 + d] ++ s).data.toList = T := by
  rw [str_cat, str_nums]
  subst hd
  have h := frontD_carry hu he
  have e : ((48 : Int) + ((u % 10 : Nat) : Int)).toNat = 48 + u % 10 := by omega
  show frontD (u / 10) ++ ([UInt8.ofNat ((48 : Int) + ((u % 10 : Nat) : Int)).toNat] ++ s.data.toList) = T
  rw [e]; exact h

set_option maxRecDepth 100000 in
set_option maxHeartbeats 1000000 in
theorem s_fmt_pos (n : Int) (w : World) (h0 : 0 < n) (h1 : n ≤ 9223372036854775807) :
    Calls Tryd.prog 28 #[.int .i64 n] w fun e w' => e = .returned (.string ⟨(Lib.itoa n).toArray⟩) ∧ Below w.heap.size w w' := by
  obtain ⟨N, rfl⟩ : ∃ N : Nat, n = N := ⟨n.toNat, by omega⟩
  rw [Lib.itoa_nonneg]
  have hN : N ≠ 0 := by omega
  have hlen := dec_len N (by omega)
  have hne : ((N : Int) == 0) = false := by simp; omega
  go_enter Tryd.func28, Tryd.ntmps28
  go_wp2
  clear hne
  go_loopw [0, 4] (fun q s wr => ∃ (u : Nat) (t : ByteArray), u ≤ N ∧ q = .int .i64 u ∧ s = .string t ∧ frontD u ++ t.data.toList = Lib.decDigits N ∧ Below w.heap.size w wr)
    (fun q _ _ => (intOf q).toNat)
  case atStart => exact ⟨N, ⟨#[]⟩, Nat.le_refl _, rfl, rfl, by rw [frontD_pos hN]; simp, Below.refl _ _⟩
  case round =>
    obtain ⟨u, t, huN, rfl, rfl, he, hbel⟩ := hrel
    by_cases hu : u = 0
    · subst hu
      have ht : Ending.returned (.string t) = .returned (.string ⟨(Lib.decDigits N).toArray⟩) := by rw [str_eta t, frontD_zero he]
      have HT := Lib.hid ht
      clear ht he
      go_wp2
      go_ret
      exact ⟨HT.out, hbel⟩
    · have hts : t.size ≤ 20 := by
        have := congrArg List.length he
        rw [List.length_append] at this
        rw [str_size]; omega
      have hcv := fun x => conv_digit Tryd.underlying22 Tryd.underlying5 Tryd.underlying9 wr x
      have hs1 := fun x : Int => strOfNums_size [x]
      have HE := Lib.hid he
      have hu1 : (0 : Int) < (u : Int) := by omega
      have hb0 : (0 : Int) ≤ (u : Int) % 10 := by omega
      have hb1 : (u : Int) % 10 < 10 := by omega
      clear he
      go_wp2_with (go_at_call 51; ((with_reducible refine (s_fig10 _ _ (by omega) (by omega)).mono ?_); rintro e w' ⟨rfl, rfl⟩))
      go_roundw
      case rel => exact ⟨u / 10, strOfNums [48 + (u : Int) % 10] ++ t, by omega, by go_num, rfl, fmt_step (by omega) hu HE.out, hbel.alloc hbel.size _⟩
      case measure => simp [intOf]; omega

set_option maxRecDepth 100000 in
set_option maxHeartbeats 1000000 in
theorem s_fmt_neg (N : Nat) (w : World) (h0 : 0 < N) (h1 : N ≤ 9223372036854775808) :
    Calls Tryd.prog 28 #[.int .i64 (-(N : Int))] w fun e w' => e = .returned (.string ⟨(Lib.itoa (-(N : Int))).toArray⟩) ∧ Below w.heap.size w w' := by
  rw [Lib.itoa_neg N h0]
  have hN : N ≠ 0 := by omega
  have hlen := dec_len N h1
  have hne : (-(N : Int) == 0) = false := by simp; omega
  have hlt : -(N : Int) < 0 := by omega
  go_enter Tryd.func28, Tryd.ntmps28
  go_wp2
  clear hne
  go_loopw [0, 4] (fun q s wr => ∃ (u : Nat) (t : ByteArray), u ≤ N ∧ q = .int .i64 (-(u : Int)) ∧ s = .string t ∧ frontD u ++ t.data.toList = Lib.decDigits N ∧ Below w.heap.size w wr)
    (fun q _ _ => (-(intOf q)).toNat)
  case atStart => exact ⟨N, ⟨#[]⟩, Nat.le_refl _, rfl, rfl, by rw [frontD_pos hN]; simp, Below.refl _ _⟩
  case round =>
    obtain ⟨u, t, huN, rfl, rfl, he, hbel⟩ := hrel
    have hts : t.size ≤ 20 := by
      have := congrArg List.length he
      rw [List.length_append] at this
      rw [str_size]; omega
    by_cases hu : u = 0
    · subst hu
      have ht : Ending.returned (.string (⟨#[45]⟩ ++ t)) = .returned (.string ⟨(45 :: Lib.decDigits N).toArray⟩) := by
        rw [str_eta (⟨#[45]⟩ ++ t), str_cat, frontD_zero he]; rfl
      have HT := Lib.hid ht
      clear ht he
      go_wp2
      go_ret
      exact ⟨HT.out, hbel⟩
    · have hcv := fun x => conv_digit Tryd.underlying22 Tryd.underlying5 Tryd.underlying9 wr x
      have hs1 := fun x : Int => strOfNums_size [x]
      have HE := Lib.hid he
      have hb0 : (0 : Int) ≤ (u : Int) % 10 := by omega
      have hb1 : (u : Int) % 10 < 10 := by omega
      have hnz : (-(u : Int) != 0) = true := by simp; omega
      have em : (-(u : Int)).tmod 10 = -((u : Int) % 10) := by rw [Int.neg_tmod, Int.tmod_eq_emod_of_nonneg (by omega)]
      have ed : (-(u : Int)).tdiv 10 = -((u : Int) / 10) := by rw [Int.neg_tdiv, Int.tdiv_eq_ediv_of_nonneg (by omega)]
      clear he
      by_cases hz : (u : Int) % 10 = 0
      · go_wp2_with (go_at_call 51; ((with_reducible refine (s_fig10 _ _ (by omega) (by omega)).mono ?_); rintro e w' ⟨rfl, rfl⟩))
        clear em ed
        go_roundw
        case rel => exact ⟨u / 10, _, by omega, by rw [show -((u : Int) / 10) = -((u / 10 : Nat) : Int) by omega], rfl, fmt_step (d := 0) (by omega) hu HE.out, hbel.alloc hbel.size _⟩
        case measure => simp [intOf]; omega
      · have hlt2 : -((u : Int) % 10) < 0 := by omega
        go_wp2_with (go_at_call 51; ((with_reducible refine (s_fig10 _ _ (by omega) (by omega)).mono ?_); rintro e w' ⟨rfl, rfl⟩))
        clear em ed
        go_roundw
        case rel => exact ⟨u / 10, _, by omega, by rw [show -((u : Int) / 10) = -((u / 10 : Nat) : Int) by omega], rfl, fmt_step (d := (u : Int) % 10) (by omega) hu HE.out, hbel.alloc hbel.size _⟩
        case measure => simp [intOf]; omega

theorem s_fmt_any (n : Int) (w : World) (h0 : -9223372036854775808 ≤ n) (h1 : n ≤ 9223372036854775807) :
    Calls Tryd.prog 28 #[.int .i64 n] w fun e w' => e = .returned (.string ⟨(Lib.itoa n).toArray⟩) ∧ Below w.heap.size w w' := by
  by_cases hp : 0 < n
  · exact s_fmt_pos n w hp h1
  · by_cases hz : n = 0
    · subst hz
      have e : Ending.returned (.string ⟨#[48]⟩) = .returned (.string ⟨(Lib.itoa 0).toArray⟩) := by
        rw [show (0 : Int) = ((0 : Nat) : Int) from rfl, Lib.itoa_nonneg, Lib.decDigits_one (by omega)]; rfl
      have HT := Lib.hid e
      clear e
      go_enter Tryd.func28, Tryd.ntmps28
      go_wp2
      go_ret
      exact ⟨HT.out, Below.refl _ _⟩
    · obtain ⟨N, rfl⟩ : ∃ N : Nat, n = -(N : Int) := ⟨n.natAbs, by omega⟩
      exact s_fmt_neg N w (by omega) (by omega)
end Go.Proofs.YtciebalkfeoabaaDoor
