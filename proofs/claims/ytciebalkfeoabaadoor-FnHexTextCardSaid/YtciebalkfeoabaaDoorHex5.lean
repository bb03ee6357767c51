/- The walk of impl.DecodeHex. -/
import Derived.Test.YtciebalkfeoabaaDoorRows
import Derived.Test.YtciebalkfeoabaaDoorM1
import Derived.Test.YtciebalkfeoabaaDoorHex4
import Derived.WalkKit
import Derived.WalkSpells
import Derived.WalkLawsBesides
import Derived.Lib.Hide
import Derived.Deep.AppendLies
namespace Go.Proofs.YtciebalkfeoabaaDoor
open Go.RowKit

set_option maxHeartbeats 400000 in
theorem i_val (c : Int) (w : World) (hc0 : 0 ≤ c) (hc1 : c < 256) (hg : 0 ≤ valN c) :
    Calls Tryd.prog 41 #[.int .u8 c] w fun e w' => e = .returned (.tuple #[.int .u8 (valN c), .bool true]) ∧ w = w' := by
  by_cases h1 : 48 ≤ c
  · by_cases h2 : c ≤ 57
    · rw [show valN c = c - 48 by unfold valN; rw [if_pos ⟨h1, h2⟩]]
      go_enter Tryd.func41, Tryd.ntmps41
      go_wp2
      go_ret2
      exact ⟨rfl, rfl⟩
    · by_cases h3 : 97 ≤ c ∧ c ≤ 102
      · obtain ⟨h3, h4⟩ := h3
        rw [show valN c = c - 97 + 10 by unfold valN; rw [if_neg (by omega), if_pos ⟨h3, h4⟩]]
        go_enter Tryd.func41, Tryd.ntmps41
        go_wp2
        go_ret2
        exact ⟨rfl, rfl⟩
      · exact absurd hg (by unfold valN; rw [if_neg (by omega), if_neg h3]; omega)
  · exact absurd hg (by unfold valN; rw [if_neg (by omega), if_neg (by omega)]; omega)
set_option maxHeartbeats 400000 in
theorem i_noval (c : Int) (w : World) (hc0 : 0 ≤ c) (hc1 : c < 256) (hg : valN c < 0) :
    Calls Tryd.prog 41 #[.int .u8 c] w fun e w' => e = .returned (.tuple #[.int .u8 0, .bool false]) ∧ w = w' := by
  by_cases h1 : 48 ≤ c
  · by_cases h2 : c ≤ 57
    · exact absurd hg (by unfold valN; rw [if_pos ⟨h1, h2⟩]; omega)
    · by_cases h3 : 97 ≤ c
      · by_cases h4 : c ≤ 102
        · exact absurd hg (by unfold valN; rw [if_neg (by omega), if_pos ⟨h3, h4⟩]; omega)
        · go_enter Tryd.func41, Tryd.ntmps41
          go_wp2
          go_ret2
          exact ⟨rfl, rfl⟩
      · go_enter Tryd.func41, Tryd.ntmps41
        go_wp2
        go_ret2
        exact ⟨rfl, rfl⟩
  · have h3 : ¬ 97 ≤ c := by omega
    go_enter Tryd.func41, Tryd.ntmps41
    go_wp2
    go_ret2
    exact ⟨rfl, rfl⟩

def valU (c : Int) : Int := if 0 ≤ valN c then valN c else 0
def valB (c : Int) : Bool := decide (0 ≤ valN c)
theorem valU_pos {c : Int} (h : 0 ≤ valN c) : valU c = valN c := by unfold valU; rw [if_pos h]
theorem valB_pos {c : Int} (h : 0 ≤ valN c) : valB c = true := by unfold valB; simpa using h
theorem valB_neg {c : Int} (h : ¬ 0 ≤ valN c) : valB c = false := by unfold valB; simpa using h
theorem i_val_any (c : Int) (w : World) (hc0 : 0 ≤ c) (hc1 : c < 256) :
    Calls Tryd.prog 41 #[.int .u8 c] w fun e w' => e = .returned (.tuple #[.int .u8 (valU c), .bool (valB c)]) ∧ w = w' := by
  by_cases h : 0 ≤ valN c
  · rw [valU_pos h, valB_pos h]; exact i_val c w hc0 hc1 h
  · rw [show valU c = 0 by unfold valU; rw [if_neg h], valB_neg h]; exact i_noval c w hc0 hc1 (by omega)

set_option maxRecDepth 100000 in
set_option maxHeartbeats 1000000 in
theorem i_dec_loop (s : ByteArray) (w : World) (hs : s.size ≤ 40000) (he : s.size % 2 = 0) :
    Calls Tryd.prog 17 #[.string s] w fun e w' => DecPost s e ∧ Below w.heap.size w w' := by
  obtain ⟨i0, hi, hz0, hz1, hz2⟩ := info_parts Tryd.infoU8c
  have hmod : (s.size : Int) % 2 = 0 := by omega
  go_enter Tryd.func17, Tryd.ntmps17
  go_wp2_with (at_make; refine wpList_make_own _ rfl _ _ _ rfl w.heap.size 5 i0 _ 1 Tryd.underlying22 hi hz0 hz1 _ _ _ (s.size / 2) rfl rfl (by omega) (by rw [hz2]; omega) (by unfold maxLen; omega) (Nat.le_refl _) ?_; intro wa hown0 hgrow0)
  have hbel0 : Below w.heap.size w wa := (Below.refl _ _).grown hgrow0 (Nat.le_refl _) (fun _ h => by cases h)
  clear hmod hgrow0
  go_loopw [4, 5] (fun v i wr => ∃ k m : Nat, k = 2 * m ∧ k ≤ s.size ∧ (∀ j, j < m → goodPair s j) ∧ i = .int .i64 k ∧ wr.ownsRow w.heap.size 5 1 v m ((decTake s m).map (Value.int .u8)) ∧ Below w.heap.size w wr)
    (fun _ i _ => s.size - (intOf i).toNat)
  case atStart => exact ⟨0, 0, rfl, Nat.zero_le _, fun j hj => absurd hj (by omega), rfl, hown0, hbel0⟩
  case round =>
    obtain ⟨k, m, hkm, hk, hok0, rfl, hown, hbel⟩ := hrel
    have hok := Lib.hid hok0
    have he' : s.size % 2 = 0 := he
    clear hok0
    by_cases hlt : k < s.size
    · have hlt1 : k + 1 < s.size := by omega
      have hm2 : m < s.size / 2 := by omega
      have hmm : m + 1 ≤ 20000 := by omega
      have KM := Lib.hid hkm
      have q1 := byteAt_eq s k hlt
      have q2 := byteAt_eq s (k + 1) hlt1
      obtain ⟨b1, b1'⟩ := byteAt_bd s k
      obtain ⟨b2, b2'⟩ := byteAt_bd s (k + 1)
      obtain ⟨d1, d1'⟩ := valN_bd (byteAt s k)
      obtain ⟨d2, d2'⟩ := valN_bd (byteAt s (k + 1))
      have HP : Hid (pairNum s m = 16 * valN (byteAt s k) + valN (byteAt s (k + 1))) := by unfold pairNum; rw [← hkm]; exact rfl
      have HG : Hid (goodPair s m ↔ (0 ≤ valN (byteAt s k) ∧ 0 ≤ valN (byteAt s (k + 1)))) := by unfold goodPair; rw [← hkm]; exact Iff.rfl
      clear he' he hkm
      have k0 : (0 : Int) ≤ (k : Int) := by omega
      have k1 : (k : Int) < (s.size : Int) := by omega
      have k2 : (k : Int) + 1 < (s.size : Int) := by omega
      by_cases g1 : 0 ≤ valN (byteAt s k)
      · have v1 := valU_pos g1
        have t1 := valB_pos g1
        by_cases g2 : 0 ≤ valN (byteAt s (k + 1))
        · have v2 := valU_pos g2
          have t2 := valB_pos g2
          go_wp2_with (first
            | (go_at_call 41; ((with_reducible refine (i_val_any _ _ (by omega) (by omega)).mono ?_); rintro e w' ⟨rfl, rfl⟩))
            | (at_builtin; refine wpList_append_own _ rfl _ _ 22 rfl w.heap.size 5 i0 (.int .u8 0) 1 1 Tryd.underlying22 hi hz0 hz1 hz2 rfl (by decide) _ _ _ rfl (hown.alloc _) ⟨wr.heap.size, 0, none⟩ 1 1 [.int .u8 (16 * valN (byteAt s k) + valN (byteAt s (k + 1)))] rfl rfl (World.news_of_block (cs := #[.int .u8 (16 * valN (byteAt s k) + valN (byteAt s (k + 1)))]) (t := 5) (fr := (0, 0)) (heap_alloc_new wr _)) (by simp [Value.oneCell']) (by unfold maxLen; omega) (by omega) (by have := hbel.size; simp; omega) ?_; intro v' w1 hown1 hgrow _))
          have hR := dec_step HP.out.symm hbel hown hown1 hgrow
          clear hown1 hgrow hown
          go_wp2
          go_roundw
          case rel => exact ⟨k + 2, m + 1, by have := KM.out; omega, by omega, okTo_succ hok.out (HG.out.2 ⟨g1, g2⟩), by go_num, hR.1, hR.2⟩
          case measure => simp [intOf]; omega
        · have t2 := valB_neg g2
          go_wp2_with (go_at_call 41; ((with_reducible refine (i_val_any _ _ (by omega) (by omega)).mono ?_); rintro e w' ⟨rfl, rfl⟩))
          go_ret2
          exact ⟨DecPost.bad hm2 (fun h => absurd (HG.out.1 h).2 (by omega)), hbel⟩
      · have t1 := valB_neg g1
        go_wp2_with (go_at_call 41; ((with_reducible refine (i_val_any _ _ (by omega) (by omega)).mono ?_); rintro e w' ⟨rfl, rfl⟩))
        go_ret2
        exact ⟨DecPost.bad hm2 (fun h => absurd (HG.out.1 h).1 (by omega)), hbel⟩
    · have hv := conv_owned Tryd.underlying22 Tryd.underlying5 Tryd.underlying9 hown
      have HM : Hid (m = s.size / 2) := by unfold Hid; omega
      clear hkm he' he
      go_wp2
      go_ret2
      exact ⟨dec_fin HM.out hok.out, hbel⟩
end Go.Proofs.YtciebalkfeoabaaDoor
