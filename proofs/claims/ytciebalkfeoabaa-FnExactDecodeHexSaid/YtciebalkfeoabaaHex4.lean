/- The walk of spec.DecodeHex. -/
import Derived.Test.YtciebalkfeoabaaRows
import Derived.Test.YtciebalkfeoabaaM1
import Derived.WalkKit
import Derived.WalkSpells
import Derived.WalkLawsBesides
import Derived.Lib.Hide
import Derived.Deep.AppendLies
namespace Go.Proofs.Ytciebalkfeoabaa
open Go.RowKit

set_option maxHeartbeats 400000 in
theorem s_val (c : Int) (w : World) (hc0 : 0 ≤ c) (hc1 : c < 256) :
    Calls Try.prog 33 #[.int .u8 c] w fun e w' => e = .returned (.int .i64 (valN c)) ∧ w = w' := by
  by_cases h1 : 48 ≤ c
  · by_cases h2 : c ≤ 57
    · rw [show valN c = c - 48 by unfold valN; rw [if_pos ⟨h1, h2⟩]]
      go_enter Try.func33, Try.ntmps33
      go_wp2
      go_ret
      exact ⟨rfl, rfl⟩
    · by_cases h3 : 97 ≤ c
      · by_cases h4 : c ≤ 102
        · rw [show valN c = c - 97 + 10 by unfold valN; rw [if_neg (by omega), if_pos ⟨h3, h4⟩]]
          go_enter Try.func33, Try.ntmps33
          go_wp2
          go_ret
          exact ⟨rfl, rfl⟩
        · rw [show valN c = -1 by unfold valN; rw [if_neg (by omega), if_neg (by omega)]]
          go_enter Try.func33, Try.ntmps33
          go_wp2
          go_ret
          exact ⟨rfl, rfl⟩
      · rw [show valN c = -1 by unfold valN; rw [if_neg (by omega), if_neg (by omega)]]
        go_enter Try.func33, Try.ntmps33
        go_wp2
        go_ret
        exact ⟨rfl, rfl⟩
  · rw [show valN c = -1 by unfold valN; rw [if_neg (by omega), if_neg (by omega)]]
    have h3 : ¬ 97 ≤ c := by omega
    go_enter Try.func33, Try.ntmps33
    go_wp2
    go_ret
    exact ⟨rfl, rfl⟩

theorem Try.infoU8c : (Try.prog.info? 5).map (fun i => (i.zero, i.size, i.bytes)) = some (some (.int .u8 0), 1, 1) := by kernel_rfl

theorem dec_step {s : ByteArray} {m B : Nat} {w wr w1 : World} {v v' : Value} {o : Obj} {p : Int} (hp : p = pairNum s m) (hbel : Below w.heap.size w wr) (hown : wr.ownsRow w.heap.size B 1 v m ((decTake s m).map (Value.int .u8)))
    (hown1 : w1.ownsRow w.heap.size B 1 v' (m + 1) ((decTake s m).map (Value.int .u8) ++ [.int .u8 p])) (hgrow : (wr.alloc o).grownBy w1 v.ownBlock) :
    w1.ownsRow w.heap.size B 1 v' (m + 1) ((decTake s (m + 1)).map (Value.int .u8)) ∧ Below w.heap.size w w1 := by
  refine ⟨?_, ?_⟩
  · rw [decTake_succ, List.map_append, ← hp]; exact hown1
  · exact (hbel.alloc hbel.size _).grown hgrow (by have := hbel.size; simp; omega) (fun j hj => (hown.lt j hj).1)

theorem dec_fin {s : ByteArray} {m : Nat} (hm : m = s.size / 2) (h : ∀ j, j < m → goodPair s j) : DecPost s (.returned (.tuple #[.string (strOfNums (decTake s m)), .bool true])) := by
  subst hm; exact .inl ⟨h, rfl⟩

set_option maxRecDepth 100000 in
set_option maxHeartbeats 1000000 in
theorem s_dec_loop (s : ByteArray) (w : World) (hs : s.size ≤ 40000) (he : s.size % 2 = 0) :
    Calls Try.prog 18 #[.string s] w fun e w' => DecPost s e ∧ Below w.heap.size w w' := by
  obtain ⟨i0, hi, hz0, hz1, hz2⟩ := info_parts Try.infoU8c
  have hmod : (s.size : Int) % 2 = 0 := by omega
  go_enter Try.func18, Try.ntmps18
  go_wp2
  clear hmod
  go_loopw [4, 5] (fun v i wr => ∃ k m : Nat, k = 2 * m ∧ k ≤ s.size ∧ (∀ j, j < m → goodPair s j) ∧ i = .int .i64 k ∧ wr.ownsRow w.heap.size 5 1 v m ((decTake s m).map (Value.int .u8)) ∧ Below w.heap.size w wr)
    (fun _ i _ => s.size - (intOf i).toNat)
  case atStart => exact ⟨0, 0, rfl, Nat.zero_le _, fun j hj => absurd hj (by omega), rfl, ⟨by simp [decTake], .inr ⟨w.heap.size, 0, #[], rfl, Nat.le_refl _, heap_alloc_new w _, by simp, by simp [maxLen], by simp, by simp [decTake]⟩⟩, (Below.refl _ _).alloc (Nat.le_refl _) _⟩
  case round =>
    obtain ⟨k, m, hkm, hk, hok0, rfl, hown, hbel⟩ := hrel
    have hok := Lib.hid hok0
    have he' : s.size % 2 = 0 := he
    clear hok0
    by_cases hlt : k < s.size
    · have hlt1 : k + 1 < s.size := by omega
      have hm2 : m < s.size / 2 := by omega
      have hmm : m + 1 ≤ 20000 := by omega
      have KM := Lib.hid hkm
      have q1 := byteAt_eq s k hlt
      have q2 := byteAt_eq s (k + 1) hlt1
      obtain ⟨b1, b1'⟩ := byteAt_bd s k
      obtain ⟨b2, b2'⟩ := byteAt_bd s (k + 1)
      obtain ⟨d1, d1'⟩ := valN_bd (byteAt s k)
      obtain ⟨d2, d2'⟩ := valN_bd (byteAt s (k + 1))
      have HP : Hid (pairNum s m = 16 * valN (byteAt s k) + valN (byteAt s (k + 1))) := by unfold pairNum; rw [← hkm]; exact rfl
      have HG : Hid (goodPair s m ↔ (0 ≤ valN (byteAt s k) ∧ 0 ≤ valN (byteAt s (k + 1)))) := by unfold goodPair; rw [← hkm]; exact Iff.rfl
      clear he' he hkm
      have k0 : (0 : Int) ≤ (k : Int) := by omega
      have k1 : (k : Int) < (s.size : Int) := by omega
      have k2 : (k : Int) + 1 < (s.size : Int) := by omega
      by_cases g1 : 0 ≤ valN (byteAt s k)
      · by_cases g2 : 0 ≤ valN (byteAt s (k + 1))
        · go_wp2_with (first
            | (go_at_call 33; ((with_reducible refine (s_val _ _ (by omega) (by omega)).mono ?_); rintro e w' ⟨rfl, rfl⟩))
            | (at_builtin; refine wpList_append_own _ rfl _ _ 22 rfl w.heap.size 5 i0 (.int .u8 0) 1 1 Try.underlying22 hi hz0 hz1 hz2 rfl (by decide) _ _ _ rfl (hown.alloc _) ⟨wr.heap.size, 0, none⟩ 1 1 [.int .u8 (16 * valN (byteAt s k) + valN (byteAt s (k + 1)))] rfl rfl (World.news_of_block (cs := #[.int .u8 (16 * valN (byteAt s k) + valN (byteAt s (k + 1)))]) (t := 5) (fr := (0, 0)) (heap_alloc_new wr _)) (by simp [Value.oneCell']) (by unfold maxLen; omega) (by omega) (by have := hbel.size; simp; omega) ?_; intro v' w1 hown1 hgrow _))
          have hR := dec_step HP.out.symm hbel hown hown1 hgrow
          clear hown1 hgrow hown
          go_wp2
          go_roundw
          case rel => exact ⟨k + 2, m + 1, by have := KM.out; omega, by omega, okTo_succ hok.out (HG.out.2 ⟨g1, g2⟩), by go_num, hR.1, hR.2⟩
          case measure => simp [intOf]; omega
        · go_wp2_with (go_at_call 33; ((with_reducible refine (s_val _ _ (by omega) (by omega)).mono ?_); rintro e w' ⟨rfl, rfl⟩))
          go_ret2
          exact ⟨DecPost.bad hm2 (fun h => absurd (HG.out.1 h).2 (by omega)), hbel⟩
      · go_wp2_with (go_at_call 33; ((with_reducible refine (s_val _ _ (by omega) (by omega)).mono ?_); rintro e w' ⟨rfl, rfl⟩))
        go_ret2
        exact ⟨DecPost.bad hm2 (fun h => absurd (HG.out.1 h).1 (by omega)), hbel⟩
    · have hv := conv_owned Try.underlying22 Try.underlying5 Try.underlying9 hown
      have HM : Hid (m = s.size / 2) := by unfold Hid; omega
      clear hkm he' he
      go_wp2
      go_ret2
      exact ⟨dec_fin HM.out hok.out, hbel⟩
end Go.Proofs.Ytciebalkfeoabaa
