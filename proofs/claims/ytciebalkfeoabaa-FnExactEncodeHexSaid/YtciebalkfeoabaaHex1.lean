/- The walks of spec.EncodeHex and its figure: what the calls answer. -/
import Derived.Test.YtciebalkfeoabaaRows
import Derived.Test.YtciebalkfeoabaaM1
import Derived.WalkKit
import Derived.WalkSpells
import Derived.WalkLawsBesides
import Derived.Lib.Hide
import Derived.Deep.RegionHeld3
import Derived.Deep.AppendLies
import Derived.Deep.DrawnRows
namespace Go.Proofs.Ytciebalkfeoabaa
open Go.RowKit
attribute [local go_sem ↓] Go.wp_at_zero Go.wp_at_succ

set_option maxHeartbeats 400000 in
theorem s_fig (n : Int) (w : World) (h0 : 0 ≤ n) (h1 : n < 16) :
    Calls Try.prog 32 #[.int .i64 n] w fun e w' => e = .returned (.int .u8 (figN n)) ∧ w = w' := by
  by_cases h : n < 10
  · have e : figN n = 48 + n := by unfold figN; rw [if_pos h]
    rw [e]; clear e
    go_enter Try.func32, Try.ntmps32
    go_wp2
    go_ret
    exact ⟨rfl, rfl⟩
  · have e : figN n = 97 + n - 10 := by unfold figN; rw [if_neg h]
    rw [e]; clear e
    go_enter Try.func32, Try.ntmps32
    go_wp2
    go_ret
    exact ⟨rfl, rfl⟩

theorem Try.infoU8 : (Try.prog.info? 5).map (fun i => (i.zero, i.size, i.bytes)) = some (some (.int .u8 0), 1, 1) := by kernel_rfl

theorem s_enc_step {s : ByteArray} {k g cap B : Nat} {w wr w1 : World} {v : Value} {o : Obj} (hlt : k < s.size) (hbel : Below w.heap.size w wr)
    (hown1 : w1.ownsRow w.heap.size B 1 (.slice (some ⟨g, 0, none⟩) (2 * k + 2) cap) (2 * k + 2) ((hexNums (s.data.toList.take k)).map (Value.int .u8) ++ [.int .u8 (figN ((s[k].toNat : Int) / 16)), .int .u8 (figN ((s[k].toNat : Int) % 16))]))
    (hgrow : (wr.alloc o).drew.grownBy w1 v.ownBlock) (hr : ∀ j, v.ownBlock = some j → w.heap.size ≤ j) :
    w1.ownsRow w.heap.size B 1 (.slice (some ⟨g, 0, none⟩) (2 * k + 2) cap) (2 * (k + 1)) ((hexNums (s.data.toList.take (k + 1))).map (Value.int .u8)) ∧ Below w.heap.size w w1 := by
  refine ⟨?_, ?_⟩
  · rw [take_snoc s k hlt, hexNums_snoc, List.map_append, show 2 * (k + 1) = 2 * k + 2 by omega]; exact hown1
  · exact ((hbel.alloc hbel.size _).drew).grown hgrow (by have := hbel.size; simp; omega) hr

set_option maxRecDepth 100000 in
set_option maxHeartbeats 1000000 in
theorem s_enc_loop (s : ByteArray) (w : World) (hs : s.size ≤ 20000) :
    Calls Try.prog 16 #[.string s] w fun e w' => e = .returned (.tuple #[.string (strOfNums (hexNums s.data.toList)), .bool true]) ∧ Below w.heap.size w w' := by
  obtain ⟨i0, hi, hz0, hz1, hz2⟩ := info_parts Try.infoU8
  have H0 := Lib.hid (p := w.heap.size = w.heap.size) rfl
  go_enter Try.func16, Try.ntmps16
  go_wp2
  go_loopw [4, 5] (fun v i wr => ∃ k : Nat, k ≤ s.size ∧ i = .int .i64 k ∧ wr.ownsRow w.heap.size 5 1 v (2 * k) ((hexNums (s.data.toList.take k)).map (Value.int .u8)) ∧ Below w.heap.size w wr)
    (fun _ i _ => s.size - (intOf i).toNat)
  case atStart => exact ⟨0, Nat.zero_le _, rfl, ⟨by simp [hexNums], .inr ⟨w.heap.size, 0, #[], rfl, Nat.le_refl _, heap_alloc_new w _, by simp, by simp [maxLen], by simp, by simp [hexNums]⟩⟩, (Below.refl _ _).alloc (Nat.le_refl _) _⟩
  case round =>
    obtain ⟨k, hk, rfl, hown, hbel⟩ := hrel
    by_cases hlt : k < s.size
    · have hc0 := u8_lt s[k]
      have hb0 : (0 : Int) ≤ (s[k].toNat : Int) / 16 := by omega
      have hb1 : (s[k].toNat : Int) / 16 < 16 := by omega
      have hb2 : (0 : Int) ≤ (s[k].toNat : Int) % 16 := by omega
      have hb3 : (s[k].toNat : Int) % 16 < 16 := by omega
      have hk0 : (0 : Int) ≤ (k : Int) := by omega
      have hk1 : (k : Int) < (s.size : Int) := by omega
      have e1 : IntKind.i64.wrap (s[k].toNat : Int) = (s[k].toNat : Int) := IntWalk.i64_in _ (by omega)
      have e2 : (s[k].toNat : Int).tdiv 16 = (s[k].toNat : Int) / 16 := Int.tdiv_eq_ediv_of_nonneg (by omega)
      have e3 : IntKind.i64.wrap ((s[k].toNat : Int) / 16) = (s[k].toNat : Int) / 16 := IntWalk.i64_in _ (by omega)
      have e4 : (s[k].toNat : Int).tmod 16 = (s[k].toNat : Int) % 16 := Int.tmod_eq_emod_of_nonneg (by omega)
      have e5 : IntKind.i64.wrap ((s[k].toNat : Int) % 16) = (s[k].toNat : Int) % 16 := IntWalk.i64_in _ (by omega)
      go_wp2_with fail
      go_region_held3 (fun _ => True) (trivial)
        (first
         | (go_at_call 32; refine (s_fig _ _ ?_ ?_).mono ?_; (assumption); (assumption); rintro e w' ⟨rfl, rfl⟩)
         | (refine step_append_lies _ (by rfl) _ _ _ (by rfl) w.heap.size 5 i0 _ 1 1 Try.underlying22 hi hz0 hz1 hz2 rfl (by omega) _ (2 * k) _ (by rfl) ((hown.alloc _).drew) ⟨wr.heap.size, 0, none⟩ 2 2 [.int .u8 (figN ((s[k].toNat : Int) / 16)), .int .u8 (figN ((s[k].toNat : Int) % 16))] (by rfl) (by rfl) (World.news_of_block (cs := #[.int .u8 (figN ((s[k].toNat : Int) / 16)), .int .u8 (figN ((s[k].toNat : Int) % 16))]) (t := 5) (fr := (0, 0)) (heap_alloc_new wr _)) (by simp [Value.oneCell']) (by omega) (by unfold maxLen; omega) (by omega) (by have := hbel.size; simp; omega) (wr.heap.size + 1) (by simp) ?_; intro g cap w1 hown1 hgrow hat hlt1))
      all_goals
        clear e1 e2 e3 e4 e5
        have hR := s_enc_step hlt hbel hown1 hgrow (fun j hj => (hown.lt j hj).1)
        clear hown1 hgrow hat hlt1 hown
        go_wp2
        go_roundw
        case rel => exact ⟨k + 1, by omega, by go_num, hR.1, hR.2⟩
        case measure => simp [intOf]; omega
    · obtain rfl : k = s.size := by omega
      have hv := conv_owned Try.underlying22 Try.underlying5 Try.underlying9 hown
      rw [List.take_of_length_le (by simp)] at hv
      go_wp2
      go_ret2
      exact ⟨rfl, hbel⟩
end Go.Proofs.Ytciebalkfeoabaa
