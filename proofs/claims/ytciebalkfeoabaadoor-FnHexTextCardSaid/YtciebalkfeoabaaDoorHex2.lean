/- The walk of impl.EncodeHex: what the call answers. -/
import Derived.Test.YtciebalkfeoabaaDoorRows
import Derived.Test.YtciebalkfeoabaaDoorM1
import Derived.WalkKit
import Derived.WalkSpells
import Derived.WalkLawsBesides
import Derived.Lib.Hide
import Derived.Deep.RegionHeld3
import Derived.Deep.AppendLies
import Derived.Deep.DrawnRows
namespace Go.Proofs.YtciebalkfeoabaaDoor
open Go.RowKit
attribute [local go_sem ↓] Go.wp_at_zero Go.wp_at_succ

theorem Tryd.infoU8b : (Tryd.prog.info? 5).map (fun i => (i.zero, i.size, i.bytes)) = some (some (.int .u8 0), 1, 1) := by kernel_rfl

theorem hexdig (n : Int) (h0 : 0 ≤ n) (h1 : n < 16) (w : World) :
    (Instr.index 9 (.string ⟨#[48, 49, 50, 51, 52, 53, 54, 55, 56, 57, 97, 98, 99, 100, 101, 102]⟩) (.int .u8 n)).run Tryd.prog w = .ok (.int .u8 (figN n)) w := by
  obtain ⟨m, rfl⟩ : ∃ m : Nat, n = m := ⟨n.toNat, by omega⟩
  have hm : m < 16 := by omega
  clear h0 h1
  exact (match m, hm with
  | 0, _ => show _ = _ by kernel_rfl
  | 1, _ => show _ = _ by kernel_rfl
  | 2, _ => show _ = _ by kernel_rfl
  | 3, _ => show _ = _ by kernel_rfl
  | 4, _ => show _ = _ by kernel_rfl
  | 5, _ => show _ = _ by kernel_rfl
  | 6, _ => show _ = _ by kernel_rfl
  | 7, _ => show _ = _ by kernel_rfl
  | 8, _ => show _ = _ by kernel_rfl
  | 9, _ => show _ = _ by kernel_rfl
  | 10, _ => show _ = _ by kernel_rfl
  | 11, _ => show _ = _ by kernel_rfl
  | 12, _ => show _ = _ by kernel_rfl
  | 13, _ => show _ = _ by kernel_rfl
  | 14, _ => show _ = _ by kernel_rfl
  | 15, _ => show _ = _ by kernel_rfl
  | n + 16, h => absurd h (by omega))

theorem i_enc_step {s : ByteArray} {k g cap B : Nat} {w wr w1 : World} {v : Value} {o : Obj} (hlt : k < s.size) (hbel : Below w.heap.size w wr)
    (hown1 : w1.ownsRow w.heap.size B 1 (.slice (some ⟨g, 0, none⟩) (2 * k + 2) cap) (2 * k + 2) ((hexNums (s.data.toList.take k)).map (Value.int .u8) ++ [.int .u8 (figN ((s[k].toNat : Int) / 16)), .int .u8 (figN ((s[k].toNat : Int) % 16))]))
    (hgrow : (wr.alloc o).drew.grownBy w1 v.ownBlock) (hr : ∀ j, v.ownBlock = some j → w.heap.size ≤ j) :
    w1.ownsRow w.heap.size B 1 (.slice (some ⟨g, 0, none⟩) (2 * k + 2) cap) (2 * (k + 1)) ((hexNums (s.data.toList.take (k + 1))).map (Value.int .u8)) ∧ Below w.heap.size w w1 := by
  refine ⟨?_, ?_⟩
  · rw [take_snoc s k hlt, hexNums_snoc, List.map_append, show 2 * (k + 1) = 2 * k + 2 by omega]; exact hown1
  · exact ((hbel.alloc hbel.size _).drew).grown hgrow (by have := hbel.size; simp; omega) hr

set_option maxRecDepth 100000 in
set_option maxHeartbeats 1000000 in
theorem i_enc_loop (s : ByteArray) (w : World) (hs : s.size ≤ 20000) :
    Calls Tryd.prog 15 #[.string s] w fun e w' => e = .returned (.tuple #[.string (strOfNums (hexNums s.data.toList)), .bool true]) ∧ Below w.heap.size w w' := by
  obtain ⟨i0, hi, hz0, hz1, hz2⟩ := info_parts Tryd.infoU8b
  go_enter Tryd.func15, Tryd.ntmps15
  go_wp2_with (at_make; refine wpList_make_own _ rfl _ _ _ rfl w.heap.size 5 i0 _ 1 Tryd.underlying22 hi hz0 hz1 _ _ _ (2 * s.size) rfl rfl (by omega) (by rw [hz2]; omega) (by unfold maxLen; omega) (Nat.le_refl _) ?_; intro wa hown0 hgrow0)
  have hbel0 : Below w.heap.size w wa := (Below.refl _ _).grown hgrow0 (Nat.le_refl _) (fun _ h => by cases h)
  clear hgrow0
  go_loopw [4, 15] (fun v i wr => ∃ k : Nat, k ≤ s.size ∧ i = .int .i64 k ∧ wr.ownsRow w.heap.size 5 1 v (2 * k) ((hexNums (s.data.toList.take k)).map (Value.int .u8)) ∧ Below w.heap.size w wr)
    (fun _ i _ => s.size - (intOf i).toNat)
  case atStart => exact ⟨0, Nat.zero_le _, rfl, hown0, hbel0⟩
  case round =>
    obtain ⟨k, hk, rfl, hown, hbel⟩ := hrel
    by_cases hlt : k < s.size
    · have hc0 := u8_lt s[k]
      have hb0 : (0 : Int) ≤ (s[k].toNat : Int) / 16 := by omega
      have hb1 : (s[k].toNat : Int) / 16 < 16 := by omega
      have hb2 : (0 : Int) ≤ (s[k].toNat : Int) % 16 := by omega
      have hb3 : (s[k].toNat : Int) % 16 < 16 := by omega
      have hk0 : (0 : Int) ≤ (k : Int) := by omega
      have hk1 : (k : Int) < (s.size : Int) := by omega
      have e2 : (s[k].toNat : Int).tdiv 16 = (s[k].toNat : Int) / 16 := Int.tdiv_eq_ediv_of_nonneg (by omega)
      have e3 : IntKind.u8.wrap ((s[k].toNat : Int) / 16) = (s[k].toNat : Int) / 16 := IntWalk.u8_in _ (by omega)
      have e4 : (s[k].toNat : Int).tmod 16 = (s[k].toNat : Int) % 16 := Int.tmod_eq_emod_of_nonneg (by omega)
      have e5 : IntKind.u8.wrap ((s[k].toNat : Int) % 16) = (s[k].toNat : Int) % 16 := IntWalk.u8_in _ (by omega)
      have x1 := hexdig ((s[k].toNat : Int) / 16) hb0 hb1
      have x2 := hexdig ((s[k].toNat : Int) % 16) hb2 hb3
      go_wp2_with fail
      go_region_held3 (fun _ => True) (trivial)
        ((refine step_append_lies _ (by rfl) _ _ _ (by rfl) w.heap.size 5 i0 _ 1 1 Tryd.underlying22 hi hz0 hz1 hz2 rfl (by omega) _ (2 * k) _ (by rfl) ((hown.alloc _).drew) ⟨wr.heap.size, 0, none⟩ 2 2 [.int .u8 (figN ((s[k].toNat : Int) / 16)), .int .u8 (figN ((s[k].toNat : Int) % 16))] (by rfl) (by rfl) (World.news_of_block (cs := #[.int .u8 (figN ((s[k].toNat : Int) / 16)), .int .u8 (figN ((s[k].toNat : Int) % 16))]) (t := 5) (fr := (0, 0)) (heap_alloc_new wr _)) (by simp [Value.oneCell']) (by omega) (by unfold maxLen; omega) (by omega) (by have := hbel.size; simp; omega) (wr.heap.size + 1) (by simp) ?_; intro g cap w1 hown1 hgrow hat hlt1))
      all_goals
        clear e2 e3 e4 e5 x1 x2
        have hR := i_enc_step hlt hbel hown1 hgrow (fun j hj => (hown.lt j hj).1)
        clear hown1 hgrow hat hlt1 hown
        go_wp2
        go_roundw
        case rel => exact ⟨k + 1, by omega, by go_num, hR.1, hR.2⟩
        case measure => simp [intOf]; omega
    · obtain rfl : k = s.size := by omega
      have hv := conv_owned Tryd.underlying22 Tryd.underlying5 Tryd.underlying9 hown
      rw [List.take_of_length_le (by simp)] at hv
      go_wp2
      go_ret2
      exact ⟨rfl, hbel⟩
end Go.Proofs.YtciebalkfeoabaaDoor
