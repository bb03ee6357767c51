/- One text out of: Dr0, Dr1, Clamp, Dr2, DrR, DrG. -/
import Derived.Test.YtonoknbangnleaaGreatRows
import Derived.WalkKit
import Derived.WalkSpells
import Derived.WalkLawsBesides
import Derived.Lib.Hide
import Derived.Deep.QuietTactic
import Derived.BigQuiet
import Derived.Deep.RegionHeld3
import Derived.Deep.AppendLies
import Derived.Deep.DrawnRows
import Derived.Test.YtonoknbangnleaaGreatFA
import Derived.Test.YtonoknbangnleaaGreatTZ
/- The drawing of chapter 1: what l01Byte answers and leaves. -/
namespace Go.Proofs.YtonoknbangnleaaGreat
open Go.RowKit
attribute [local go_sem ↓] Go.wp_at_zero Go.wp_at_succ

/-- What is told of a slice of bytes that came in: nothing is read of it where it is empty; else its cells hold bytes. It lies below block B. -/
def Code (w : World) (B : Nat) (A : Option Addr) (len : Nat) : Prop :=
  len ≤ 1048576 ∧ (len ≠ 0 → ∃ b off, A = some ⟨b, off, none⟩ ∧ b < B ∧ ∀ j, j < len → ∃ c : Int, 0 ≤ c ∧ c < 256 ∧ w.cell? ⟨b, off + j, none⟩ = some (.int .u8 c))
/-- The cursor in block g: its slice of bytes, how many are read, its number. -/
def Cur (w : World) (B g : Nat) (A : Option Addr) (len cap : Nat) : Prop :=
  B ≤ g ∧ Code w B A len ∧ ∃ i h : Int, 0 ≤ i ∧ i ≤ len ∧ -9223372036854775808 ≤ h ∧ h ≤ 9223372036854775807 ∧ w.heap[g]? = some (.cells #[.slice A len cap, .int .i64 i, .int .i64 h] 81 (0, 0))

theorem and255 (a : Int) : 0 ≤ bits .and .i64 a 255 ∧ bits .and .i64 a 255 < 256 := by
  have e : (BitVec.ofInt 64 a &&& BitVec.ofInt 64 255).toNat = (BitVec.ofInt 64 a).toNat % 256 := by
    rw [BitVec.toNat_and, show (BitVec.ofInt 64 255).toNat = 2 ^ 8 - 1 from rfl, Nat.and_two_pow_sub_one_eq_mod]
  have e2 : bits .and .i64 a 255 = IntKind.i64.wrap (((BitVec.ofInt 64 a &&& BitVec.ofInt 64 255).toNat : Nat) : Int) := rfl
  rw [e2, e, IntWalk.i64_in _ (by omega)]
  omega

theorem wrap64_bd (n : Int) : -9223372036854775808 ≤ wrap64 n ∧ wrap64 n ≤ 9223372036854775807 := by unfold wrap64; omega
theorem blk_set {w : World} {g : Nat} {a b c : Value} {t : TypeId} (h : w.heap[g]? = some (.cells #[a, b, c] t (0, 0))) (i : Nat) (u : Value) :
    (w.setCell ⟨g, i, none⟩ u).heap[g]? = some (.cells (#[a, b, c].setIfInBounds i u) t (0, 0)) := by
  simp [World.setCell, Array.getElem?_modify, h]
theorem grown_set (w : World) (g i : Nat) (u : Value) : w.grownBy (w.setCell ⟨g, i, none⟩ u) (some g) :=
  ⟨rfl, rfl, rfl, by simp [World.setCell], fun k _ hk => Below.heap_setCell _ _ _ _ (fun e => hk (by rw [e]))⟩
theorem grown_trans {a b c : World} {r : Option Nat} (h : a.grownBy b r) (k : b.grownBy c r) : a.grownBy c r :=
  ⟨k.os.trans h.os, k.tape.trans h.tape, k.output.trans h.output, Nat.le_trans h.size k.size, fun j hj hr => (k.block j (Nat.lt_of_lt_of_le hj h.size) hr).trans (h.block j hj hr)⟩

theorem grown_drewN (w : World) (n : Nat) (r : Option Nat) : w.grownBy (w.drewN n) r := ⟨rfl, rfl, rfl, Nat.le_refl _, fun _ _ _ => rfl⟩
theorem Code.grown {w w' : World} {B g : Nat} {A : Option Addr} {len : Nat} (h : Code w B A len) (hg : w.grownBy w' (some g)) (hB : B ≤ g) : Code w' B A len :=
  ⟨h.1, fun hn => by
    obtain ⟨b, off, e, hb, hc⟩ := h.2 hn
    refine ⟨b, off, e, hb, fun j hj => ?_⟩
    obtain ⟨c, c0, c1, hcell⟩ := hc j hj
    exact ⟨c, c0, c1, (World.cell?_of_block (hg.block b (World.block_lt_of_cell? w _ hcell) (by simp; omega))).trans hcell⟩⟩

set_option maxRecDepth 100000 in
set_option maxHeartbeats 1000000 in
theorem d_byte (w : World) (B g len cap : Nat) (A : Option Addr) (hc : Cur w B g A len cap) :
    Calls Tryz.prog 79 #[.pointer (some ⟨g, 0, none⟩)] w fun e w' => ∃ x : Int, 0 ≤ x ∧ x < 256 ∧ e = .returned (.int .i64 x) ∧ Cur w' B g A len cap ∧ w.grownBy w' (some g) := by
  obtain ⟨hB, hcode, i, h, hi0, hi1, hh0, hh1, hblk⟩ := hc
  have c0 : w.cell? ⟨g, 0, none⟩ = some (.slice A len cap) := cell_of_row w g 0 _ _ _ hblk
  have c1 : w.cell? ⟨g, 1, none⟩ = some (.int .i64 i) := cell_of_row w g 1 _ _ _ hblk
  have c2 : w.cell? ⟨g, 2, none⟩ = some (.int .i64 h) := cell_of_row w g 2 _ _ _ hblk
  have f1 : w.frozen? ⟨g, 1, none⟩ = false := by simp [World.frozen?, hblk]
  have f2 : w.frozen? ⟨g, 2, none⟩ = false := by simp [World.frozen?, hblk]
  have HB := Lib.hid hblk
  clear hblk
  go_enter Tryz.func79, Tryz.ntmps79
  go_wp2
  generalize hq : wrap64 (wrap64 (h * 6364136223846793005) + 1442695040888963407) = h2
  have hh2 : -9223372036854775808 ≤ h2 ∧ h2 ≤ 9223372036854775807 := by rw [← hq]; exact wrap64_bd _
  clear hq
  have blk1 : (w.setCell ⟨g, 2, none⟩ (.int .i64 h2)).heap[g]? = some (.cells #[.slice A len cap, .int .i64 i, .int .i64 h2] 81 (0, 0)) := blk_set HB.out 2 _
  have gr1 : w.grownBy (w.setCell ⟨g, 2, none⟩ (.int .i64 h2)) (some g) := grown_set w g 2 _
  generalize hw1 : w.setCell ⟨g, 2, none⟩ (.int .i64 h2) = w1 at *
  clear hw1 c0 c1 c2 f1 f2
  have c0 : w1.cell? ⟨g, 0, none⟩ = some (.slice A len cap) := cell_of_row w1 g 0 _ _ _ blk1
  have c1 : w1.cell? ⟨g, 1, none⟩ = some (.int .i64 i) := cell_of_row w1 g 1 _ _ _ blk1
  have c2 : w1.cell? ⟨g, 2, none⟩ = some (.int .i64 h2) := cell_of_row w1 g 2 _ _ _ blk1
  have f1 : w1.frozen? ⟨g, 1, none⟩ = false := by simp [World.frozen?, blk1]
  have B1 := Lib.hid blk1
  have G1 := Lib.hid gr1
  clear blk1 gr1
  by_cases hlt : i < (len : Int)
  · obtain ⟨k, rfl⟩ : ∃ k : Nat, i = k := ⟨i.toNat, by omega⟩
    obtain ⟨b, off, rfl, hbB, hcells⟩ := hcode.2 (by omega)
    obtain ⟨c, cc0, cc1, hcell⟩ := hcells k (by omega)
    have hcb : w1.cell? ⟨b, off + k, none⟩ = some (.int .u8 c) := (World.cell?_of_block (G1.out.block b (World.block_lt_of_cell? w _ hcell) (by simp; omega))).trans hcell
    have hlen := hcode.1
    clear hcell hcells
    go_quiet (fail)
    obtain ⟨x0, x1⟩ := and255 (bits BinOp.xor IntKind.i64 (h2 / 8589934592) (h2 / 35184372088832))
    generalize hx : bits .and .i64 (bits .xor .i64 (h2 / 8589934592) (h2 / 35184372088832)) 255 = x at *
    clear hx
    go_wp2
    go_quiet (fail)
    go_wp2
    go_quiet (fail)
    obtain ⟨y0, y1⟩ := and255 (x + c)
    generalize hy : bits .and .i64 (x + c) 255 = y at *
    clear hy
    go_wp2
    go_ret
    have gr : ∀ n, w1.grownBy ((w1.drewN n).setCell ⟨g, 1, none⟩ (.int .i64 ((k : Int) + 1))) (some g) := fun n => grown_trans (grown_drewN w1 n _) (grown_set _ g 1 _)
    refine ⟨y, y0, y1, rfl, ⟨hB, hcode.grown (grown_trans G1.out (gr _)) hB, (k : Int) + 1, h2, by omega, by omega, hh2.1, hh2.2, blk_set (w := w1.drewN _) B1.out 1 _⟩, grown_trans G1.out (gr _)⟩
  · go_quiet (fail)
    obtain ⟨x0, x1⟩ := and255 (bits BinOp.xor IntKind.i64 (h2 / 8589934592) (h2 / 35184372088832))
    generalize hx : bits .and .i64 (bits .xor .i64 (h2 / 8589934592) (h2 / 35184372088832)) 255 = x at *
    clear hx
    go_wp2
    go_quiet (fail)
    go_wp2
    go_ret
    have gr : ∀ n1 n2, w1.grownBy ((w1.drewN n1).drewN n2) (some g) := fun n1 n2 => grown_trans (grown_drewN w1 _ _) (grown_drewN _ _ _)
    exact ⟨x, x0, x1, rfl, ⟨hB, hcode.grown (grown_trans G1.out (gr _ _)) hB, i, h2, hi0, hi1, hh2.1, hh2.2, B1.out⟩, grown_trans G1.out (gr _ _)⟩
end Go.Proofs.YtonoknbangnleaaGreat

/- The drawing of chapter 1: l01New, l01Below, l01Once, l01PickInt, l01Number. -/
namespace Go.Proofs.YtonoknbangnleaaGreat
open Go.RowKit

/-- What the walk of a law is told of a slice of numbers that came in: nil, or a row of cells with numbers of its kind. -/
def IsRow (k : IntKind) (w : World) (a : Option Addr) (len cap : Nat) (zs : List Int) : Prop :=
  (a = none ∧ len = 0 ∧ cap = 0 ∧ zs = []) ∨
  ∃ x, a = some x ∧ len ≤ cap ∧ cap ≤ maxLen ∧ zs.length = cap ∧ (∀ i, i < zs.length → w.cell? (x.add i) = some (.int k (zs.getD i 0))) ∧ ∀ n ∈ zs, (Lit.int k n).wf = true
theorem u8_wf {n : Int} (h : (Lit.int .u8 n).wf = true) : 0 ≤ n ∧ n < 256 := by
  simp [Lit.wf, IntKind.min, IntKind.max, IntKind.signed, IntKind.bits] at h
  omega
theorem code_of_row {w : World} {a : Option Addr} {len cap : Nat} {zs : List Int} (h : IsRow .u8 w a len cap zs) (hl : len ≤ 1048576) : Code w w.heap.size a len := by
  refine ⟨hl, fun hn => ?_⟩
  rcases h with ⟨_, h0, _⟩ | ⟨x, rfl, hlc, _, hz, hc, hw⟩
  · exact absurd h0 hn
  · obtain ⟨b, off, spot⟩ := x
    have hc0 := hc 0 (by omega)
    have hs : spot = none := by simpa [Addr.add] using World.cell?_spot hc0
    subst hs
    have hadd : ∀ j, (⟨b, off, none⟩ : Addr).add j = ⟨b, off + j, none⟩ := fun j => by unfold Addr.add; split <;> simp_all
    refine ⟨b, off, rfl, ?_, fun j hj => ?_⟩
    · rw [hadd] at hc0
      exact World.block_lt_of_cell? w _ hc0
    · have h1 := hc j (by omega)
      rw [hadd] at h1
      have h2 : zs.getD j 0 ∈ zs := by
        rw [List.getD, List.getElem?_eq_getElem (show j < zs.length by omega)]; exact List.getElem_mem _
      have h3 := hw _ h2
      exact ⟨_, (u8_wf h3).1, (u8_wf h3).2, h1⟩

theorem and30 (a : Int) : 0 ≤ bits .and .i64 a 1073741823 ∧ bits .and .i64 a 1073741823 < 1073741824 := by
  have e : (BitVec.ofInt 64 a &&& BitVec.ofInt 64 1073741823).toNat = (BitVec.ofInt 64 a).toNat % 1073741824 := by
    rw [BitVec.toNat_and, show (BitVec.ofInt 64 1073741823).toNat = 2 ^ 30 - 1 from rfl, Nat.and_two_pow_sub_one_eq_mod]
  have e2 : bits .and .i64 a 1073741823 = IntKind.i64.wrap (((BitVec.ofInt 64 a &&& BitVec.ofInt 64 1073741823).toNat : Nat) : Int) := rfl
  rw [e2, e, IntWalk.i64_in _ (by omega)]
  omega

theorem cur_new {w : World} {B : Nat} {A : Option Addr} {len cap : Nat} {h : Int} (hB : B ≤ w.heap.size) (hc : Code w B A len) (h0 : 0 ≤ h) (h1 : h < 1073741824) :
    Cur (w.alloc (.cells #[.slice A len cap, .int .i64 0, .int .i64 h] 81)) B w.heap.size A len cap :=
  ⟨hB, ⟨hc.1, fun hn => by
    obtain ⟨b, off, e, hb, hcell⟩ := hc.2 hn
    refine ⟨b, off, e, hb, fun j hj => ?_⟩
    obtain ⟨c, c0, c1, hx⟩ := hcell j hj
    exact ⟨c, c0, c1, (World.cell?_alloc_lt w _ _ (Nat.lt_of_lt_of_le hb hB)).trans hx⟩⟩, 0, h, by omega, by omega, by omega, by omega, heap_alloc_new w _⟩

set_option maxRecDepth 100000 in
set_option maxHeartbeats 1000000 in
theorem d_new (w : World) (B len cap : Nat) (A : Option Addr) (hB : B ≤ w.heap.size) (hcode : Code w B A len) :
    Calls Tryz.prog 18 #[.slice A len cap] w fun e w' => ∃ g, e = .returned (.pointer (some ⟨g, 0, none⟩)) ∧ Cur w' B g A len cap ∧ Below B w w' := by
  have hlen := hcode.1
  go_enter Tryz.func18, Tryz.ntmps18
  go_wp2
  go_loop [3, 4] (fun h i => ∃ (k : Nat) (hv : Int), k ≤ len ∧ i = .int .i64 k ∧ h = .int .i64 hv ∧ 0 ≤ hv ∧ hv < 1073741824) (fun _ i => len - (intOf i).toNat)
  case atStart => exact ⟨0, 33211 + (len : Int), Nat.zero_le _, rfl, rfl, by omega, by omega⟩
  case round =>
    obtain ⟨k, hv, hk, rfl, rfl, hv0, hv1⟩ := hrel
    by_cases hlt : k < len
    · by_cases h4 : k < 4000
      · obtain ⟨b, off, rfl, hbB, hcells⟩ := hcode.2 (by omega)
        obtain ⟨c, cc0, cc1, hcell⟩ := hcells k hlt
        clear hcells
        go_wp2
        go_round
        case rel => exact ⟨k + 1, _, by omega, by go_num, rfl, (and30 _).1, (and30 _).2⟩
        case measure => simp [intOf]; omega
      · go_wp2
        go_ret
        exact ⟨_, rfl, cur_new hB hcode hv0 hv1, (Below.refl _ _).alloc hB _⟩
    · go_wp2
      go_ret
      exact ⟨_, rfl, cur_new hB hcode hv0 hv1, (Below.refl _ _).alloc hB _⟩

set_option maxRecDepth 100000 in
set_option maxHeartbeats 1000000 in
theorem d_below (n : Int) (w : World) (B g len cap : Nat) (A : Option Addr) (hc : Cur w B g A len cap) (hn : n ≤ 9223372036854775807) :
    Calls Tryz.prog 49 #[.pointer (some ⟨g, 0, none⟩), .int .i64 n] w fun e w' => ∃ x : Int, 0 ≤ x ∧ (0 < n → x < n) ∧ (n ≤ 0 → x = 0) ∧ e = .returned (.int .i64 x) ∧ Cur w' B g A len cap ∧ w.grownBy w' (some g) := by
  by_cases h0 : n ≤ 0
  · have HC := Lib.hid hc
    clear hc
    go_enter Tryz.func49, Tryz.ntmps49
    go_wp2
    go_ret
    exact ⟨0, by omega, fun h => by omega, fun _ => rfl, rfl, HC.out, World.grownBy.refl _ _⟩
  · by_cases h1 : n ≤ 256
    · have hne : (n == 0) = false := by simp; omega
      go_enter Tryz.func49, Tryz.ntmps49
      go_wp2_with (go_at_call 79; ((with_reducible refine (d_byte _ B g len cap A hc).mono ?_); rintro e w1 ⟨x, x0, x1, rfl, cur1, gr1⟩))
      go_ret
      exact ⟨x % n, Int.emod_nonneg _ (by omega), fun _ => Int.emod_lt_of_pos _ (by omega), fun h => by omega, rfl, cur1, gr1⟩
    · have hne : (n == 0) = false := by simp; omega
      go_enter Tryz.func49, Tryz.ntmps49
      go_wp2_with fail
      refine (d_byte _ B g len cap A hc).mono ?_
      rintro e w1 ⟨x, x0, x1, rfl, cur1, gr1⟩
      go_wp2_with fail
      refine (d_byte _ B g len cap A cur1).mono ?_
      rintro e w2 ⟨y, y0, y1, rfl, cur2, gr2⟩
      go_wp2_with fail
      refine (d_byte _ B g len cap A cur2).mono ?_
      rintro e w3 ⟨z, z0, z1, rfl, cur3, gr3⟩
      go_wp2_with fail
      refine (d_byte _ B g len cap A cur3).mono ?_
      rintro e w4 ⟨u, u0, u1, rfl, cur4, gr4⟩
      go_wp2
      go_ret
      exact ⟨_, Int.emod_nonneg _ (by omega), fun _ => Int.emod_lt_of_pos _ (by omega), fun h => by omega, rfl, cur4, grown_trans (grown_trans (grown_trans gr1 gr2) gr3) gr4⟩

set_option maxHeartbeats 400000 in
theorem d_once (n : Int) (w : World) (B g len cap : Nat) (A : Option Addr) (hc : Cur w B g A len cap) (hn : n ≤ 9223372036854775807) :
    Calls Tryz.prog 19 #[.pointer (some ⟨g, 0, none⟩), .int .i64 n] w fun e w' => ∃ b : Bool, e = .returned (.bool b) ∧ Cur w' B g A len cap ∧ w.grownBy w' (some g) := by
  go_enter Tryz.func19, Tryz.ntmps19
  go_wp2_with (go_at_call 49; ((with_reducible refine (d_below _ _ B g len cap A hc hn).mono ?_); rintro e w1 ⟨x, x0, x1, x2, rfl, cur1, gr1⟩))
  go_ret
  exact ⟨_, rfl, cur1, gr1⟩

set_option maxHeartbeats 1000000 in
/-- A pick out of a slice of whole numbers in a block of its own. -/
theorem d_pickint (w : World) (B g len cap b n m : Nat) (A : Option Addr) (t : TypeId) (xs : List Int) (hc : Cur w B g A len cap) (hn : n = xs.length) (h0 : 0 < n) (h1 : n < 1000) (hbg : b ≠ g)
    (hx : ∀ x ∈ xs, -9223372036854775808 ≤ x ∧ x ≤ 9223372036854775807) (hb : w.heap[b]? = some (.cells (xs.map (Value.int .i64)).toArray t (0, 0))) :
    Calls Tryz.prog 21 #[.pointer (some ⟨g, 0, none⟩), .slice (some ⟨b, 0, none⟩) n m] w fun e w' => ∃ x : Int, -9223372036854775808 ≤ x ∧ x ≤ 9223372036854775807 ∧ e = .returned (.int .i64 x) ∧ Cur w' B g A len cap ∧ w.grownBy w' (some g) := by
  have HB := Lib.hid hb
  clear hb
  go_enter Tryz.func21, Tryz.ntmps21
  go_wp2_with fail
  refine (d_below _ _ B g len cap A hc (by omega)).mono ?_
  rintro e w1 ⟨x, x0, x1, x2, rfl, cur1, gr1⟩
  obtain ⟨k, rfl⟩ : ∃ k : Nat, x = k := ⟨x.toNat, by omega⟩
  have hk : k < n := by have := x1 (by omega); omega
  have hcell : w1.cell? ⟨b, k, none⟩ = some (.int .i64 (xs.getD k 0)) := by
    have hlt : b < w.heap.size := by
      rcases Nat.lt_or_ge b w.heap.size with h | h
      · exact h
      · have := HB.out; rw [Array.getElem?_eq_none h] at this; cases this
    rw [cell_of_row w1 b k _ _ _ ((gr1.block b hlt (by simpa using hbg)).trans HB.out)]
    simp [List.getD, List.getElem?_eq_getElem (show k < xs.length by omega)]
  have hmem : xs.getD k 0 ∈ xs := by
    rw [List.getD, List.getElem?_eq_getElem (show k < xs.length by omega)]; exact List.getElem_mem _
  obtain ⟨r0, r1⟩ := hx _ hmem
  generalize xs.getD k 0 = v at *
  clear x1 x2 hx hmem HB
  have k0 : (0 : Int) ≤ (k : Int) := by omega
  have k1 : (k : Int) < (n : Int) := by omega
  go_wp2
  go_ret
  exact ⟨v, r0, r1, rfl, cur1, gr1⟩
end Go.Proofs.YtonoknbangnleaaGreat

/- The walks of spec.Clamp and impl.Clamp, and of the law FnExactClamp. -/
namespace Go.Proofs.YtonoknbangnleaaGreat
open Go.RowKit

def clampOf (n a b : Int) : Int := if b < a ∨ n < a then a else if b < n then b else n


theorem ret_i64 {a b : Int} (h : a = b) : Ending.returned (.int .i64 a) = .returned (.int .i64 b) := by rw [h]


end Go.Proofs.YtonoknbangnleaaGreat

/- The drawing of chapter 1: l01Number, DrawClamp; the law FnClamped. -/
namespace Go.Proofs.YtonoknbangnleaaGreat
open Go.RowKit

theorem Cur.lt {w : World} {B g len cap : Nat} {A : Option Addr} (h : Cur w B g A len cap) : g < w.heap.size := by
  obtain ⟨_, _, i, n, _, _, _, _, hb⟩ := h
  rcases Nat.lt_or_ge g w.heap.size with h | h
  · exact h
  · rw [Array.getElem?_eq_none h] at hb; cases hb
theorem Cur.grown_far {w w' : World} {B g len cap : Nat} {A : Option Addr} (h : Cur w B g A len cap) {row : Option Nat} (hg : w.grownBy w' row) (hr : row ≠ some g) (hB : ∀ k, row = some k → B ≤ k) : Cur w' B g A len cap := by
  have hlt := h.lt
  obtain ⟨h1, ⟨h2, h3⟩, i, n, a, b, c, d, hb⟩ := h
  refine ⟨h1, ⟨h2, fun hn => ?_⟩, i, n, a, b, c, d, (hg.block g hlt (fun e => hr e.symm)).trans hb⟩
  obtain ⟨b', off, e, hb', hc⟩ := h3 hn
  refine ⟨b', off, e, hb', fun j hj => ?_⟩
  obtain ⟨x, x0, x1, hx⟩ := hc j hj
  exact ⟨x, x0, x1, (World.cell?_of_block (hg.block b' (World.block_lt_of_cell? w _ hx) (fun e => by have := hB _ e.symm; omega))).trans hx⟩
theorem Cur.alloc {w : World} {B g len cap : Nat} {A : Option Addr} (h : Cur w B g A len cap) (o : Obj) : Cur (w.alloc o) B g A len cap :=
  h.grown_far (World.grownBy_alloc w o none) (by simp) (fun _ h => by cases h)

set_option maxRecDepth 100000 in
set_option maxHeartbeats 1000000 in
theorem d_number (w : World) (B g len cap : Nat) (A : Option Addr) (hc : Cur w B g A len cap) :
    Calls Tryz.prog 72 #[.pointer (some ⟨g, 0, none⟩)] w fun e w' => ∃ x : Int, -9223372036854775808 ≤ x ∧ x ≤ 9223372036854775807 ∧ e = .returned (.int .i64 x) ∧ Cur w' B g A len cap ∧ w.grownBy w' (some g) := by
  go_enter Tryz.func72, Tryz.ntmps72
  go_wp2_with fail
  refine (d_below _ _ B g len cap A hc (by omega)).mono ?_
  rintro e w1 ⟨x, x0, x1, x2, rfl, cur1, gr1⟩
  have x3 := x1 (by omega)
  clear x1 x2
  by_cases hx0 : x = 0
  · subst hx0
    go_wp2_with fail
    have hlt := cur1.lt
    refine (d_pickint _ B g len cap w1.heap.size 10 10 A 3 [-1, 0, 127, 128, 16383, 16384, 1000000000, 1000000001, 9223372036854775807, -9223372036854775808] (cur1.alloc _) rfl (by omega) (by omega) (by omega) (by intro x hx; simp at hx; omega) (heap_alloc_new w1 _)).mono ?_
    rintro e w2 ⟨y, y0, y1, rfl, cur2, gr2⟩
    go_wp2
    go_ret
    exact ⟨y, y0, y1, rfl, cur2, grown_trans gr1 (grown_trans (World.grownBy_alloc w1 _ _) gr2)⟩
  · by_cases hx1 : x = 1
    · subst hx1
      go_wp2_with fail
      refine (d_below _ _ B g len cap A cur1 (by omega)).mono ?_
      rintro e w2 ⟨y, y0, y1, y2, rfl, cur2, gr2⟩
      have y3 := y1 (by omega)
      clear y1 y2
      go_wp2
      go_ret
      exact ⟨y, by omega, by omega, rfl, cur2, grown_trans gr1 gr2⟩
    · have e0 : (x == 0) = false := by simpa using hx0
      have e1 : (x == 1) = false := by simpa using hx1
      go_wp2_with fail
      refine (d_below _ _ B g len cap A cur1 (by omega)).mono ?_
      rintro e w2 ⟨y, y0, y1, y2, rfl, cur2, gr2⟩
      have y3 := y1 (by omega)
      clear y1 y2
      go_wp2
      go_ret
      exact ⟨y, by omega, by omega, rfl, cur2, grown_trans gr1 gr2⟩

theorem below_cur {w w1 w2 : World} {B g : Nat} (h : Below B w w1) (hB : B ≤ w.heap.size) (hg : w1.grownBy w2 (some g)) (hb : B ≤ g) : Below B w w2 :=
  h.grown hg (Nat.le_trans hB h.size) (fun k e => by injection e with e; omega)

end Go.Proofs.YtonoknbangnleaaGreat

/- The drawing of floats and vectors: l01Odd, l01Real, l02Vector, DrawVectorOk, DrawUnit. -/
namespace Go.Proofs.YtonoknbangnleaaGreat
open Go.RowKit Ieee

theorem neg_lt {x : Nat} (h : x < 18446744073709551616) : Op.negFloat .f64 x < 18446744073709551616 := by
  show x ^^^ 2 ^ 63 < 2 ^ 64
  exact Nat.xor_lt_two_pow h (by decide)
theorem quo_zero : floatBits .quo .f64 0 0 = none := by kernel_rfl
theorem quo_one : floatBits .quo .f64 4607182418800017408 0 = some 9218868437227405312 := by kernel_rfl
theorem quo_mone : floatBits .quo .f64 13830554455654793216 0 = some 18442240474082181120 := by kernel_rfl
theorem ofInt_zero : floatOfInt .f64 0 = 0 := by kernel_rfl
/-- A whole number by 8 or by 1000, as a float. -/
theorem quo_ex (n : Int) (y : Nat) (h : y = 4620693217682128896 ∨ y = 4652007308841189376) : ∃ r, floatBits .quo .f64 (floatOfInt .f64 n) y = some r ∧ r < 18446744073709551616 := by
  have key : ∀ {s m i}, FloatKind.f64.format.read y = .number s m i → m ≠ 0 → ∃ r, floatBits .quo .f64 (floatOfInt .f64 n) y = some r ∧ r < 18446744073709551616 := fun h0 hm => by
    obtain ⟨r, hr⟩ := fl_div_some FloatKind.f64.format (floatOfInt .f64 n) y (fl_nearest_nan _ _ _ _) h0 hm
    exact ⟨r, hr, FloatKind.f64.format.div_lt hr⟩
  rcases h with rfl | rfl
  · exact key (s := false) (m := 4503599627370496) (i := -49) (by kernel_rfl) (by omega)
  · exact key (s := false) (m := 8796093022208000) (i := -43) (by kernel_rfl) (by omega)

set_option maxRecDepth 100000 in
set_option maxHeartbeats 1000000 in
theorem d_odd (w : World) (B g len cap : Nat) (A : Option Addr) (hc : Cur w B g A len cap) :
    Calls Tryz.prog 94 #[.pointer (some ⟨g, 0, none⟩)] w fun e w' => ∃ x : Nat, x < 18446744073709551616 ∧ e = .returned (.float .f64 x) ∧ Cur w' B g A len cap ∧ w.grownBy w' (some g) := by
  obtain ⟨nb, hq, hn⟩ := run_nan .quo (by simp) 0 0 quo_zero
  have hnb := fun w => (hn w).1
  have q1 := fun w => run_float_arith (P := Tryz.prog) w .quo 42 .f64 _ _ _ quo_one
  have q2 := fun w => run_float_arith (P := Tryz.prog) w .quo 42 .f64 _ _ _ quo_mone
  have hng : ∀ w, (Op.unary .neg (.float .f64 0)).run Tryz.prog w = .ok (.float .f64 9223372036854775808) w := fun w => rfl
  have hz := ofInt_zero
  clear hn
  go_enter Tryz.func94, Tryz.ntmps94
  go_wp2_with fail
  refine (d_below _ _ _ g len cap A hc (by omega)).mono ?_
  rintro e w1 ⟨x, x0, x1, x2, rfl, cur1, gr1⟩
  have x3 := x1 (by omega)
  clear x1 x2
  go_wp2_with fail
  refine (d_below _ _ _ g len cap A cur1 (by omega)).mono ?_
  rintro e w2 ⟨y, y0, y1, y2, rfl, cur2, gr2⟩
  have y3 := y1 (by omega)
  clear y1 y2
  have hgr := grown_trans gr1 gr2
  have hcase : y = 0 ∨ y = 1 ∨ y = 2 ∨ y = 3 ∨ y = 4 ∨ y = 5 ∨ y = 6 ∨ y = 7 := by omega
  rcases hcase with rfl | rfl | rfl | rfl | rfl | rfl | rfl | rfl
  · go_wp2
    go_ret
    have hd : w2.grownBy w2.drew (some g) := ⟨rfl, rfl, rfl, Nat.le_refl _, fun _ _ _ => rfl⟩
    have hd0 : w2.grownBy w2.drew none := ⟨rfl, rfl, rfl, Nat.le_refl _, fun _ _ _ => rfl⟩
    exact ⟨nb w2, hnb w2, rfl, cur2.grown_far hd0 (by simp) (fun _ h => by cases h), grown_trans hgr hd⟩
  all_goals
    go_wp2
    go_ret
    exact ⟨_, by omega, rfl, cur2, hgr⟩
set_option maxRecDepth 100000 in
set_option maxHeartbeats 1000000 in
theorem d_real (n : Int) (w : World) (B g len cap : Nat) (A : Option Addr) (hc : Cur w B g A len cap) (n0 : 0 ≤ n) (n1 : n ≤ 1000000000) :
    Calls Tryz.prog 93 #[.pointer (some ⟨g, 0, none⟩), .int .i64 n] w fun e w' => ∃ x : Nat, x < 18446744073709551616 ∧ e = .returned (.float .f64 x) ∧ Cur w' B g A len cap ∧ w.grownBy w' (some g) := by
  go_enter Tryz.func93, Tryz.ntmps93
  go_wp2_with fail
  refine (d_once _ _ _ g len cap A hc (by omega)).mono ?_
  rintro e w1 ⟨t, rfl, cur1, gr1⟩
  cases t
  · go_wp2_with fail
    refine (d_below _ _ _ g len cap A cur1 (by omega)).mono ?_
    rintro e w2 ⟨x, x0, x1, x2, rfl, cur2, gr2⟩
    have gr12 := grown_trans gr1 gr2
    clear x1 x2
    obtain ⟨r, hr, hrl⟩ := quo_ex x 4620693217682128896 (.inl rfl)
    have q1 := fun w => run_float_arith (P := Tryz.prog) w .quo 42 .f64 _ _ _ hr
    clear hr
    go_wp2_with fail
    refine (d_once _ _ _ g len cap A cur2 (by omega)).mono ?_
    rintro e w3 ⟨t, rfl, cur3, gr3⟩
    have gr13 := grown_trans gr12 gr3
    cases t
    · go_wp2_with fail
      refine (d_once _ _ _ g len cap A cur3 (by omega)).mono ?_
      rintro e w4 ⟨t, rfl, cur4, gr4⟩
      have gr14 := grown_trans gr13 gr4
      have hng : ∀ w, (Op.unary .neg (.float .f64 r)).run Tryz.prog w = .ok (.float .f64 (Op.negFloat .f64 r)) w := fun w => rfl
      have hnl := neg_lt hrl
      generalize Op.negFloat .f64 r = r' at *
      cases t
      · go_wp2
        go_ret
        exact ⟨_, hrl, rfl, cur4, gr14⟩
      · go_wp2
        go_ret
        exact ⟨_, hnl, rfl, cur4, gr14⟩
    · go_wp2_with fail
      refine (d_below _ _ _ g len cap A cur3 (by omega)).mono ?_
      rintro e w4 ⟨y, y0, y1, y2, rfl, cur4, gr4⟩
      have gr14 := grown_trans gr13 gr4
      clear y1 y2
      obtain ⟨r2, hr2, hrl2⟩ := quo_ex y 4652007308841189376 (.inr rfl)
      have q2 := fun w => run_float_arith (P := Tryz.prog) w .quo 42 .f64 _ _ _ hr2
      clear hr2
      go_wp2_with fail
      refine (d_once _ _ _ g len cap A cur4 (by omega)).mono ?_
      rintro e w5 ⟨t, rfl, cur5, gr5⟩
      have gr15 := grown_trans gr14 gr5
      have hng : ∀ w, (Op.unary .neg (.float .f64 r2)).run Tryz.prog w = .ok (.float .f64 (Op.negFloat .f64 r2)) w := fun w => rfl
      have hnl := neg_lt hrl2
      generalize Op.negFloat .f64 r2 = r' at *
      cases t
      · go_wp2
        go_ret
        exact ⟨_, hrl2, rfl, cur5, gr15⟩
      · go_wp2
        go_ret
        exact ⟨_, hnl, rfl, cur5, gr15⟩
  · go_wp2_with fail
    refine (d_odd _ _ g len cap A cur1).mono ?_
    rintro e w2 ⟨x, xl, rfl, cur2, gr2⟩
    go_wp2
    go_ret
    exact ⟨x, xl, rfl, cur2, grown_trans gr1 gr2⟩
set_option maxRecDepth 100000 in
set_option maxHeartbeats 1000000 in
theorem d_vector (n : Int) (w : World) (B g len cap : Nat) (A : Option Addr) (hc : Cur w B g A len cap) (n0 : 0 ≤ n) (n1 : n ≤ 1000000000) :
    Calls Tryz.prog 74 #[.pointer (some ⟨g, 0, none⟩), .int .i64 n] w fun e w' => ∃ x y : Nat, x < 18446744073709551616 ∧ y < 18446744073709551616 ∧ e = .returned (.complex .f64 x y) ∧ Cur w' B g A len cap ∧ w.grownBy w' (some g) := by
  go_enter Tryz.func74, Tryz.ntmps74
  go_wp2_with fail
  refine (d_real n _ _ g len cap A hc n0 n1).mono ?_
  rintro e w1 ⟨x, xl, rfl, cur1, gr1⟩
  go_wp2_with fail
  refine (d_real n _ _ g len cap A cur1 n0 n1).mono ?_
  rintro e w2 ⟨y, yl, rfl, cur2, gr2⟩
  go_wp2
  go_ret
  exact ⟨x, y, xl, yl, rfl, cur2, grown_trans gr1 gr2⟩
end Go.Proofs.YtonoknbangnleaaGreat

/- The drawing of degrees: l02Degrees, DrawBetween, DrawAside, DrawTurn; the walk of the law FnBetweenAside. -/
namespace Go.Proofs.YtonoknbangnleaaGreat
open Go.RowKit

theorem tdiv_two (x : Int) (x0 : -9223372036854775808 ≤ x) (x1 : x ≤ 9223372036854775807) : -4611686018427387904 ≤ x.tdiv 2 ∧ x.tdiv 2 ≤ 4611686018427387903 := by
  rcases Int.le_total 0 x with h | h
  · rw [Int.tdiv_eq_ediv_of_nonneg h]; omega
  · obtain ⟨m, rfl⟩ : ∃ m, x = -m := ⟨-x, by omega⟩
    rw [Int.neg_tdiv, Int.tdiv_eq_ediv_of_nonneg (by omega)]; omega


end Go.Proofs.YtonoknbangnleaaGreat
