/- The drawing of chapter 1: what l01Byte answers and leaves. -/
import Derived.Test.YtibkhmdnfloemaaRows
import Derived.WalkKit
import Derived.WalkSpells
import Derived.WalkLawsBesides
import Derived.Lib.Hide
import Derived.Deep.QuietTactic
import Derived.BigQuiet
import Derived.Deep.RegionHeld3
import Derived.Deep.AppendLies
import Derived.Deep.DrawnRows
namespace Go.Proofs.Ytibkhmdnfloemaa
open Go.RowKit
attribute [local go_sem ↓] Go.wp_at_zero Go.wp_at_succ

/-- What is told of a slice of bytes that came in: nothing is read of it where it is empty; else its cells hold bytes. It lies below block B. -/
def Code (w : World) (B : Nat) (A : Option Addr) (len : Nat) : Prop :=
  len ≤ 1048576 ∧ (len ≠ 0 → ∃ b off, A = some ⟨b, off, none⟩ ∧ b < B ∧ ∀ j, j < len → ∃ c : Int, 0 ≤ c ∧ c < 256 ∧ w.cell? ⟨b, off + j, none⟩ = some (.int .u8 c))
/-- The cursor in block g: its slice of bytes, how many are read, its number. -/
def Cur (w : World) (B g : Nat) (A : Option Addr) (len cap : Nat) : Prop :=
  B ≤ g ∧ Code w B A len ∧ ∃ i h : Int, 0 ≤ i ∧ i ≤ len ∧ -9223372036854775808 ≤ h ∧ h ≤ 9223372036854775807 ∧ w.heap[g]? = some (.cells #[.slice A len cap, .int .i64 i, .int .i64 h] 58 (0, 0))

theorem and255 (a : Int) : 0 ≤ bits .and .i64 a 255 ∧ bits .and .i64 a 255 < 256 := by
  have e : (BitVec.ofInt 64 a &&& BitVec.ofInt 64 255).toNat = (BitVec.ofInt 64 a).toNat % 256 := by
    rw [BitVec.toNat_and, show (BitVec.ofInt 64 255).toNat = 2 ^ 8 - 1 from rfl, Nat.and_two_pow_sub_one_eq_mod]
  have e2 : bits .and .i64 a 255 = IntKind.i64.wrap (((BitVec.ofInt 64 a &&& BitVec.ofInt 64 255).toNat : Nat) : Int) := rfl
  rw [e2, e, IntWalk.i64_in _ (by omega)]
  omega

theorem wrap64_bd (n : Int) : -9223372036854775808 ≤ wrap64 n ∧ wrap64 n ≤ 9223372036854775807 := by unfold wrap64; omega
theorem blk_set {w : World} {g : Nat} {a b c : Value} {t : TypeId} (h : w.heap[g]? = some (.cells #[a, b, c] t (0, 0))) (i : Nat) (u : Value) :
    (w.setCell ⟨g, i, none⟩ u).heap[g]? = some (.cells (#[a, b, c].setIfInBounds i u) t (0, 0)) := by
  simp [World.setCell, Array.getElem?_modify, h]
theorem grown_set (w : World) (g i : Nat) (u : Value) : w.grownBy (w.setCell ⟨g, i, none⟩ u) (some g) :=
  ⟨rfl, rfl, rfl, by simp [World.setCell], fun k _ hk => Below.heap_setCell _ _ _ _ (fun e => hk (by rw [e]))⟩
theorem grown_trans {a b c : World} {r : Option Nat} (h : a.grownBy b r) (k : b.grownBy c r) : a.grownBy c r :=
  ⟨k.os.trans h.os, k.tape.trans h.tape, k.output.trans h.output, Nat.le_trans h.size k.size, fun j hj hr => (k.block j (Nat.lt_of_lt_of_le hj h.size) hr).trans (h.block j hj hr)⟩

theorem grown_drewN (w : World) (n : Nat) (r : Option Nat) : w.grownBy (w.drewN n) r := ⟨rfl, rfl, rfl, Nat.le_refl _, fun _ _ _ => rfl⟩
theorem Code.grown {w w' : World} {B g : Nat} {A : Option Addr} {len : Nat} (h : Code w B A len) (hg : w.grownBy w' (some g)) (hB : B ≤ g) : Code w' B A len :=
  ⟨h.1, fun hn => by
    obtain ⟨b, off, e, hb, hc⟩ := h.2 hn
    refine ⟨b, off, e, hb, fun j hj => ?_⟩
    obtain ⟨c, c0, c1, hcell⟩ := hc j hj
    exact ⟨c, c0, c1, (World.cell?_of_block (hg.block b (World.block_lt_of_cell? w _ hcell) (by simp; omega))).trans hcell⟩⟩

set_option maxRecDepth 100000 in
set_option maxHeartbeats 1000000 in
theorem d_byte (w : World) (B g len cap : Nat) (A : Option Addr) (hc : Cur w B g A len cap) :
    Calls Try.prog 43 #[.pointer (some ⟨g, 0, none⟩)] w fun e w' => ∃ x : Int, 0 ≤ x ∧ x < 256 ∧ e = .returned (.int .i64 x) ∧ Cur w' B g A len cap ∧ w.grownBy w' (some g) := by
  obtain ⟨hB, hcode, i, h, hi0, hi1, hh0, hh1, hblk⟩ := hc
  have c0 : w.cell? ⟨g, 0, none⟩ = some (.slice A len cap) := cell_of_row w g 0 _ _ _ hblk
  have c1 : w.cell? ⟨g, 1, none⟩ = some (.int .i64 i) := cell_of_row w g 1 _ _ _ hblk
  have c2 : w.cell? ⟨g, 2, none⟩ = some (.int .i64 h) := cell_of_row w g 2 _ _ _ hblk
  have f1 : w.frozen? ⟨g, 1, none⟩ = false := by simp [World.frozen?, hblk]
  have f2 : w.frozen? ⟨g, 2, none⟩ = false := by simp [World.frozen?, hblk]
  have HB := Lib.hid hblk
  clear hblk
  go_enter Try.func43, Try.ntmps43
  go_wp2
  generalize hq : wrap64 (wrap64 (h * 6364136223846793005) + 1442695040888963407) = h2
  have hh2 : -9223372036854775808 ≤ h2 ∧ h2 ≤ 9223372036854775807 := by rw [← hq]; exact wrap64_bd _
  clear hq
  have blk1 : (w.setCell ⟨g, 2, none⟩ (.int .i64 h2)).heap[g]? = some (.cells #[.slice A len cap, .int .i64 i, .int .i64 h2] 58 (0, 0)) := blk_set HB.out 2 _
  have gr1 : w.grownBy (w.setCell ⟨g, 2, none⟩ (.int .i64 h2)) (some g) := grown_set w g 2 _
  generalize hw1 : w.setCell ⟨g, 2, none⟩ (.int .i64 h2) = w1 at *
  clear hw1 c0 c1 c2 f1 f2
  have c0 : w1.cell? ⟨g, 0, none⟩ = some (.slice A len cap) := cell_of_row w1 g 0 _ _ _ blk1
  have c1 : w1.cell? ⟨g, 1, none⟩ = some (.int .i64 i) := cell_of_row w1 g 1 _ _ _ blk1
  have c2 : w1.cell? ⟨g, 2, none⟩ = some (.int .i64 h2) := cell_of_row w1 g 2 _ _ _ blk1
  have f1 : w1.frozen? ⟨g, 1, none⟩ = false := by simp [World.frozen?, blk1]
  have B1 := Lib.hid blk1
  have G1 := Lib.hid gr1
  clear blk1 gr1
  by_cases hlt : i < (len : Int)
  · obtain ⟨k, rfl⟩ : ∃ k : Nat, i = k := ⟨i.toNat, by omega⟩
    obtain ⟨b, off, rfl, hbB, hcells⟩ := hcode.2 (by omega)
    obtain ⟨c, cc0, cc1, hcell⟩ := hcells k (by omega)
    have hcb : w1.cell? ⟨b, off + k, none⟩ = some (.int .u8 c) := (World.cell?_of_block (G1.out.block b (World.block_lt_of_cell? w _ hcell) (by simp; omega))).trans hcell
    have hlen := hcode.1
    clear hcell hcells
    go_quiet (fail)
    obtain ⟨x0, x1⟩ := and255 (bits BinOp.xor IntKind.i64 (h2 / 8589934592) (h2 / 35184372088832))
    generalize hx : bits .and .i64 (bits .xor .i64 (h2 / 8589934592) (h2 / 35184372088832)) 255 = x at *
    clear hx
    go_wp2
    go_quiet (fail)
    go_wp2
    go_quiet (fail)
    obtain ⟨y0, y1⟩ := and255 (x + c)
    generalize hy : bits .and .i64 (x + c) 255 = y at *
    clear hy
    go_wp2
    go_ret
    have gr : ∀ n, w1.grownBy ((w1.drewN n).setCell ⟨g, 1, none⟩ (.int .i64 ((k : Int) + 1))) (some g) := fun n => grown_trans (grown_drewN w1 n _) (grown_set _ g 1 _)
    refine ⟨y, y0, y1, rfl, ⟨hB, hcode.grown (grown_trans G1.out (gr _)) hB, (k : Int) + 1, h2, by omega, by omega, hh2.1, hh2.2, blk_set (w := w1.drewN _) B1.out 1 _⟩, grown_trans G1.out (gr _)⟩
  · go_quiet (fail)
    obtain ⟨x0, x1⟩ := and255 (bits BinOp.xor IntKind.i64 (h2 / 8589934592) (h2 / 35184372088832))
    generalize hx : bits .and .i64 (bits .xor .i64 (h2 / 8589934592) (h2 / 35184372088832)) 255 = x at *
    clear hx
    go_wp2
    go_quiet (fail)
    go_wp2
    go_ret
    have gr : ∀ n1 n2, w1.grownBy ((w1.drewN n1).drewN n2) (some g) := fun n1 n2 => grown_trans (grown_drewN w1 _ _) (grown_drewN _ _ _)
    exact ⟨x, x0, x1, rfl, ⟨hB, hcode.grown (grown_trans G1.out (gr _ _)) hB, i, h2, hi0, hi1, hh2.1, hh2.2, B1.out⟩, grown_trans G1.out (gr _ _)⟩
end Go.Proofs.Ytibkhmdnfloemaa
