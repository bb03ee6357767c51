/- The walks of the laws' helpers over slices of strings: markText, eqStringS, markStringS, heldStringS. -/
import Derived.Test.YtciebalkfeoabaaDoorNum1
import Derived.Laws.Rows
import Derived.Deep.QuietTactic
import Derived.BigQuiet
import Derived.Deep.RegionHeld3
import Derived.Deep.AppendLies
import Derived.Deep.DrawnRows
namespace Go.Proofs.YtciebalkfeoabaaDoor
open Go.RowKit

/-- The text of a mark. -/
def markL (k : Nat) : List UInt8 := if k = 0 then [109, 48] else 109 :: Lib.decDigits k
def markS (k : Nat) : ByteArray := ⟨(markL k).toArray⟩
theorem markS_zero : markS 0 = ⟨#[109, 48]⟩ := rfl
theorem mark_end {t : ByteArray} {N : Nat} (hN : N ≠ 0) (he : frontD 0 ++ t.data.toList = Lib.decDigits N) : Ending.returned (.string ((⟨#[109]⟩ : ByteArray) ++ t)) = .returned (.string (markS N)) := by
  have : (⟨#[109]⟩ : ByteArray) ++ t = markS N := str_ext (by rw [str_cat, frontD_zero he]; simp [markS, markL, hN])
  rw [this]
theorem markS_size (k : Nat) (hk : k ≤ 9223372036854775808) : (markS k).size ≤ 21 := by
  rw [str_size]
  have := dec_len k hk
  unfold markS markL
  split <;> simp <;> omega

set_option maxRecDepth 100000 in
set_option maxHeartbeats 1000000 in
theorem l_mark (k : Nat) (w : World) (hk : k ≤ 4611686018427387904) :
    Calls Tryd.prog 52 #[.int .i64 k] w fun e w' => e = .returned (.string (markS k)) ∧ Below w.heap.size w w' := by
  by_cases h0 : k = 0
  · subst h0
    rw [markS_zero]
    go_enter Tryd.func52, Tryd.ntmps52
    go_wp2
    go_ret
    exact ⟨rfl, Below.refl _ _⟩
  · have hlen := dec_len k (by omega)
    have hpos : 0 < (k : Int) := by omega
    go_enter Tryd.func52, Tryd.ntmps52
    go_wp2
    clear hpos
    go_loopw [0, 3] (fun q s wr => ∃ (u : Nat) (t : ByteArray), u ≤ k ∧ q = .int .i64 u ∧ s = .string t ∧ frontD u ++ t.data.toList = Lib.decDigits k ∧ Below w.heap.size w wr)
      (fun q _ _ => (intOf q).toNat)
    case atStart => exact ⟨k, ⟨#[]⟩, Nat.le_refl _, rfl, rfl, by rw [frontD_pos h0]; simp, Below.refl _ _⟩
    case round =>
      obtain ⟨u, t, huN, rfl, rfl, he, hbel⟩ := hrel
      have hts : t.size ≤ 20 := by
        have := congrArg List.length he
        rw [List.length_append] at this
        rw [str_size]; omega
      by_cases hu : u = 0
      · subst hu
        have HT := Lib.hid (mark_end h0 he)
        clear he
        go_wp2
        go_ret
        exact ⟨HT.out, hbel⟩
      · have hcv := fun x => conv_digit Tryd.underlying22 Tryd.underlying5 Tryd.underlying9 wr x
        have hs1 := fun x : Int => strOfNums_size [x]
        have HE := Lib.hid he
        have hu1 : (0 : Int) < (u : Int) := by omega
        have hb0 : (0 : Int) ≤ (u : Int) % 10 := by omega
        have hb1 : (u : Int) % 10 < 10 := by omega
        clear he
        go_wp2
        go_roundw
        case rel => exact ⟨u / 10, strOfNums [48 + (u : Int) % 10] ++ t, by omega, by go_num, rfl, fmt_step (by omega) hu HE.out, hbel.alloc hbel.size _⟩
        case measure => simp [intOf]; omega

theorem l_mark_at (k : Nat) (w : World) (b j : Nat) (t : ByteArray) (hk : k ≤ 4611686018427387904) (hc : w.cell? ⟨b, j, none⟩ = some (.string t)) :
    Calls Tryd.prog 52 #[.int .i64 k] w fun e w' => e = .returned (.string (markS k)) ∧ Below w.heap.size w w' ∧ w'.cell? ⟨b, j, none⟩ = some (.string t) :=
  (l_mark k w hk).mono fun _ _ ⟨a, bl⟩ => ⟨a, bl, (World.cell?_of_block (bl.block b (World.block_lt_of_cell? w _ hc))).trans hc⟩

/-- A slice whose cells hold these strings. -/
def StrRow (w : World) (A : Option Addr) (n : Nat) (xs : List ByteArray) : Prop :=
  xs.length = n ∧ (n ≠ 0 → ∃ b, A = some ⟨b, 0, none⟩ ∧ ∀ j, j < n → ∃ t, xs[j]? = some t ∧ w.cell? ⟨b, j, none⟩ = some (.string t))

theorem below_dn (w : World) (n : Nat) : Below w.heap.size w (w.drewN n) := ⟨rfl, rfl, rfl, Nat.le_refl _, fun _ _ => rfl⟩
theorem StrRow.below {w w' : World} {A : Option Addr} {n : Nat} {xs : List ByteArray} (h : StrRow w A n xs) (hb : Below w.heap.size w w') : StrRow w' A n xs :=
  ⟨h.1, fun hn => by
    obtain ⟨b, e, hc⟩ := h.2 hn
    refine ⟨b, e, fun j hj => ?_⟩
    obtain ⟨t, e1, e2⟩ := hc j hj
    exact ⟨t, e1, (World.cell?_of_block (hb.block b (World.block_lt_of_cell? w _ e2))).trans e2⟩⟩

set_option maxRecDepth 100000 in
set_option maxHeartbeats 1000000 in
theorem l_eqs (w : World) (n c1 c2 : Nat) (A B : Option Addr) (xs : List ByteArray) (ha : StrRow w A n xs) (hb : StrRow w B n xs) (hn : n ≤ 9223372036854775806) :
    Calls Tryd.prog 30 #[.slice A n c1, .slice B n c2] w fun e w' => e = .returned (.bool true) ∧ Below w.heap.size w w' := by
  go_enter Tryd.func30, Tryd.ntmps30
  go_wp2
  go_loopw [5] (fun i wr => ∃ k : Nat, k ≤ n ∧ i = .int .i64 k ∧ Below w.heap.size w wr) (fun i _ => n - (intOf i).toNat)
  case atStart => exact ⟨0, Nat.zero_le _, rfl, Below.refl _ _⟩
  case round =>
    obtain ⟨k, hk, rfl, hbel⟩ := hrel
    by_cases hlt : k < n
    · obtain ⟨b1, rfl, h1⟩ := (ha.below hbel).2 (by omega)
      obtain ⟨b2, rfl, h2⟩ := (hb.below hbel).2 (by omega)
      obtain ⟨t, e1, g1⟩ := h1 k hlt
      obtain ⟨t', e2, g2⟩ := h2 k hlt
      obtain rfl : t = t' := Option.some.inj (e1.symm.trans e2)
      have k0 : (0 : Int) ≤ (k : Int) := by omega
      have k1 : (k : Int) < (n : Int) := by omega
      clear h1 h2 e1 e2 ha hb
      have hq : (t.toList == t.toList) = true := by simp
      go_wp2
      go_quiet (fail)
      go_wp2
      go_roundw
      case rel => exact ⟨k + 1, by omega, by go_num, hbel.trans ((below_dn _ _).mono hbel.size)⟩
      case measure => simp [intOf]; omega
    · obtain rfl : k = n := by omega
      go_wp2
      go_ret
      exact ⟨rfl, hbel⟩

/-- A block that holds strings only. -/
def strCells (xs : List ByteArray) : Array Value := (xs.map Value.string).toArray
def StrBlock (w : World) (g : Nat) (xs : List ByteArray) : Prop := w.heap[g]? = some (.cells (strCells xs) 9 (0, 0))
theorem StrBlock.cell {w : World} {g : Nat} {xs : List ByteArray} (h : StrBlock w g xs) (j : Nat) (t : ByteArray) (hj : xs[j]? = some t) : w.cell? ⟨g, j, none⟩ = some (.string t) := by
  rw [cell_of_row w g j _ _ _ h]
  simp [strCells, hj]
theorem StrBlock.row {w : World} {g : Nat} {xs : List ByteArray} (h : StrBlock w g xs) : StrRow w (some ⟨g, 0, none⟩) xs.length xs :=
  ⟨rfl, fun _ => ⟨g, rfl, fun j hj => ⟨xs[j], List.getElem?_eq_getElem hj, h.cell j _ (List.getElem?_eq_getElem hj)⟩⟩⟩
theorem StrBlock.lt {w : World} {g : Nat} {xs : List ByteArray} (h : StrBlock w g xs) : g < w.heap.size := by
  rcases Nat.lt_or_ge g w.heap.size with h' | h'
  · exact h'
  · unfold StrBlock at h; rw [Array.getElem?_eq_none h'] at h; cases h
theorem StrBlock.frozen {w : World} {g : Nat} {xs : List ByteArray} (h : StrBlock w g xs) (j : Nat) : w.frozen? ⟨g, j, none⟩ = false := by
  unfold StrBlock at h; simp [World.frozen?, h]
theorem StrBlock.below {w w' : World} {g : Nat} {xs : List ByteArray} (h : StrBlock w g xs) (hb : Below w.heap.size w w') : StrBlock w' g xs := (hb.block g h.lt).trans h
theorem StrBlock.set {w : World} {g : Nat} {xs : List ByteArray} (h : StrBlock w g xs) (j : Nat) (t : ByteArray) : StrBlock (w.setCell ⟨g, j, none⟩ (.string t)) g (xs.set j t) := by
  unfold StrBlock at *
  simp [World.setCell, Array.getElem?_modify, h, strCells, List.map_set]

set_option maxRecDepth 100000 in
set_option maxHeartbeats 1000000 in
theorem l_held (w : World) (n c : Nat) (A : Option Addr) (xs : List ByteArray) (ha : StrRow w A n xs) (hn : n ≤ 1000000) (hx : ∀ j, j < n → xs[j]? = some (markS (1 + j))) :
    Calls Tryd.prog 32 #[.slice A n c, .int .i64 1] w fun e w' => e = .returned (.int .i64 (1 + n)) ∧ Below w.heap.size w w' := by
  go_enter Tryd.func32, Tryd.ntmps32
  go_wp2
  go_loopw [1, 5] (fun m i wr => ∃ k : Nat, k ≤ n ∧ m = .int .i64 (1 + k) ∧ i = .int .i64 k ∧ Below w.heap.size w wr) (fun _ i _ => n - (intOf i).toNat)
  case atStart => exact ⟨0, Nat.zero_le _, rfl, rfl, Below.refl _ _⟩
  case round =>
    obtain ⟨k, hk, rfl, rfl, hbel⟩ := hrel
    by_cases hlt : k < n
    · obtain ⟨b1, rfl, h1⟩ := (ha.below hbel).2 (by omega)
      obtain ⟨t, e1, g1⟩ := h1 k hlt
      obtain rfl : t = markS (1 + k) := Option.some.inj (e1.symm.trans (hx k hlt))
      have k0 : (0 : Int) ≤ (k : Int) := by omega
      have k1 : (k : Int) < (n : Int) := by omega
      clear h1 e1 ha hx
      have hm := fun w => l_mark_at (1 + k) w b1 k (markS (1 + k)) (by omega)
      rw [show (((1 + k : Nat) : Int)) = 1 + (k : Int) by omega] at hm
      have hq : ((markS (1 + k)).toList == (markS (1 + k)).toList) = true := by simp
      go_wp2_with fail
      go_region_held3 (fun w' => w'.cell? ⟨b1, k, none⟩ = some (.string (markS (1 + k)))) (go_keep)
        ((go_at_call 52; refine (hm _ ?_).mono ?_; (simp [*]); rintro e w2 ⟨rfl, b2, c2⟩))
      have hbel2 : Below w.heap.size w w2 := by first | exact hbel.trans (b2.mono hbel.size) | exact hbel.drew.trans (b2.mono hbel.size)
      clear b2 c2
      go_wp2
      go_roundw
      case rel => exact ⟨k + 1, by omega, by go_num, by go_num, hbel2⟩
      case measure => simp [intOf]; omega
    · obtain rfl : k = n := by omega
      go_wp2
      go_ret
      exact ⟨rfl, hbel⟩

set_option maxRecDepth 100000 in
set_option maxHeartbeats 1000000 in
theorem l_marks (w : World) (n c g B : Nat) (xs : List ByteArray) (hl : xs.length = n) (ha : StrBlock w g xs) (hB : B ≤ g) (hn : n ≤ 1000000) :
    Calls Tryd.prog 31 #[.slice (some ⟨g, 0, none⟩) n c, .int .i64 1] w fun e w' => e = .returned (.int .i64 (1 + n)) ∧ Below B w w' ∧ ∃ ys, ys.length = n ∧ StrBlock w' g ys ∧ ∀ j, j < n → ys[j]? = some (markS (1 + j)) := by
  have hlt0 := ha.lt
  go_enter Tryd.func31, Tryd.ntmps31
  go_wp2
  go_loopw [1, 5] (fun m i wr => ∃ (k : Nat) (ys : List ByteArray), k ≤ n ∧ m = .int .i64 (1 + k) ∧ i = .int .i64 k ∧ Below B w wr ∧ ys.length = n ∧ StrBlock wr g ys ∧ ∀ j, j < k → ys[j]? = some (markS (1 + j))) (fun _ i _ => n - (intOf i).toNat)
  case atStart => exact ⟨0, xs, Nat.zero_le _, rfl, rfl, Below.refl _ _, hl, ha, fun j hj => absurd hj (by omega)⟩
  case round =>
    obtain ⟨k, ys, hk, rfl, rfl, hbel, hyl, hblk, hy⟩ := hrel
    by_cases hlt : k < n
    · have k0 : (0 : Int) ≤ (k : Int) := by omega
      have k1 : (k : Int) < (n : Int) := by omega
      have hm := fun w => l_mark (1 + k) w (by omega)
      rw [show (((1 + k : Nat) : Int)) = 1 + (k : Int) by omega] at hm
      have HY := Lib.hid hy
      have HB := Lib.hid hblk
      clear hy hblk ha
      go_wp2_with fail
      refine (hm _).mono ?_
      rintro e w2 ⟨rfl, b2⟩
      have blk2 := HB.out.below b2
      have hc := blk2.cell k _ (List.getElem?_eq_getElem (by omega))
      have hf := blk2.frozen k
      have hst := blk2.set k (markS (1 + k))
      have HS := Lib.hid hst
      have H2 := Lib.hid blk2
      clear hst blk2
      go_wp2
      go_roundw
      case rel =>
        refine ⟨k + 1, ys.set k (markS (1 + k)), by omega, by go_num, by go_num, ?_, by simp [hyl], HS.out, fun j hj => ?_⟩
        · exact (hbel.trans (b2.mono (Nat.le_trans (Nat.le_of_lt (Nat.lt_of_le_of_lt hB hlt0)) hbel.size))).setCell (p := ⟨g, k, none⟩) hB _
        · by_cases e : j = k
          · subst e; rw [List.getElem?_set_self (by omega)]
          · rw [List.getElem?_set_ne (by omega)]; exact HY.out j (by omega)
      case measure => simp [intOf]; omega
    · obtain rfl : k = n := by omega
      have HY := Lib.hid hy
      have HB := Lib.hid hblk
      clear hy hblk
      go_wp2
      go_ret
      exact ⟨rfl, hbel, ys, hyl, HB.out, HY.out⟩
end Go.Proofs.YtciebalkfeoabaaDoor
