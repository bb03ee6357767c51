/- The drawing of chapter 1: l01New, l01Below, l01Once, l01PickInt, l01Number. -/
import Derived.Test.YtibkhmdnfloemaaDr0
namespace Go.Proofs.Ytibkhmdnfloemaa
open Go.RowKit

/-- What the walk of a law is told of a slice of numbers that came in: nil, or a row of cells with numbers of its kind. -/
def IsRow (k : IntKind) (w : World) (a : Option Addr) (len cap : Nat) (zs : List Int) : Prop :=
  (a = none ∧ len = 0 ∧ cap = 0 ∧ zs = []) ∨
  ∃ x, a = some x ∧ len ≤ cap ∧ cap ≤ maxLen ∧ zs.length = cap ∧ (∀ i, i < zs.length → w.cell? (x.add i) = some (.int k (zs.getD i 0))) ∧ ∀ n ∈ zs, (Lit.int k n).wf = true
theorem u8_wf {n : Int} (h : (Lit.int .u8 n).wf = true) : 0 ≤ n ∧ n < 256 := by
  simp [Lit.wf, IntKind.min, IntKind.max, IntKind.signed, IntKind.bits] at h
  omega
theorem code_of_row {w : World} {a : Option Addr} {len cap : Nat} {zs : List Int} (h : IsRow .u8 w a len cap zs) (hl : len ≤ 1048576) : Code w w.heap.size a len := by
  refine ⟨hl, fun hn => ?_⟩
  rcases h with ⟨_, h0, _⟩ | ⟨x, rfl, hlc, _, hz, hc, hw⟩
  · exact absurd h0 hn
  · obtain ⟨b, off, spot⟩ := x
    have hc0 := hc 0 (by omega)
    have hs : spot = none := by simpa [Addr.add] using World.cell?_spot hc0
    subst hs
    have hadd : ∀ j, (⟨b, off, none⟩ : Addr).add j = ⟨b, off + j, none⟩ := fun j => by unfold Addr.add; split <;> simp_all
    refine ⟨b, off, rfl, ?_, fun j hj => ?_⟩
    · rw [hadd] at hc0
      exact World.block_lt_of_cell? w _ hc0
    · have h1 := hc j (by omega)
      rw [hadd] at h1
      have h2 : zs.getD j 0 ∈ zs := by
        rw [List.getD, List.getElem?_eq_getElem (show j < zs.length by omega)]; exact List.getElem_mem _
      have h3 := hw _ h2
      exact ⟨_, (u8_wf h3).1, (u8_wf h3).2, h1⟩

theorem and30 (a : Int) : 0 ≤ bits .and .i64 a 1073741823 ∧ bits .and .i64 a 1073741823 < 1073741824 := by
  have e : (BitVec.ofInt 64 a &&& BitVec.ofInt 64 1073741823).toNat = (BitVec.ofInt 64 a).toNat % 1073741824 := by
    rw [BitVec.toNat_and, show (BitVec.ofInt 64 1073741823).toNat = 2 ^ 30 - 1 from rfl, Nat.and_two_pow_sub_one_eq_mod]
  have e2 : bits .and .i64 a 1073741823 = IntKind.i64.wrap (((BitVec.ofInt 64 a &&& BitVec.ofInt 64 1073741823).toNat : Nat) : Int) := rfl
  rw [e2, e, IntWalk.i64_in _ (by omega)]
  omega

theorem cur_new {w : World} {B : Nat} {A : Option Addr} {len cap : Nat} {h : Int} (hB : B ≤ w.heap.size) (hc : Code w B A len) (h0 : 0 ≤ h) (h1 : h < 1073741824) :
    Cur (w.alloc (.cells #[.slice A len cap, .int .i64 0, .int .i64 h] 58)) B w.heap.size A len cap :=
  ⟨hB, ⟨hc.1, fun hn => by
    obtain ⟨b, off, e, hb, hcell⟩ := hc.2 hn
    refine ⟨b, off, e, hb, fun j hj => ?_⟩
    obtain ⟨c, c0, c1, hx⟩ := hcell j hj
    exact ⟨c, c0, c1, (World.cell?_alloc_lt w _ _ (Nat.lt_of_lt_of_le hb hB)).trans hx⟩⟩, 0, h, by omega, by omega, by omega, by omega, heap_alloc_new w _⟩

set_option maxRecDepth 100000 in
set_option maxHeartbeats 1000000 in
theorem d_new (w : World) (B len cap : Nat) (A : Option Addr) (hB : B ≤ w.heap.size) (hcode : Code w B A len) :
    Calls Try.prog 11 #[.slice A len cap] w fun e w' => ∃ g, e = .returned (.pointer (some ⟨g, 0, none⟩)) ∧ Cur w' B g A len cap ∧ Below B w w' := by
  have hlen := hcode.1
  go_enter Try.func11, Try.ntmps11
  go_wp2
  go_loop [3, 4] (fun h i => ∃ (k : Nat) (hv : Int), k ≤ len ∧ i = .int .i64 k ∧ h = .int .i64 hv ∧ 0 ≤ hv ∧ hv < 1073741824) (fun _ i => len - (intOf i).toNat)
  case atStart => exact ⟨0, 33211 + (len : Int), Nat.zero_le _, rfl, rfl, by omega, by omega⟩
  case round =>
    obtain ⟨k, hv, hk, rfl, rfl, hv0, hv1⟩ := hrel
    by_cases hlt : k < len
    · by_cases h4 : k < 4000
      · obtain ⟨b, off, rfl, hbB, hcells⟩ := hcode.2 (by omega)
        obtain ⟨c, cc0, cc1, hcell⟩ := hcells k hlt
        clear hcells
        go_wp2
        go_round
        case rel => exact ⟨k + 1, _, by omega, by go_num, rfl, (and30 _).1, (and30 _).2⟩
        case measure => simp [intOf]; omega
      · go_wp2
        go_ret
        exact ⟨_, rfl, cur_new hB hcode hv0 hv1, (Below.refl _ _).alloc hB _⟩
    · go_wp2
      go_ret
      exact ⟨_, rfl, cur_new hB hcode hv0 hv1, (Below.refl _ _).alloc hB _⟩

set_option maxRecDepth 100000 in
set_option maxHeartbeats 1000000 in
theorem d_below (n : Int) (w : World) (B g len cap : Nat) (A : Option Addr) (hc : Cur w B g A len cap) (hn : n ≤ 9223372036854775807) :
    Calls Try.prog 29 #[.pointer (some ⟨g, 0, none⟩), .int .i64 n] w fun e w' => ∃ x : Int, 0 ≤ x ∧ (0 < n → x < n) ∧ (n ≤ 0 → x = 0) ∧ e = .returned (.int .i64 x) ∧ Cur w' B g A len cap ∧ w.grownBy w' (some g) := by
  by_cases h0 : n ≤ 0
  · have HC := Lib.hid hc
    clear hc
    go_enter Try.func29, Try.ntmps29
    go_wp2
    go_ret
    exact ⟨0, by omega, fun h => by omega, fun _ => rfl, rfl, HC.out, World.grownBy.refl _ _⟩
  · by_cases h1 : n ≤ 256
    · have hne : (n == 0) = false := by simp; omega
      go_enter Try.func29, Try.ntmps29
      go_wp2_with (go_at_call 43; ((with_reducible refine (d_byte _ B g len cap A hc).mono ?_); rintro e w1 ⟨x, x0, x1, rfl, cur1, gr1⟩))
      go_ret
      exact ⟨x % n, Int.emod_nonneg _ (by omega), fun _ => Int.emod_lt_of_pos _ (by omega), fun h => by omega, rfl, cur1, gr1⟩
    · have hne : (n == 0) = false := by simp; omega
      go_enter Try.func29, Try.ntmps29
      go_wp2_with fail
      refine (d_byte _ B g len cap A hc).mono ?_
      rintro e w1 ⟨x, x0, x1, rfl, cur1, gr1⟩
      go_wp2_with fail
      refine (d_byte _ B g len cap A cur1).mono ?_
      rintro e w2 ⟨y, y0, y1, rfl, cur2, gr2⟩
      go_wp2_with fail
      refine (d_byte _ B g len cap A cur2).mono ?_
      rintro e w3 ⟨z, z0, z1, rfl, cur3, gr3⟩
      go_wp2_with fail
      refine (d_byte _ B g len cap A cur3).mono ?_
      rintro e w4 ⟨u, u0, u1, rfl, cur4, gr4⟩
      go_wp2
      go_ret
      exact ⟨_, Int.emod_nonneg _ (by omega), fun _ => Int.emod_lt_of_pos _ (by omega), fun h => by omega, rfl, cur4, grown_trans (grown_trans (grown_trans gr1 gr2) gr3) gr4⟩

set_option maxHeartbeats 400000 in
theorem d_once (n : Int) (w : World) (B g len cap : Nat) (A : Option Addr) (hc : Cur w B g A len cap) (hn : n ≤ 9223372036854775807) :
    Calls Try.prog 31 #[.pointer (some ⟨g, 0, none⟩), .int .i64 n] w fun e w' => ∃ b : Bool, e = .returned (.bool b) ∧ Cur w' B g A len cap ∧ w.grownBy w' (some g) := by
  go_enter Try.func31, Try.ntmps31
  go_wp2_with (go_at_call 29; ((with_reducible refine (d_below _ _ B g len cap A hc hn).mono ?_); rintro e w1 ⟨x, x0, x1, x2, rfl, cur1, gr1⟩))
  go_ret
  exact ⟨_, rfl, cur1, gr1⟩

set_option maxHeartbeats 1000000 in
/-- A pick out of a slice of whole numbers in a block of its own. -/
theorem d_pickint (w : World) (B g len cap b n m : Nat) (A : Option Addr) (t : TypeId) (xs : List Int) (hc : Cur w B g A len cap) (hn : n = xs.length) (h0 : 0 < n) (h1 : n < 1000) (hbg : b ≠ g)
    (hx : ∀ x ∈ xs, -9223372036854775808 ≤ x ∧ x ≤ 9223372036854775807) (hb : w.heap[b]? = some (.cells (xs.map (Value.int .i64)).toArray t (0, 0))) :
    Calls Try.prog 33 #[.pointer (some ⟨g, 0, none⟩), .slice (some ⟨b, 0, none⟩) n m] w fun e w' => ∃ x : Int, -9223372036854775808 ≤ x ∧ x ≤ 9223372036854775807 ∧ e = .returned (.int .i64 x) ∧ Cur w' B g A len cap ∧ w.grownBy w' (some g) := by
  have HB := Lib.hid hb
  clear hb
  go_enter Try.func33, Try.ntmps33
  go_wp2_with fail
  refine (d_below _ _ B g len cap A hc (by omega)).mono ?_
  rintro e w1 ⟨x, x0, x1, x2, rfl, cur1, gr1⟩
  obtain ⟨k, rfl⟩ : ∃ k : Nat, x = k := ⟨x.toNat, by omega⟩
  have hk : k < n := by have := x1 (by omega); omega
  have hcell : w1.cell? ⟨b, k, none⟩ = some (.int .i64 (xs.getD k 0)) := by
    have hlt : b < w.heap.size := by
      rcases Nat.lt_or_ge b w.heap.size with h | h
      · exact h
      · have := HB.out; rw [Array.getElem?_eq_none h] at this; cases this
    rw [cell_of_row w1 b k _ _ _ ((gr1.block b hlt (by simpa using hbg)).trans HB.out)]
    simp [List.getD, List.getElem?_eq_getElem (show k < xs.length by omega)]
  have hmem : xs.getD k 0 ∈ xs := by
    rw [List.getD, List.getElem?_eq_getElem (show k < xs.length by omega)]; exact List.getElem_mem _
  obtain ⟨r0, r1⟩ := hx _ hmem
  generalize xs.getD k 0 = v at *
  clear x1 x2 hx hmem HB
  have k0 : (0 : Int) ≤ (k : Int) := by omega
  have k1 : (k : Int) < (n : Int) := by omega
  go_wp2
  go_ret
  exact ⟨v, r0, r1, rfl, cur1, gr1⟩
end Go.Proofs.Ytibkhmdnfloemaa
