/- The drawing of lines: l01Pick, DrawSplitFields. -/
import Derived.Test.YtbjaedmifacgaaaDoorDrT
import Derived.Test.YtbjaedmifacgaaaDoorStr
namespace Go.Proofs.YtbjaedmifacgaaaDoor
open Go.RowKit

set_option maxHeartbeats 1000000 in
/-- A pick out of a slice of strings in a block of its own. -/
theorem d_pick (w : World) (B g len cap b n m : Nat) (A : Option Addr) (xs : List ByteArray) (hc : Cur w B g A len cap) (hn : n = xs.length) (h0 : 0 < n) (h1 : n < 1000) (hbg : b ≠ g)
    (hx : ∀ x ∈ xs, x.size ≤ 2) (hb : StrBlock w b xs) :
    Calls Tryd.prog 14 #[.pointer (some ⟨g, 0, none⟩), .slice (some ⟨b, 0, none⟩) n m] w fun e w' => ∃ x : ByteArray, x.size ≤ 2 ∧ e = .returned (.string x) ∧ Cur w' B g A len cap ∧ w.grownBy w' (some g) := by
  have HB := Lib.hid hb
  have hlt := hb.lt
  clear hb
  go_enter Tryd.func14, Tryd.ntmps14
  go_wp2_with fail
  refine (d_below _ _ B g len cap A hc (by omega)).mono ?_
  rintro e w1 ⟨x, x0, x1, x2, rfl, cur1, gr1⟩
  obtain ⟨k, rfl⟩ : ∃ k : Nat, x = k := ⟨x.toNat, by omega⟩
  have hk : k < n := by have := x1 (by omega); omega
  have hb1 : StrBlock w1 b xs := (gr1.block b hlt (by simpa using hbg)).trans HB.out
  have hcell := hb1.cell k xs[k] (List.getElem?_eq_getElem (by omega))
  have hr := hx xs[k] (List.getElem_mem _)
  generalize xs[k] = v at *
  have H1 := Lib.hid hb1
  clear x1 x2 hx HB hb1
  have k0 : (0 : Int) ≤ (k : Int) := by omega
  have k1 : (k : Int) < (n : Int) := by omega
  go_wp2
  go_ret
  exact ⟨v, hr, rfl, cur1, gr1⟩

end Go.Proofs.YtbjaedmifacgaaaDoor
