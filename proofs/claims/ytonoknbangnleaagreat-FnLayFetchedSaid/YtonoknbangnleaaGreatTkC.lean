/- The drawing of winds and polars: l08Wind, DrawTackHeadings. -/
import Derived.Test.YtonoknbangnleaaGreatXZ
import Derived.Test.YtonoknbangnleaaGreatDrW
namespace Go.Proofs.YtonoknbangnleaaGreat
open Go.RowKit Ieee
set_option linter.unusedSimpArgs false
set_option linter.unusedVariables false

/-- What stands while a law looks at its polar in block gp. -/
def LySt (w : World) (P : Pol) (gp : Nat) (wr : World) : Prop :=
  Below w.heap.size w wr ∧ wr.heap[gp]? = some (.cells #[.slice P.W P.nw P.cw, .slice P.A P.na P.ca, .slice P.S P.ns P.cs] 28 (0, 0)) ∧ PolIn wr P ∧ w.heap.size ≤ gp
theorem LySt.new {w w1 : World} {P : Pol} (h : PolIn w1 P) (b : Below w.heap.size w w1) : LySt w P w1.heap.size (w1.alloc (.cells #[.slice P.W P.nw P.cw, .slice P.A P.na P.ca, .slice P.S P.ns P.cs] 28)) :=
  ⟨b.alloc b.size _, heap_alloc_new _ _, h.keeps (keeps_alloc _ _), b.size⟩
theorem LySt.step {w w1 w2 : World} {P : Pol} {gp : Nat} (h : LySt w P gp w1) (b : Below w1.heap.size w1 w2) : LySt w P gp w2 :=
  ⟨h.1.trans (b.mono h.1.size), (b.block gp (block_lt h.2.1)).trans h.2.1, h.2.2.1.keeps (Below.keeps b), h.2.2.2⟩
theorem LySt.drawn {w w1 w2 : World} {P : Pol} {gp : Nat} (h : LySt w P gp w1) (d : Drawn w1 w2) : LySt w P gp w2 := by
  obtain ⟨n, rfl⟩ := d
  exact h.step (drewN_below _ _)
theorem LySt.d0 {w w' : World} {P : Pol} {gp : Nat} (h : LySt w P gp w') : w'.cell? ⟨gp, 0, none⟩ = some (.slice P.W P.nw P.cw) := cell_of_row w' _ 0 _ _ _ h.2.1
theorem LySt.d1 {w w' : World} {P : Pol} {gp : Nat} (h : LySt w P gp w') : w'.cell? ⟨gp, 1, none⟩ = some (.slice P.A P.na P.ca) := cell_of_row w' _ 1 _ _ _ h.2.1
theorem LySt.d2 {w w' : World} {P : Pol} {gp : Nat} (h : LySt w P gp w') : w'.cell? ⟨gp, 2, none⟩ = some (.slice P.S P.ns P.cs) := cell_of_row w' _ 2 _ _ _ h.2.1
theorem LySt.below {w w' : World} {P : Pol} {gp : Nat} (h : LySt w P gp w') : Below w.heap.size w w' := h.1
theorem LySt.pol {w w' : World} {P : Pol} {gp : Nat} (h : LySt w P gp w') : PolIn w' P := h.2.2.1
set_option maxRecDepth 100000 in
set_option maxHeartbeats 1000000 in
theorem d_wind (w : World) (B g len cap : Nat) (A : Option Addr) (hc : Cur w B g A len cap) :
    Calls Tryz.prog 43 #[.pointer (some ⟨g, 0, none⟩)] w fun e w' => ∃ x y : Nat, x < 4294967296 ∧ y < 4294967296 ∧ e = .returned (.complex .f32 x y) ∧ Cur w' B g A len cap ∧ w.grownBy w' (some g) := by
  go_enter Tryz.func43, Tryz.ntmps43
  go_wp2_with fail
  refine (d_once 12 _ _ g len cap A hc (by omega)).mono ?_
  rintro e w1 ⟨t, rfl, cur1, gr1⟩
  cases t
  · go_wp2_with fail
    refine (d_below 129 _ _ g len cap A cur1 (by omega)).mono ?_
    rintro e w2 ⟨i, i0, i1, i2, rfl, cur2, gr2⟩
    have i3 := i1 (by omega)
    clear i1 i2
    obtain ⟨r, hr, hrl⟩ := quo_eight (i - 64)
    have q := fun w => run_float_arith (P := Tryz.prog) w .quo 35 .f32 _ _ _ hr
    clear hr
    go_wp2_with fail
    clear q
    refine (d_below 129 _ _ g len cap A cur2 (by omega)).mono ?_
    rintro e w3 ⟨i', j0, j1, j2, rfl, cur3, gr3⟩
    have j3 := j1 (by omega)
    clear j1 j2
    obtain ⟨r', hr', hrl'⟩ := quo_eight (i' - 64)
    have q' := fun w => run_float_arith (P := Tryz.prog) w .quo 35 .f32 _ _ _ hr'
    clear hr'
    go_wp2
    go_ret
    exact ⟨r, r', hrl, hrl', rfl, cur3, grown_trans (grown_trans gr1 gr2) gr3⟩
  · go_wp2_with fail
    refine (d_air _ _ g len cap A cur1).mono ?_
    rintro e w2 ⟨x, y, xl, yl, rfl, cur2, gr2⟩
    go_wp2
    go_ret
    exact ⟨x, y, xl, yl, rfl, cur2, grown_trans gr1 gr2⟩
end Go.Proofs.YtonoknbangnleaaGreat
