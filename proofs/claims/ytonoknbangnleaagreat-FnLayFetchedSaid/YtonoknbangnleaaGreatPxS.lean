/- The laws' own measure of a polar's size: szFloat32S, szIntS, szFloat32SS, szPolar. -/
import Derived.Test.YtonoknbangnleaaGreatPZ
namespace Go.Proofs.YtonoknbangnleaaGreat
open Go.RowKit Ieee
set_option linter.unusedSimpArgs false
set_option linter.unusedVariables false

/-- A polar that came in, of whatever size. -/
def RawF (w : World) (A : Option Addr) (n : Nat) (f : Nat → Nat) : Prop := Row w A n (fun j => fv (f j)) ∧ n ≤ 9223372036854775807 ∧ ∀ j, j < n → f j < 4294967296
def RawI (w : World) (A : Option Addr) (n : Nat) (f : Nat → Int) : Prop := Row w A n (fun j => iv (f j)) ∧ n ≤ 9223372036854775807 ∧ ∀ j, j < n → -9223372036854775808 ≤ f j ∧ f j ≤ 9223372036854775807
def RawIn (w : World) (P : Pol) : Prop :=
  RawF w P.W P.nw P.ws ∧ RawI w P.A P.na P.av ∧ (Row w P.S P.ns (fun i => .slice (P.R i) (P.rn i) (P.rc i)) ∧ P.ns ≤ 9223372036854775807) ∧ ∀ i, i < P.ns → RawF w (P.R i) (P.rn i) (P.sp i)
theorem RawF.keeps {w w' : World} {A : Option Addr} {n : Nat} {f : Nat → Nat} (h : RawF w A n f) (k : Keeps w w') : RawF w' A n f := ⟨h.1.keeps k, h.2⟩
theorem RawI.keeps {w w' : World} {A : Option Addr} {n : Nat} {f : Nat → Int} (h : RawI w A n f) (k : Keeps w w') : RawI w' A n f := ⟨h.1.keeps k, h.2⟩
theorem RawIn.keeps {w w' : World} {P : Pol} (h : RawIn w P) (k : Keeps w w') : RawIn w' P :=
  ⟨h.1.keeps k, h.2.1.keeps k, ⟨h.2.2.1.1.keeps k, h.2.2.1.2⟩, fun i hi => (h.2.2.2 i hi).keeps k⟩
def Small (P : Pol) : Prop := P.nw ≤ 1048576 ∧ P.na ≤ 1048576 ∧ P.ns ≤ 1048576 ∧ ∀ i, i < P.ns → P.rn i ≤ 1048576
theorem RawIn.small {w : World} {P : Pol} (h : RawIn w P) (s : Small P) : PolIn w P :=
  ⟨⟨h.1.1, s.1, h.1.2.2⟩, ⟨h.2.1.1, s.2.1, h.2.1.2.2⟩, ⟨h.2.2.1.1, s.2.2.1⟩, fun i hi => ⟨(h.2.2.2 i hi).1, s.2.2.2 i hi, (h.2.2.2 i hi).2.2⟩⟩

/-- What is left of a measure: less than nothing, or all of it is small. -/
def Left (p : Prop) (w : World) (e : Ending) (w' : World) : Prop := ∃ r : Int, (r = -1 ∨ (0 ≤ r ∧ r ≤ 1048576 ∧ p)) ∧ e = .returned (.int .i64 r) ∧ Below w.heap.size w w'
theorem Left.no {p : Prop} {w : World} {e : Ending} {w' : World} (he : e = .returned (.int .i64 (-1))) (b : Below w.heap.size w w') : Left p w e w' := ⟨-1, .inl rfl, he, b⟩
theorem Left.yes {p : Prop} {w : World} {e : Ending} {w' : World} (r : Int) (h0 : 0 ≤ r) (h1 : r ≤ 1048576) (hp : p) (he : e = .returned (.int .i64 r)) (b : Below w.heap.size w w') : Left p w e w' := ⟨r, .inr ⟨h0, h1, hp⟩, he, b⟩
end Go.Proofs.YtonoknbangnleaaGreat
