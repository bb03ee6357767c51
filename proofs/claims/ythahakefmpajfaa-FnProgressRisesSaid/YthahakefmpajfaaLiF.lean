/- Early at the gun (spec): EarlyAt. -/
import Derived.Test.YthahakefmpajfaaLiE
namespace Go.Proofs.Ythahakefmpajfaa
open Go.RowKit
set_option linter.unusedVariables false
set_option linter.unusedSimpArgs false

/-- A step during which the gun falls, with the boat ahead of the line then. -/
def eaV (h k s t gun : Int) : Int := h * (t - gun) + k * (gun - s)
def eaHit (l : Ln) (f : Nat → Sg) (gun : Int) (k : Nat) : Bool := decide ((f k).2 ≤ gun ∧ gun ≤ (f (k + 1)).2) && decide (eaV (hgt l (f k).1) (hgt l (f (k + 1)).1) (f k).2 (f (k + 1)).2 gun < 0)
def eaFrom (l : Ln) (f : Nat → Sg) (gun : Int) : Nat → Nat → Bool
  | 0, _ => false
  | m + 1, k => if eaHit l f gun k = true then true else eaFrom l f gun m (k + 1)
noncomputable def eaR (l : Ln) (n : Nat) (f : Nat → Sg) (gun : Int) : Bool := if (liB l && tkB n f) = true then eaFrom l f gun (n - 1) 0 else false
theorem eaV_bd {h k s t gun : Int} (bh : -800000000 ≤ h ∧ h ≤ 800000000) (bk : -800000000 ≤ k ∧ k ≤ 800000000) (hs : 0 ≤ s) (ht : t ≤ 10000000) (g1 : s ≤ gun) (g2 : gun ≤ t) :
    (-(800000000 * 10000000) ≤ h * (t - gun) ∧ h * (t - gun) ≤ 800000000 * 10000000) ∧ (-(800000000 * 10000000) ≤ k * (gun - s) ∧ k * (gun - s) ≤ 800000000 * 10000000) :=
  ⟨mul_bdI bh.1 bh.2 (by omega) (by omega), mul_bdI bk.1 bk.2 (by omega) (by omega)⟩
/-- The copies of both sights stand, too. -/
def EaS (w : World) (c : Array Value) (ty : TypeId) (g o n : Nat) (f : Nat → Sg) (q : Nat) (c1 c2 : Array Value) (t2 : TypeId) (wr : World) : Prop :=
  LtS w c ty g o n f wr ∧ wr.heap[q]? = some (.cells c1 t2 (0, 0)) ∧ wr.heap[q + 1]? = some (.cells c2 t2 (0, 0))
theorem EaS.step {w w1 w2 : World} {c : Array Value} {ty : TypeId} {g o n : Nat} {f : Nat → Sg} {q : Nat} {c1 c2 : Array Value} {t2 : TypeId} (h : EaS w c ty g o n f q c1 c2 t2 w1) (b : Below w1.heap.size w1 w2) : EaS w c ty g o n f q c1 c2 t2 w2 :=
  ⟨h.1.step b, (b.block _ (heap_lt h.2.1)).trans h.2.1, (b.block _ (heap_lt h.2.2)).trans h.2.2⟩
theorem EaS.drew {w w1 : World} {c : Array Value} {ty : TypeId} {g o n : Nat} {f : Nat → Sg} {q : Nat} {c1 c2 : Array Value} {t2 : TypeId} (h : EaS w c ty g o n f q c1 c2 t2 w1) : EaS w c ty g o n f q c1 c2 t2 w1.drew := ⟨h.1.drew, h.2⟩
theorem EaS.new {w wr : World} {c : Array Value} {ty : TypeId} {g o n : Nat} {f : Nat → Sg} {c1 c2 : Array Value} {t2 : TypeId} (h : LtS w c ty g o n f wr) :
    EaS w c ty g o n f wr.heap.size c1 c2 t2 ((wr.alloc (.cells c1 t2)).alloc (.cells c2 t2)) := by
  have k := Bx2.new wr c1 t2 c2 t2
  exact ⟨h.step k.2.2, k.1, k.2.1⟩
end Go.Proofs.Ythahakefmpajfaa
