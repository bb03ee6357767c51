/- Starts (spec): StartTime. -/
import Derived.Test.YthahakefmpajfaaLiD
namespace Go.Proofs.Ythahakefmpajfaa
open Go.RowKit
set_option linter.unusedVariables false
set_option linter.unusedSimpArgs false

theorem s_ct (l : Ln) (s t : Sg) (w : World) :
    Calls Try.prog 70 #[.agg #[.int .i64 l.1.1, .int .i64 l.1.2, .int .i64 l.2.1, .int .i64 l.2.2], .agg #[.int .i64 s.1.1, .int .i64 s.1.2, .int .i64 s.2], .agg #[.int .i64 t.1.1, .int .i64 t.1.2, .int .i64 t.2]] w
      fun e w' => e = .returned (.tuple #[.int .i64 (ctW l s t), .bool (ctB l s t)]) ∧ Below w.heap.size w w' := by
  unfold ctW
  cases h : ctB l s t
  · exact s_ct_no l s t w h
  · exact s_ct_yes l s t w h
/-- A start: a step that is crossed so, at that time or later. -/
noncomputable def hitB (l : Ln) (f : Nat → Sg) (gun : Int) (k : Nat) : Bool := ctB l (f k) (f (k + 1)) && decide (gun ≤ ctW l (f k) (f (k + 1))) && decide (crW l (f k).1 (f (k + 1)).1 = 1)
/-- The first start of so many steps, from a step on. -/
noncomputable def stFrom (l : Ln) (f : Nat → Sg) (gun : Int) : Nat → Nat → Int × Bool
  | 0, _ => (0, false)
  | m + 1, k => if hitB l f gun k = true then (ctW l (f k) (f (k + 1)), true) else stFrom l f gun m (k + 1)
noncomputable def stR (l : Ln) (n : Nat) (f : Nat → Sg) (gun : Int) : Int × Bool := if tkB n f = true then stFrom l f gun (n - 1) 0 else (0, false)
/-- What stands while a line and a track are looked at. -/
def LtS (w : World) (c : Array Value) (ty : TypeId) (g o n : Nat) (f : Nat → Sg) (wr : World) : Prop := Bx1 w c ty wr ∧ SigsIn wr g o n f
theorem LtS.step {w w1 w2 : World} {c : Array Value} {ty : TypeId} {g o n : Nat} {f : Nat → Sg} (h : LtS w c ty g o n f w1) (b : Below w1.heap.size w1 w2) : LtS w c ty g o n f w2 := ⟨h.1.step b, h.2.below b (Nat.le_refl _)⟩
theorem LtS.drew {w w1 : World} {c : Array Value} {ty : TypeId} {g o n : Nat} {f : Nat → Sg} (h : LtS w c ty g o n f w1) : LtS w c ty g o n f w1.drew := ⟨h.1.drew, h.2⟩
theorem LtS.below {w w1 : World} {c : Array Value} {ty : TypeId} {g o n : Nat} {f : Nat → Sg} (h : LtS w c ty g o n f w1) : Below w.heap.size w w1 := h.1.2
theorem LtS.new {w : World} {c : Array Value} {ty : TypeId} {g o n : Nat} {f : Nat → Sg} (h : SigsIn w g o n f) : LtS w c ty g o n f (w.alloc (.cells c ty)) :=
  ⟨Bx1.new w c ty, h.below ((Below.refl _ w).alloc (Nat.le_refl _) _) (Nat.le_refl _)⟩
end Go.Proofs.Ythahakefmpajfaa
