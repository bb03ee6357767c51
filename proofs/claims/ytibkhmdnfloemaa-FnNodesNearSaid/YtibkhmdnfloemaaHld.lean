/- A region that draws its order, whose callees make memory, walked once in the order of the text: the class of worlds that meet a condition. Nothing here speaks of the program. -/
import Derived.Test.YtibkhmdnfloemaaRows
import Derived.WalkKit
import Derived.Lib.Hide
import Derived.BigQuiet
import Derived.Deep.RegionHeld3
namespace Go.Proofs.Ytibkhmdnfloemaa
open Go.RowKit
set_option linter.unusedVariables false

/-- A world that meets a condition. -/
structure Held (C : World → Prop) where
  w : World
  h : C w
theorem wp_region_class {P : Program} {id : Nat} {Q : Exit → Act → World → Prop} {a : Act} {w : World} {l : List Oper} (C : World → Prop) (hm : P.follows .mixedOrders = true) (hB : Region.lexB .any l.toArray = true)
    (hC : C w.drew) (h : wpQuiet P l.toArray (fun w' => ∃ s : Held C, w' = s.w) (fun a' => ∀ w', (∃ s : Held C, w' = s.w) → Q .normal a' w') l a) : (Code.region id l.toArray true).wp P Q a w :=
  wp_region_quiet (C := fun w' => ∃ s : Held C, w' = s.w) hm hB ⟨⟨_, hC⟩, rfl⟩ (by simpa using h)
theorem held_call {P : Program} {f : FuncId} {args : Array Value} {C : World → Prop} {s : Held C} {v : Value} (hs : ∀ {w1 w2 : World}, C w1 → Below w1.heap.size w1 w2 → C w2)
    (h : Calls P f args s.w fun e w' => e = .returned v ∧ Below s.w.heap.size s.w w') : Calls P f args s.w fun e w' => e = .returned v ∧ ∃ s' : Held C, w' = s'.w :=
  h.mono fun e w' ⟨a, b⟩ => ⟨a, ⟨w', hs s.h b⟩, rfl⟩
end Go.Proofs.Ytibkhmdnfloemaa
