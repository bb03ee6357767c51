/- A law's course and track, and copies of both. -/
import Derived.Test.YthahakefmpajfaaLkE
import Derived.Test.YthahakefmpajfaaLkI
import Derived.Test.YthahakefmpajfaaLjL
namespace Go.Proofs.Ythahakefmpajfaa
open Go.RowKit
set_option linter.unusedVariables false
set_option linter.unusedSimpArgs false

/-- A law's course and track, and the law's own course in a box (and its marks). -/
def ExS (w : World) (c : Array Value) (ty : TypeId) (g o m : Nat) (mf : Nat → Mk) (tg tO n : Nat) (f : Nat → Sg) (b : Nat) (tx : TypeId) (cx : Array Value) (p : Nat) (wr : World) : Prop := CtS w c ty g o m mf tg tO n f wr ∧ MkOwn wr b m mf ∧ wr.heap[p]? = some (.cells cx tx (0, 0))
theorem ExS.step {w w1 w2 : World} {c : Array Value} {ty : TypeId} {g o m : Nat} {mf : Nat → Mk} {tg tO n : Nat} {f : Nat → Sg} {b : Nat} {tx : TypeId} {cx : Array Value} {p : Nat} (h : ExS w c ty g o m mf tg tO n f b tx cx p w1) (k : Below w1.heap.size w1 w2) : ExS w c ty g o m mf tg tO n f b tx cx p w2 :=
  ⟨h.1.step k, h.2.1.below k, (k.block _ (heap_lt h.2.2)).trans h.2.2⟩
theorem ExS.drew {w w1 : World} {c : Array Value} {ty : TypeId} {g o m : Nat} {mf : Nat → Mk} {tg tO n : Nat} {f : Nat → Sg} {b : Nat} {tx : TypeId} {cx : Array Value} {p : Nat} (h : ExS w c ty g o m mf tg tO n f b tx cx p w1) : ExS w c ty g o m mf tg tO n f b tx cx p w1.drew := ⟨h.1.drew, h.2⟩
theorem ExS.new {w w1 : World} {c : Array Value} {ty : TypeId} {g o m : Nat} {mf : Nat → Mk} {tg tO n : Nat} {f : Nat → Sg} {b : Nat} (h : CtS w c ty g o m mf tg tO n f w1) (k : MkOwn w1 b m mf) (tx : TypeId) (cx : Array Value) : ExS w c ty g o m mf tg tO n f b tx cx w1.heap.size (w1.alloc (.cells cx tx)) :=
  ⟨h.step ((Below.refl _ _).alloc (Nat.le_refl _) _), k.below ((Below.refl _ _).alloc (Nat.le_refl _) _), heap_alloc_new w1 _⟩
/-- .. and its own track. -/
def ExT (w : World) (c : Array Value) (ty : TypeId) (g o m : Nat) (mf : Nat → Mk) (tg tO n : Nat) (f : Nat → Sg) (b : Nat) (tx : TypeId) (cx : Array Value) (p q : Nat) (wr : World) : Prop := ExS w c ty g o m mf tg tO n f b tx cx p wr ∧ SigOwn wr q n f
theorem ExT.new {w w1 : World} {c : Array Value} {ty : TypeId} {g o m : Nat} {mf : Nat → Mk} {tg tO n : Nat} {f : Nat → Sg} {b : Nat} {tx : TypeId} {cx : Array Value} {p q : Nat} (h : ExS w c ty g o m mf tg tO n f b tx cx p w1) (k : SigOwn w1 q n f) : ExT w c ty g o m mf tg tO n f b tx cx p q w1 := ⟨h, k⟩
theorem ExT.step {w w1 w2 : World} {c : Array Value} {ty : TypeId} {g o m : Nat} {mf : Nat → Mk} {tg tO n : Nat} {f : Nat → Sg} {b : Nat} {tx : TypeId} {cx : Array Value} {p q : Nat} (h : ExT w c ty g o m mf tg tO n f b tx cx p q w1) (k : Below w1.heap.size w1 w2) : ExT w c ty g o m mf tg tO n f b tx cx p q w2 := ⟨h.1.step k, h.2.below k⟩
theorem ExT.drew {w w1 : World} {c : Array Value} {ty : TypeId} {g o m : Nat} {mf : Nat → Mk} {tg tO n : Nat} {f : Nat → Sg} {b : Nat} {tx : TypeId} {cx : Array Value} {p q : Nat} (h : ExT w c ty g o m mf tg tO n f b tx cx p q w1) : ExT w c ty g o m mf tg tO n f b tx cx p q w1.drew := ⟨h.1.drew, h.2⟩
end Go.Proofs.Ythahakefmpajfaa
