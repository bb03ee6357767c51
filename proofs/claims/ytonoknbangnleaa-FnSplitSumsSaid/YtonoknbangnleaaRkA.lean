/- Legs: whether one is valid (impl and spec); the walk of the law FnExactLegOk. -/
import Derived.Test.YtonoknbangnleaaGvA
import Derived.Test.YtonoknbangnleaaGvB
import Derived.Test.YtonoknbangnleaaLwA
import Derived.Test.YtonoknbangnleaaTdA
namespace Go.Proofs.Ytonoknbangnleaa
open Go.RowKit Ieee
set_option linter.unusedVariables false
set_option linter.unusedSimpArgs false

/-- The seconds of a leg. -/
def okSec (n : Int) : Prop := 0 ≤ n ∧ n ≤ 100000
/-- A valid leg. -/
def okLg (s : Nat) (n : Int) : Prop := okBs s ∧ okSec n
/-- The same, as a Bool. -/
noncomputable def lgB (s : Nat) (n : Int) : Bool := @decide (okLg s n) (Classical.propDecidable _)
theorem lgB_iff {s : Nat} {n : Int} : lgB s n = true ↔ okLg s n := by unfold lgB; exact @decide_eq_true_iff _ (Classical.propDecidable _)
noncomputable def bsB (s : Nat) : Bool := @decide (okBs s) (Classical.propDecidable _)
theorem bsB_iff {s : Nat} : bsB s = true ↔ okBs s := by unfold bsB; exact @decide_eq_true_iff _ (Classical.propDecidable _)
def secB (n : Int) : Bool := decide (0 ≤ n) && decide (n ≤ 100000)
theorem secB_iff {n : Int} : secB n = true ↔ okSec n := by unfold secB okSec; simp
theorem lgB_and (s : Nat) (n : Int) : lgB s n = (bsB s && secB n) := by
  rw [Bool.eq_iff_iff, lgB_iff, Bool.and_eq_true, bsB_iff, secB_iff]; rfl

/-- Stores into three cells that were just made, or made one block ago. -/
theorem st_new (P : Program) (W : World) (x y z v : Value) (t : TypeId) (k : Nat) (hk : k < 3) (hv : v.oneCell' = true) :
    (store ⟨W.heap.size, k, none⟩ v).run P (W.alloc (.cells #[x, y, z] t)) = .ok () ((W.alloc (.cells #[x, y, z] t)).setCell ⟨W.heap.size, k, none⟩ v) :=
  store_at (n := 3) (heap_alloc_new W (.cells #[x, y, z] t)) rfl hk v hv
theorem st_new1 (P : Program) (W : World) (x y z v : Value) (t : TypeId) (o : Obj) (k : Nat) (hk : k < 3) (hv : v.oneCell' = true) :
    (store ⟨W.heap.size, k, none⟩ v).run P ((W.alloc (.cells #[x, y, z] t)).alloc o) = .ok () (((W.alloc (.cells #[x, y, z] t)).alloc o).setCell ⟨W.heap.size, k, none⟩ v) :=
  store_at (n := 3) (by rw [Below.heap_alloc _ _ _ (by simp)]; exact heap_alloc_new W (.cells #[x, y, z] t)) rfl hk v hv

end Go.Proofs.Ytonoknbangnleaa
