/- The walk of spec.DecodeHex. -/
import Derived.Test.YtciebalkfeoabaaDoorRows
import Derived.Test.YtciebalkfeoabaaDoorM1
import Derived.WalkKit
import Derived.WalkSpells
import Derived.WalkLawsBesides
import Derived.Lib.Hide
import Derived.Deep.AppendLies
namespace Go.Proofs.YtciebalkfeoabaaDoor
open Go.RowKit


theorem Tryd.infoU8c : (Tryd.prog.info? 5).map (fun i => (i.zero, i.size, i.bytes)) = some (some (.int .u8 0), 1, 1) := by kernel_rfl

theorem dec_step {s : ByteArray} {m B : Nat} {w wr w1 : World} {v v' : Value} {o : Obj} {p : Int} (hp : p = pairNum s m) (hbel : Below w.heap.size w wr) (hown : wr.ownsRow w.heap.size B 1 v m ((decTake s m).map (Value.int .u8)))
    (hown1 : w1.ownsRow w.heap.size B 1 v' (m + 1) ((decTake s m).map (Value.int .u8) ++ [.int .u8 p])) (hgrow : (wr.alloc o).grownBy w1 v.ownBlock) :
    w1.ownsRow w.heap.size B 1 v' (m + 1) ((decTake s (m + 1)).map (Value.int .u8)) ∧ Below w.heap.size w w1 := by
  refine ⟨?_, ?_⟩
  · rw [decTake_succ, List.map_append, ← hp]; exact hown1
  · exact (hbel.alloc hbel.size _).grown hgrow (by have := hbel.size; simp; omega) (fun j hj => (hown.lt j hj).1)

theorem dec_fin {s : ByteArray} {m : Nat} (hm : m = s.size / 2) (h : ∀ j, j < m → goodPair s j) : DecPost s (.returned (.tuple #[.string (strOfNums (decTake s m)), .bool true])) := by
  subst hm; exact .inl ⟨h, rfl⟩

end Go.Proofs.YtciebalkfeoabaaDoor
