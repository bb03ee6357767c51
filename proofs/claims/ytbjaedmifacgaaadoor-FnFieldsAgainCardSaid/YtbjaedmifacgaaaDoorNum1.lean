/- The walk of spec.FormatInt. -/
import Derived.Test.YtbjaedmifacgaaaDoorRows
import Derived.Test.YtbjaedmifacgaaaDoorM2
import Derived.WalkKit
import Derived.WalkSpells
import Derived.WalkLawsBesides
import Derived.Lib.Hide
namespace Go.Proofs.YtbjaedmifacgaaaDoor
open Go.RowKit


/-- What a round of the loop makes: a digit, as a string, from a new block. -/
theorem conv_digit {P : Program} {src dst e : TypeId} (hs : P.underlying src = some (.slice e)) (he : P.underlying e = some (.int .u8)) (hd : P.underlying dst = some .string) (w : World) (x : Int) :
    (convert src dst (.slice (some ⟨w.heap.size, 0, none⟩) 1 1)).run P (w.alloc (.cells #[.int .u8 x] e)) = .ok (.string (strOfNums [x])) (w.alloc (.cells #[.int .u8 x] e)) := by
  refine run_convert_bytes_arg (w.alloc (.cells #[.int .u8 x] e)) src e hs he w.heap.size 0 1 1 [x] rfl (fun i hi => ?_) dst hd
  obtain rfl : i = 0 := by omega
  have := cell_of_row (w.alloc (.cells #[.int .u8 x] e)) w.heap.size 0 #[.int .u8 x] e (0, 0) (heap_alloc_new w _)
  rw [Nat.zero_add, this]; rfl

/-- The loop's relation behind a round. -/
theorem fmt_step {s : ByteArray} {u : Nat} {d : Int} {T : List UInt8} (hd : d = ((u % 10 : Nat) : Int)) (hu : u ≠ 0) (he : frontD u ++ s.data.toList = T) :
    frontD (u / 10) ++ (strOfNums [48 + d] ++ s).data.toList = T := by
  rw [str_cat, str_nums]
  subst hd
  have h := frontD_carry hu he
  have e : ((48 : Int) + ((u % 10 : Nat) : Int)).toNat = 48 + u % 10 := by omega
  show frontD (u / 10) ++ ([UInt8.ofNat ((48 : Int) + ((u % 10 : Nat) : Int)).toNat] ++ s.data.toList) = T
  rw [e]; exact h



end Go.Proofs.YtbjaedmifacgaaaDoor
