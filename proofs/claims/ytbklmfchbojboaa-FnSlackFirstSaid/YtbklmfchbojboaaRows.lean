/-
  No cell of these rows narrows 'for every input' (looked for: loops, veiled, ifaces, maps, wideKeys, modest, calm, conditions, laid).
  DERIVED. THE GIVEN ROWS OF THIS SEAT. 3 by the template 'for every input the law returns true; each argument reads behind the call as it read before'; 0 by the template 'total and deterministic' (their statements: YtbklmfchbojboaaTotals.lean).
  GIVEN WITH THE SEED: the statements are not yours to turn. If you find one false, say at which input.
  Laid BY PROGRAM, IN A SANDBOX (cutbox-rows.mjs): the forced cells as the released guide's own fill.sh prints them over the translation a8f4b9a3788ccdfa… (all of the seat's roots in one cut). By AI agents, Wed Nov 11 2026. No macro, syntax, notation, axiom, sorry.
-/
import Derived.Test.YtbklmfchbojboaaChecked
import GoSem.Claim
import GoSem.ClaimJoined
import GoSem.ClaimMapViews
import Derived.JoinedTies
import Derived.KernelRfl
namespace Go.Proofs.Ytbklmfchbojboaa
/- THE CELL 'sum', in the pinned program and in every row, IS THE sha256 OF THE DUMP (.gsa) THAT YtbklmfchbojboaaProg.lean LOADS. Nothing in Lean hashes anything: it is a label: what it is worth is what the hold of that sum in a sandbox is worth. -/
noncomputable def Try.pinned : Pinned := { name := "ytbklmfchbojboaa", sum := "a8f4b9a3788ccdfaadf8ffbc4e624291581ecbd80322c4c8be57b3cec74983ef", checked := Try.checked }
namespace Rows
def none {H : Type} : Left H := { results := [], args := [] }

/-- 'laws.FnStreamHours': WHATEVER THE INPUT: true; the input reads as it did. -/
def fnStreamHoursSpec : ChangeSpec := { name := "fnStreamHours", fn := fun _ => fun
  | [d] => { results := [.lit (.bool true)], args := [d] }
  | _ => none }
def fnStreamHoursRow : OpenClaim := { program := "ytbklmfchbojboaa", sum := "a8f4b9a3788ccdfaadf8ffbc4e624291581ecbd80322c4c8be57b3cec74983ef", func := "loop.example/g03321/laws.FnStreamHours", spec := "fnStreamHours", inPlace := ["math.Float64bits", "math.Float64frombits"], apart := false }
def FnStreamHoursSaid : Prop := fnStreamHoursRow.holds Try.pinned (OpenSpec.ofChange fnStreamHoursSpec)

/-- ITS FALSE NEIGHBOUR: 'it returns false'. Refute it at one input. -/
def fnStreamHoursWrong : ChangeSpec := { name := "fnStreamHours", fn := fun _ => fun
  | [d] => { results := [.lit (.bool false)], args := [d] }
  | _ => none }
def FnStreamHoursWrongFalsely : Prop := fnStreamHoursRow.holds Try.pinned (OpenSpec.ofChange fnStreamHoursWrong)

/-- 'laws.FnHighNearest': WHATEVER THE INPUT: true; the input reads as it did. -/
def fnHighNearestSpec : ChangeSpec := { name := "fnHighNearest", fn := fun _ => fun
  | [d] => { results := [.lit (.bool true)], args := [d] }
  | _ => none }
def fnHighNearestRow : OpenClaim := { program := "ytbklmfchbojboaa", sum := "a8f4b9a3788ccdfaadf8ffbc4e624291581ecbd80322c4c8be57b3cec74983ef", func := "loop.example/g03321/laws.FnHighNearest", spec := "fnHighNearest", inPlace := ["math.Float64bits", "math.Float64frombits"], unfollowed := true, recurses := true, apart := false }
def FnHighNearestSaid : Prop := fnHighNearestRow.holds Try.pinned (OpenSpec.ofChange fnHighNearestSpec)

/-- ITS FALSE NEIGHBOUR: 'it returns false'. Refute it at one input. -/
def fnHighNearestWrong : ChangeSpec := { name := "fnHighNearest", fn := fun _ => fun
  | [d] => { results := [.lit (.bool false)], args := [d] }
  | _ => none }
def FnHighNearestWrongFalsely : Prop := fnHighNearestRow.holds Try.pinned (OpenSpec.ofChange fnHighNearestWrong)

/-- 'laws.FnSlackFirst': WHATEVER THE INPUT: true; the input reads as it did. -/
def fnSlackFirstSpec : ChangeSpec := { name := "fnSlackFirst", fn := fun _ => fun
  | [d] => { results := [.lit (.bool true)], args := [d] }
  | _ => none }
def fnSlackFirstRow : OpenClaim := { program := "ytbklmfchbojboaa", sum := "a8f4b9a3788ccdfaadf8ffbc4e624291581ecbd80322c4c8be57b3cec74983ef", func := "loop.example/g03321/laws.FnSlackFirst", spec := "fnSlackFirst", inPlace := ["math.Float64bits", "math.Float64frombits"], unfollowed := true, recurses := true, apart := false }
def FnSlackFirstSaid : Prop := fnSlackFirstRow.holds Try.pinned (OpenSpec.ofChange fnSlackFirstSpec)

/-- ITS FALSE NEIGHBOUR: 'it returns false'. Refute it at one input. -/
def fnSlackFirstWrong : ChangeSpec := { name := "fnSlackFirst", fn := fun _ => fun
  | [d] => { results := [.lit (.bool false)], args := [d] }
  | _ => none }
def FnSlackFirstWrongFalsely : Prop := fnSlackFirstRow.holds Try.pinned (OpenSpec.ofChange fnSlackFirstWrong)

/- THE SECOND FORM. 'bulk': how many values and letters a reading holds, each counted each time it is reached (what is shared counts as often as it is met; a slice's spare places count too). A statement '..UptoSaid' is the law's where the arguments, and the package variables that the reading takes, are together of bulk at most 1048576: NARROWER than '..Said'. Prove '..Said' where nothing that the law and all that it calls make is longer than what came in: it says more and counts as full. Else prove '..UptoSaid'. A law counts once. -/
mutual
def uptoBulk {H : Type} : DataW H → Nat
  | .lit (.string bytes) => bytes.length + 1
  | .lit _ => 1
  | .nil => 1
  | .ptr d => uptoBulk d + 1
  | .slice elems spare => uptoBulkAll elems + uptoBulkAll spare + 1
  | .agg parts => uptoBulkAll parts + 1
  | .iface _ d => uptoBulk d + 1
  | .map entries => uptoBulkEntries entries + 1
  | .held _ => 1
def uptoBulkAll {H : Type} : List (DataW H) → Nat
  | [] => 0
  | d :: r => uptoBulk d + uptoBulkAll r
def uptoBulkEntries {H : Type} : List (Lit × DataW H) → Nat
  | [] => 0
  | x :: r => uptoBulkEntry x + uptoBulkEntries r
def uptoBulkEntry {H : Type} : Lit × DataW H → Nat
  | (.string bytes, d) => bytes.length + uptoBulk d + 1
  | (_, d) => uptoBulk d + 1
 end
def uptoSmall : (H : Type) → List (DataW H) → Bool := fun _ ds => decide (uptoBulkAll ds ≤ 1048576)
def OpenSpec.upto (s : _root_.Go.ChangeSpec) : _root_.Go.OpenSpec := { _root_.Go.OpenSpec.ofChange s with cond := some uptoSmall }

/-- 'laws.FnStreamHours', WHERE WHAT IT READS IS OF BULK AT MOST 1048576: true; the input reads as it did. -/
def fnStreamHoursUptoRow : OpenClaim := { program := "ytbklmfchbojboaa", sum := "a8f4b9a3788ccdfaadf8ffbc4e624291581ecbd80322c4c8be57b3cec74983ef", func := "loop.example/g03321/laws.FnStreamHours", spec := "fnStreamHours", inPlace := ["math.Float64bits", "math.Float64frombits"], apart := false, narrowed := true }
def FnStreamHoursUptoSaid : Prop := fnStreamHoursUptoRow.holds Try.pinned (OpenSpec.upto fnStreamHoursSpec)

/-- 'laws.FnHighNearest', WHERE WHAT IT READS IS OF BULK AT MOST 1048576: true; the input reads as it did. -/
def fnHighNearestUptoRow : OpenClaim := { program := "ytbklmfchbojboaa", sum := "a8f4b9a3788ccdfaadf8ffbc4e624291581ecbd80322c4c8be57b3cec74983ef", func := "loop.example/g03321/laws.FnHighNearest", spec := "fnHighNearest", inPlace := ["math.Float64bits", "math.Float64frombits"], unfollowed := true, recurses := true, apart := false, narrowed := true }
def FnHighNearestUptoSaid : Prop := fnHighNearestUptoRow.holds Try.pinned (OpenSpec.upto fnHighNearestSpec)

/-- 'laws.FnSlackFirst', WHERE WHAT IT READS IS OF BULK AT MOST 1048576: true; the input reads as it did. -/
def fnSlackFirstUptoRow : OpenClaim := { program := "ytbklmfchbojboaa", sum := "a8f4b9a3788ccdfaadf8ffbc4e624291581ecbd80322c4c8be57b3cec74983ef", func := "loop.example/g03321/laws.FnSlackFirst", spec := "fnSlackFirst", inPlace := ["math.Float64bits", "math.Float64frombits"], unfollowed := true, recurses := true, apart := false, narrowed := true }
def FnSlackFirstUptoSaid : Prop := fnSlackFirstUptoRow.holds Try.pinned (OpenSpec.upto fnSlackFirstSpec)

end Rows
end Go.Proofs.Ytbklmfchbojboaa
