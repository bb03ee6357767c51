/-
  No cell of these rows narrows 'for every input' (looked for: loops, veiled, ifaces, maps, wideKeys, modest, calm, conditions, laid).
  DERIVED. THE GIVEN ROWS OF THIS SEAT. 5 by the template 'for every input the law returns true; each argument reads behind the call as it read before'; 0 by the template 'total and deterministic' (their statements: YtgohekdikgfcnaaTotals.lean).
  GIVEN WITH THE SEED: the statements are not yours to turn. If you find one false, say at which input.
  Laid BY PROGRAM, IN A SANDBOX (cutbox-rows.mjs): the forced cells as the released guide's own fill.sh prints them over the translation 2f8c4aff26b6ca2a… (all of the seat's roots in one cut). By AI agents, Wed Nov 11 2026. No macro, syntax, notation, axiom, sorry.
-/
import Derived.Test.YtgohekdikgfcnaaChecked
import GoSem.Claim
import GoSem.ClaimJoined
import GoSem.ClaimMapViews
import Derived.JoinedTies
import Derived.KernelRfl
namespace Go.Proofs.Ytgohekdikgfcnaa
/- THE CELL 'sum', in the pinned program and in every row, IS THE sha256 OF THE DUMP (.gsa) THAT YtgohekdikgfcnaaProg.lean LOADS. Nothing in Lean hashes anything: it is a label: what it is worth is what the hold of that sum in a sandbox is worth. -/
noncomputable def Try.pinned : Pinned := { name := "ytgohekdikgfcnaa", sum := "2f8c4aff26b6ca2a05ce38a020461649fcaa6231e302c7d72ab562194f44b06b", checked := Try.checked }
namespace Rows
def none {H : Type} : Left H := { results := [], args := [] }

/-- 'laws.FnWindsBack': WHATEVER THE INPUT: true; the input reads as it did. -/
def fnWindsBackSpec : ChangeSpec := { name := "fnWindsBack", fn := fun _ => fun
  | [d] => { results := [.lit (.bool true)], args := [d] }
  | _ => none }
def fnWindsBackRow : OpenClaim := { program := "ytgohekdikgfcnaa", sum := "2f8c4aff26b6ca2a05ce38a020461649fcaa6231e302c7d72ab562194f44b06b", func := "loop.example/g03321/laws.FnWindsBack", spec := "fnWindsBack", inPlace := ["math.Float64bits", "math.Float64frombits"], apart := false }
def FnWindsBackSaid : Prop := fnWindsBackRow.holds Try.pinned (OpenSpec.ofChange fnWindsBackSpec)

/-- ITS FALSE NEIGHBOUR: 'it returns false'. Refute it at one input. -/
def fnWindsBackWrong : ChangeSpec := { name := "fnWindsBack", fn := fun _ => fun
  | [d] => { results := [.lit (.bool false)], args := [d] }
  | _ => none }
def FnWindsBackWrongFalsely : Prop := fnWindsBackRow.holds Try.pinned (OpenSpec.ofChange fnWindsBackWrong)

/-- 'laws.FnDampStill': WHATEVER THE INPUT: true; the input reads as it did. -/
def fnDampStillSpec : ChangeSpec := { name := "fnDampStill", fn := fun _ => fun
  | [d] => { results := [.lit (.bool true)], args := [d] }
  | _ => none }
def fnDampStillRow : OpenClaim := { program := "ytgohekdikgfcnaa", sum := "2f8c4aff26b6ca2a05ce38a020461649fcaa6231e302c7d72ab562194f44b06b", func := "loop.example/g03321/laws.FnDampStill", spec := "fnDampStill", inPlace := ["math.Float64bits", "math.Float64frombits"], apart := false }
def FnDampStillSaid : Prop := fnDampStillRow.holds Try.pinned (OpenSpec.ofChange fnDampStillSpec)

/-- ITS FALSE NEIGHBOUR: 'it returns false'. Refute it at one input. -/
def fnDampStillWrong : ChangeSpec := { name := "fnDampStill", fn := fun _ => fun
  | [d] => { results := [.lit (.bool false)], args := [d] }
  | _ => none }
def FnDampStillWrongFalsely : Prop := fnDampStillRow.holds Try.pinned (OpenSpec.ofChange fnDampStillWrong)

/-- 'laws.FnMeanAlike': WHATEVER THE INPUT: true; the input reads as it did. -/
def fnMeanAlikeSpec : ChangeSpec := { name := "fnMeanAlike", fn := fun _ => fun
  | [d] => { results := [.lit (.bool true)], args := [d] }
  | _ => none }
def fnMeanAlikeRow : OpenClaim := { program := "ytgohekdikgfcnaa", sum := "2f8c4aff26b6ca2a05ce38a020461649fcaa6231e302c7d72ab562194f44b06b", func := "loop.example/g03321/laws.FnMeanAlike", spec := "fnMeanAlike", inPlace := ["math.Float64bits", "math.Float64frombits"], apart := false }
def FnMeanAlikeSaid : Prop := fnMeanAlikeRow.holds Try.pinned (OpenSpec.ofChange fnMeanAlikeSpec)

/-- ITS FALSE NEIGHBOUR: 'it returns false'. Refute it at one input. -/
def fnMeanAlikeWrong : ChangeSpec := { name := "fnMeanAlike", fn := fun _ => fun
  | [d] => { results := [.lit (.bool false)], args := [d] }
  | _ => none }
def FnMeanAlikeWrongFalsely : Prop := fnMeanAlikeRow.holds Try.pinned (OpenSpec.ofChange fnMeanAlikeWrong)

/-- 'laws.FnVeerBack': WHATEVER THE INPUT: true; the input reads as it did. -/
def fnVeerBackSpec : ChangeSpec := { name := "fnVeerBack", fn := fun _ => fun
  | [d] => { results := [.lit (.bool true)], args := [d] }
  | _ => none }
def fnVeerBackRow : OpenClaim := { program := "ytgohekdikgfcnaa", sum := "2f8c4aff26b6ca2a05ce38a020461649fcaa6231e302c7d72ab562194f44b06b", func := "loop.example/g03321/laws.FnVeerBack", spec := "fnVeerBack", inPlace := ["math.Float64bits", "math.Float64frombits"], apart := false }
def FnVeerBackSaid : Prop := fnVeerBackRow.holds Try.pinned (OpenSpec.ofChange fnVeerBackSpec)

/-- ITS FALSE NEIGHBOUR: 'it returns false'. Refute it at one input. -/
def fnVeerBackWrong : ChangeSpec := { name := "fnVeerBack", fn := fun _ => fun
  | [d] => { results := [.lit (.bool false)], args := [d] }
  | _ => none }
def FnVeerBackWrongFalsely : Prop := fnVeerBackRow.holds Try.pinned (OpenSpec.ofChange fnVeerBackWrong)

/-- 'laws.FnDampedSteady': WHATEVER THE INPUT: true; the input reads as it did. -/
def fnDampedSteadySpec : ChangeSpec := { name := "fnDampedSteady", fn := fun _ => fun
  | [d] => { results := [.lit (.bool true)], args := [d] }
  | _ => none }
def fnDampedSteadyRow : OpenClaim := { program := "ytgohekdikgfcnaa", sum := "2f8c4aff26b6ca2a05ce38a020461649fcaa6231e302c7d72ab562194f44b06b", func := "loop.example/g03321/laws.FnDampedSteady", spec := "fnDampedSteady", inPlace := ["math.Float64bits", "math.Float64frombits"], unfollowed := true, recurses := true, apart := false }
def FnDampedSteadySaid : Prop := fnDampedSteadyRow.holds Try.pinned (OpenSpec.ofChange fnDampedSteadySpec)

/-- ITS FALSE NEIGHBOUR: 'it returns false'. Refute it at one input. -/
def fnDampedSteadyWrong : ChangeSpec := { name := "fnDampedSteady", fn := fun _ => fun
  | [d] => { results := [.lit (.bool false)], args := [d] }
  | _ => none }
def FnDampedSteadyWrongFalsely : Prop := fnDampedSteadyRow.holds Try.pinned (OpenSpec.ofChange fnDampedSteadyWrong)

/- THE SECOND FORM. 'bulk': how many values and letters a reading holds, each counted each time it is reached (what is shared counts as often as it is met; a slice's spare places count too). A statement '..UptoSaid' is the law's where the arguments, and the package variables that the reading takes, are together of bulk at most 1048576: NARROWER than '..Said'. Prove '..Said' where nothing that the law and all that it calls make is longer than what came in: it says more and counts as full. Else prove '..UptoSaid'. A law counts once. -/
mutual
def uptoBulk {H : Type} : DataW H → Nat
  | .lit (.string bytes) => bytes.length + 1
  | .lit _ => 1
  | .nil => 1
  | .ptr d => uptoBulk d + 1
  | .slice elems spare => uptoBulkAll elems + uptoBulkAll spare + 1
  | .agg parts => uptoBulkAll parts + 1
  | .iface _ d => uptoBulk d + 1
  | .map entries => uptoBulkEntries entries + 1
  | .held _ => 1
def uptoBulkAll {H : Type} : List (DataW H) → Nat
  | [] => 0
  | d :: r => uptoBulk d + uptoBulkAll r
def uptoBulkEntries {H : Type} : List (Lit × DataW H) → Nat
  | [] => 0
  | x :: r => uptoBulkEntry x + uptoBulkEntries r
def uptoBulkEntry {H : Type} : Lit × DataW H → Nat
  | (.string bytes, d) => bytes.length + uptoBulk d + 1
  | (_, d) => uptoBulk d + 1
 end
def uptoSmall : (H : Type) → List (DataW H) → Bool := fun _ ds => decide (uptoBulkAll ds ≤ 1048576)
def OpenSpec.upto (s : _root_.Go.ChangeSpec) : _root_.Go.OpenSpec := { _root_.Go.OpenSpec.ofChange s with cond := some uptoSmall }

/-- 'laws.FnWindsBack', WHERE WHAT IT READS IS OF BULK AT MOST 1048576: true; the input reads as it did. -/
def fnWindsBackUptoRow : OpenClaim := { program := "ytgohekdikgfcnaa", sum := "2f8c4aff26b6ca2a05ce38a020461649fcaa6231e302c7d72ab562194f44b06b", func := "loop.example/g03321/laws.FnWindsBack", spec := "fnWindsBack", inPlace := ["math.Float64bits", "math.Float64frombits"], apart := false, narrowed := true }
def FnWindsBackUptoSaid : Prop := fnWindsBackUptoRow.holds Try.pinned (OpenSpec.upto fnWindsBackSpec)

/-- 'laws.FnDampStill', WHERE WHAT IT READS IS OF BULK AT MOST 1048576: true; the input reads as it did. -/
def fnDampStillUptoRow : OpenClaim := { program := "ytgohekdikgfcnaa", sum := "2f8c4aff26b6ca2a05ce38a020461649fcaa6231e302c7d72ab562194f44b06b", func := "loop.example/g03321/laws.FnDampStill", spec := "fnDampStill", inPlace := ["math.Float64bits", "math.Float64frombits"], apart := false, narrowed := true }
def FnDampStillUptoSaid : Prop := fnDampStillUptoRow.holds Try.pinned (OpenSpec.upto fnDampStillSpec)

/-- 'laws.FnMeanAlike', WHERE WHAT IT READS IS OF BULK AT MOST 1048576: true; the input reads as it did. -/
def fnMeanAlikeUptoRow : OpenClaim := { program := "ytgohekdikgfcnaa", sum := "2f8c4aff26b6ca2a05ce38a020461649fcaa6231e302c7d72ab562194f44b06b", func := "loop.example/g03321/laws.FnMeanAlike", spec := "fnMeanAlike", inPlace := ["math.Float64bits", "math.Float64frombits"], apart := false, narrowed := true }
def FnMeanAlikeUptoSaid : Prop := fnMeanAlikeUptoRow.holds Try.pinned (OpenSpec.upto fnMeanAlikeSpec)

/-- 'laws.FnVeerBack', WHERE WHAT IT READS IS OF BULK AT MOST 1048576: true; the input reads as it did. -/
def fnVeerBackUptoRow : OpenClaim := { program := "ytgohekdikgfcnaa", sum := "2f8c4aff26b6ca2a05ce38a020461649fcaa6231e302c7d72ab562194f44b06b", func := "loop.example/g03321/laws.FnVeerBack", spec := "fnVeerBack", inPlace := ["math.Float64bits", "math.Float64frombits"], apart := false, narrowed := true }
def FnVeerBackUptoSaid : Prop := fnVeerBackUptoRow.holds Try.pinned (OpenSpec.upto fnVeerBackSpec)

/-- 'laws.FnDampedSteady', WHERE WHAT IT READS IS OF BULK AT MOST 1048576: true; the input reads as it did. -/
def fnDampedSteadyUptoRow : OpenClaim := { program := "ytgohekdikgfcnaa", sum := "2f8c4aff26b6ca2a05ce38a020461649fcaa6231e302c7d72ab562194f44b06b", func := "loop.example/g03321/laws.FnDampedSteady", spec := "fnDampedSteady", inPlace := ["math.Float64bits", "math.Float64frombits"], unfollowed := true, recurses := true, apart := false, narrowed := true }
def FnDampedSteadyUptoSaid : Prop := fnDampedSteadyUptoRow.holds Try.pinned (OpenSpec.upto fnDampedSteadySpec)

end Rows
end Go.Proofs.Ytgohekdikgfcnaa
