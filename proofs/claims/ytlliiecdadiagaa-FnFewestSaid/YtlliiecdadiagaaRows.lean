/-
  No cell of these rows narrows 'for every input' (looked for: loops, veiled, ifaces, maps, wideKeys, modest, calm, conditions, laid).
  DERIVED. THE GIVEN ROWS OF THIS SEAT. 12 by the template 'for every input the law returns true; each argument reads behind the call as it read before'; 0 by the template 'total and deterministic' (their statements: YtlliiecdadiagaaTotals.lean).
  GIVEN WITH THE SEED: the statements are not yours to turn. If you find one false, say at which input.
  Laid BY PROGRAM, IN A SANDBOX (cutbox-rows.mjs): the forced cells as the released guide's own fill.sh prints them over the translation 98e2af2547c5b8ab… (all of the seat's roots in one cut). By AI agents, Wed Nov 11 2026. No macro, syntax, notation, axiom, sorry.
-/
import Derived.Test.YtlliiecdadiagaaChecked
import GoSem.Claim
import GoSem.ClaimJoined
import GoSem.ClaimMapViews
import Derived.JoinedTies
import Derived.KernelRfl
namespace Go.Proofs.Ytlliiecdadiagaa
/- THE CELL 'sum', in the pinned program and in every row, IS THE sha256 OF THE DUMP (.gsa) THAT YtlliiecdadiagaaProg.lean LOADS. Nothing in Lean hashes anything: it is a label: what it is worth is what the hold of that sum in a sandbox is worth. -/
noncomputable def Try.pinned : Pinned := { name := "ytlliiecdadiagaa", sum := "98e2af2547c5b8ab12655bb7b7e09275f991db2395156ca922a6bce39012c384", checked := Try.checked }
namespace Rows
def none {H : Type} : Left H := { results := [], args := [] }

/-- 'laws.FnFewest': WHATEVER THE INPUT: true; the input reads as it did. -/
def fnFewestSpec : ChangeSpec := { name := "fnFewest", fn := fun _ => fun
  | [d] => { results := [.lit (.bool true)], args := [d] }
  | _ => none }
def fnFewestRow : OpenClaim := { program := "ytlliiecdadiagaa", sum := "98e2af2547c5b8ab12655bb7b7e09275f991db2395156ca922a6bce39012c384", func := "loop.example/g03321/laws.FnFewest", spec := "fnFewest", unfollowed := true, recurses := true, apart := false }
def FnFewestSaid : Prop := fnFewestRow.holds Try.pinned (OpenSpec.ofChange fnFewestSpec)

/-- ITS FALSE NEIGHBOUR: 'it returns false'. Refute it at one input. -/
def fnFewestWrong : ChangeSpec := { name := "fnFewest", fn := fun _ => fun
  | [d] => { results := [.lit (.bool false)], args := [d] }
  | _ => none }
def FnFewestWrongFalsely : Prop := fnFewestRow.holds Try.pinned (OpenSpec.ofChange fnFewestWrong)

/-- 'laws.FnKept': WHATEVER THE INPUT: true; the input reads as it did. -/
def fnKeptSpec : ChangeSpec := { name := "fnKept", fn := fun _ => fun
  | [d] => { results := [.lit (.bool true)], args := [d] }
  | _ => none }
def fnKeptRow : OpenClaim := { program := "ytlliiecdadiagaa", sum := "98e2af2547c5b8ab12655bb7b7e09275f991db2395156ca922a6bce39012c384", func := "loop.example/g03321/laws.FnKept", spec := "fnKept", unfollowed := true, recurses := true, apart := false }
def FnKeptSaid : Prop := fnKeptRow.holds Try.pinned (OpenSpec.ofChange fnKeptSpec)

/-- ITS FALSE NEIGHBOUR: 'it returns false'. Refute it at one input. -/
def fnKeptWrong : ChangeSpec := { name := "fnKept", fn := fun _ => fun
  | [d] => { results := [.lit (.bool false)], args := [d] }
  | _ => none }
def FnKeptWrongFalsely : Prop := fnKeptRow.holds Try.pinned (OpenSpec.ofChange fnKeptWrong)

/-- 'laws.FnFitsBoth': WHATEVER THE INPUT: true; the input reads as it did. -/
def fnFitsBothSpec : ChangeSpec := { name := "fnFitsBoth", fn := fun _ => fun
  | [d] => { results := [.lit (.bool true)], args := [d] }
  | _ => none }
def fnFitsBothRow : OpenClaim := { program := "ytlliiecdadiagaa", sum := "98e2af2547c5b8ab12655bb7b7e09275f991db2395156ca922a6bce39012c384", func := "loop.example/g03321/laws.FnFitsBoth", spec := "fnFitsBoth", unfollowed := true, recurses := true, apart := false }
def FnFitsBothSaid : Prop := fnFitsBothRow.holds Try.pinned (OpenSpec.ofChange fnFitsBothSpec)

/-- ITS FALSE NEIGHBOUR: 'it returns false'. Refute it at one input. -/
def fnFitsBothWrong : ChangeSpec := { name := "fnFitsBoth", fn := fun _ => fun
  | [d] => { results := [.lit (.bool false)], args := [d] }
  | _ => none }
def FnFitsBothWrongFalsely : Prop := fnFitsBothRow.holds Try.pinned (OpenSpec.ofChange fnFitsBothWrong)

/-- 'laws.FnExactSailsOk': WHATEVER THE INPUT: true; the input reads as it did. -/
def fnExactSailsOkSpec : ChangeSpec := { name := "fnExactSailsOk", fn := fun _ => fun
  | [d] => { results := [.lit (.bool true)], args := [d] }
  | _ => none }
def fnExactSailsOkRow : OpenClaim := { program := "ytlliiecdadiagaa", sum := "98e2af2547c5b8ab12655bb7b7e09275f991db2395156ca922a6bce39012c384", func := "loop.example/g03321/laws.FnExactSailsOk", spec := "fnExactSailsOk", unfollowed := true, recurses := true, apart := false }
def FnExactSailsOkSaid : Prop := fnExactSailsOkRow.holds Try.pinned (OpenSpec.ofChange fnExactSailsOkSpec)

/-- ITS FALSE NEIGHBOUR: 'it returns false'. Refute it at one input. -/
def fnExactSailsOkWrong : ChangeSpec := { name := "fnExactSailsOk", fn := fun _ => fun
  | [d] => { results := [.lit (.bool false)], args := [d] }
  | _ => none }
def FnExactSailsOkWrongFalsely : Prop := fnExactSailsOkRow.holds Try.pinned (OpenSpec.ofChange fnExactSailsOkWrong)

/-- 'laws.FnExactFits': WHATEVER THE INPUT: true; the input reads as it did. -/
def fnExactFitsSpec : ChangeSpec := { name := "fnExactFits", fn := fun _ => fun
  | [d1, d2] => { results := [.lit (.bool true)], args := [d1, d2] }
  | _ => none }
def fnExactFitsRow : OpenClaim := { program := "ytlliiecdadiagaa", sum := "98e2af2547c5b8ab12655bb7b7e09275f991db2395156ca922a6bce39012c384", func := "loop.example/g03321/laws.FnExactFits", spec := "fnExactFits", apart := false }
def FnExactFitsSaid : Prop := fnExactFitsRow.holds Try.pinned (OpenSpec.ofChange fnExactFitsSpec)

/-- ITS FALSE NEIGHBOUR: 'it returns false'. Refute it at one input. -/
def fnExactFitsWrong : ChangeSpec := { name := "fnExactFits", fn := fun _ => fun
  | [d1, d2] => { results := [.lit (.bool false)], args := [d1, d2] }
  | _ => none }
def FnExactFitsWrongFalsely : Prop := fnExactFitsRow.holds Try.pinned (OpenSpec.ofChange fnExactFitsWrong)

/-- 'laws.FnExactFitsWide': WHATEVER THE INPUT: true; the input reads as it did. -/
def fnExactFitsWideSpec : ChangeSpec := { name := "fnExactFitsWide", fn := fun _ => fun
  | [d1, d2] => { results := [.lit (.bool true)], args := [d1, d2] }
  | _ => none }
def fnExactFitsWideRow : OpenClaim := { program := "ytlliiecdadiagaa", sum := "98e2af2547c5b8ab12655bb7b7e09275f991db2395156ca922a6bce39012c384", func := "loop.example/g03321/laws.FnExactFitsWide", spec := "fnExactFitsWide", apart := false }
def FnExactFitsWideSaid : Prop := fnExactFitsWideRow.holds Try.pinned (OpenSpec.ofChange fnExactFitsWideSpec)

/-- ITS FALSE NEIGHBOUR: 'it returns false'. Refute it at one input. -/
def fnExactFitsWideWrong : ChangeSpec := { name := "fnExactFitsWide", fn := fun _ => fun
  | [d1, d2] => { results := [.lit (.bool false)], args := [d1, d2] }
  | _ => none }
def FnExactFitsWideWrongFalsely : Prop := fnExactFitsWideRow.holds Try.pinned (OpenSpec.ofChange fnExactFitsWideWrong)

/-- 'laws.FnExactBestSail': WHATEVER THE INPUT: true; the input reads as it did. -/
def fnExactBestSailSpec : ChangeSpec := { name := "fnExactBestSail", fn := fun _ => fun
  | [d1, d2] => { results := [.lit (.bool true)], args := [d1, d2] }
  | _ => none }
def fnExactBestSailRow : OpenClaim := { program := "ytlliiecdadiagaa", sum := "98e2af2547c5b8ab12655bb7b7e09275f991db2395156ca922a6bce39012c384", func := "loop.example/g03321/laws.FnExactBestSail", spec := "fnExactBestSail", unfollowed := true, recurses := true, apart := false }
def FnExactBestSailSaid : Prop := fnExactBestSailRow.holds Try.pinned (OpenSpec.ofChange fnExactBestSailSpec)

/-- ITS FALSE NEIGHBOUR: 'it returns false'. Refute it at one input. -/
def fnExactBestSailWrong : ChangeSpec := { name := "fnExactBestSail", fn := fun _ => fun
  | [d1, d2] => { results := [.lit (.bool false)], args := [d1, d2] }
  | _ => none }
def FnExactBestSailWrongFalsely : Prop := fnExactBestSailRow.holds Try.pinned (OpenSpec.ofChange fnExactBestSailWrong)

/-- 'laws.FnExactKeepSail': WHATEVER THE INPUT: true; the input reads as it did. -/
def fnExactKeepSailSpec : ChangeSpec := { name := "fnExactKeepSail", fn := fun _ => fun
  | [d1, d2, d3] => { results := [.lit (.bool true)], args := [d1, d2, d3] }
  | _ => none }
def fnExactKeepSailRow : OpenClaim := { program := "ytlliiecdadiagaa", sum := "98e2af2547c5b8ab12655bb7b7e09275f991db2395156ca922a6bce39012c384", func := "loop.example/g03321/laws.FnExactKeepSail", spec := "fnExactKeepSail", unfollowed := true, recurses := true, apart := false }
def FnExactKeepSailSaid : Prop := fnExactKeepSailRow.holds Try.pinned (OpenSpec.ofChange fnExactKeepSailSpec)

/-- ITS FALSE NEIGHBOUR: 'it returns false'. Refute it at one input. -/
def fnExactKeepSailWrong : ChangeSpec := { name := "fnExactKeepSail", fn := fun _ => fun
  | [d1, d2, d3] => { results := [.lit (.bool false)], args := [d1, d2, d3] }
  | _ => none }
def FnExactKeepSailWrongFalsely : Prop := fnExactKeepSailRow.holds Try.pinned (OpenSpec.ofChange fnExactKeepSailWrong)

/-- 'laws.FnExactRunSails': WHATEVER THE INPUT: true; the input reads as it did. -/
def fnExactRunSailsSpec : ChangeSpec := { name := "fnExactRunSails", fn := fun _ => fun
  | [d1, d2, d3] => { results := [.lit (.bool true)], args := [d1, d2, d3] }
  | _ => none }
def fnExactRunSailsRow : OpenClaim := { program := "ytlliiecdadiagaa", sum := "98e2af2547c5b8ab12655bb7b7e09275f991db2395156ca922a6bce39012c384", func := "loop.example/g03321/laws.FnExactRunSails", spec := "fnExactRunSails", unfollowed := true, recurses := true, apart := false }
def FnExactRunSailsSaid : Prop := fnExactRunSailsRow.holds Try.pinned (OpenSpec.ofChange fnExactRunSailsSpec)

/-- ITS FALSE NEIGHBOUR: 'it returns false'. Refute it at one input. -/
def fnExactRunSailsWrong : ChangeSpec := { name := "fnExactRunSails", fn := fun _ => fun
  | [d1, d2, d3] => { results := [.lit (.bool false)], args := [d1, d2, d3] }
  | _ => none }
def FnExactRunSailsWrongFalsely : Prop := fnExactRunSailsRow.holds Try.pinned (OpenSpec.ofChange fnExactRunSailsWrong)

/-- 'laws.FnExactPlanOk': WHATEVER THE INPUT: true; the input reads as it did. -/
def fnExactPlanOkSpec : ChangeSpec := { name := "fnExactPlanOk", fn := fun _ => fun
  | [d1, d2, d3] => { results := [.lit (.bool true)], args := [d1, d2, d3] }
  | _ => none }
def fnExactPlanOkRow : OpenClaim := { program := "ytlliiecdadiagaa", sum := "98e2af2547c5b8ab12655bb7b7e09275f991db2395156ca922a6bce39012c384", func := "loop.example/g03321/laws.FnExactPlanOk", spec := "fnExactPlanOk", unfollowed := true, recurses := true, apart := false }
def FnExactPlanOkSaid : Prop := fnExactPlanOkRow.holds Try.pinned (OpenSpec.ofChange fnExactPlanOkSpec)

/-- ITS FALSE NEIGHBOUR: 'it returns false'. Refute it at one input. -/
def fnExactPlanOkWrong : ChangeSpec := { name := "fnExactPlanOk", fn := fun _ => fun
  | [d1, d2, d3] => { results := [.lit (.bool false)], args := [d1, d2, d3] }
  | _ => none }
def FnExactPlanOkWrongFalsely : Prop := fnExactPlanOkRow.holds Try.pinned (OpenSpec.ofChange fnExactPlanOkWrong)

/-- 'laws.FnExactChanges': WHATEVER THE INPUT: true; the input reads as it did. -/
def fnExactChangesSpec : ChangeSpec := { name := "fnExactChanges", fn := fun _ => fun
  | [d] => { results := [.lit (.bool true)], args := [d] }
  | _ => none }
def fnExactChangesRow : OpenClaim := { program := "ytlliiecdadiagaa", sum := "98e2af2547c5b8ab12655bb7b7e09275f991db2395156ca922a6bce39012c384", func := "loop.example/g03321/laws.FnExactChanges", spec := "fnExactChanges", apart := false }
def FnExactChangesSaid : Prop := fnExactChangesRow.holds Try.pinned (OpenSpec.ofChange fnExactChangesSpec)

/-- ITS FALSE NEIGHBOUR: 'it returns false'. Refute it at one input. -/
def fnExactChangesWrong : ChangeSpec := { name := "fnExactChanges", fn := fun _ => fun
  | [d] => { results := [.lit (.bool false)], args := [d] }
  | _ => none }
def FnExactChangesWrongFalsely : Prop := fnExactChangesRow.holds Try.pinned (OpenSpec.ofChange fnExactChangesWrong)

/-- 'laws.FnExactFewestChanges': WHATEVER THE INPUT: true; the input reads as it did. -/
def fnExactFewestChangesSpec : ChangeSpec := { name := "fnExactFewestChanges", fn := fun _ => fun
  | [d1, d2] => { results := [.lit (.bool true)], args := [d1, d2] }
  | _ => none }
def fnExactFewestChangesRow : OpenClaim := { program := "ytlliiecdadiagaa", sum := "98e2af2547c5b8ab12655bb7b7e09275f991db2395156ca922a6bce39012c384", func := "loop.example/g03321/laws.FnExactFewestChanges", spec := "fnExactFewestChanges", unfollowed := true, recurses := true, apart := false }
def FnExactFewestChangesSaid : Prop := fnExactFewestChangesRow.holds Try.pinned (OpenSpec.ofChange fnExactFewestChangesSpec)

/-- ITS FALSE NEIGHBOUR: 'it returns false'. Refute it at one input. -/
def fnExactFewestChangesWrong : ChangeSpec := { name := "fnExactFewestChanges", fn := fun _ => fun
  | [d1, d2] => { results := [.lit (.bool false)], args := [d1, d2] }
  | _ => none }
def FnExactFewestChangesWrongFalsely : Prop := fnExactFewestChangesRow.holds Try.pinned (OpenSpec.ofChange fnExactFewestChangesWrong)

/- THE SECOND FORM. 'bulk': how many values and letters a reading holds, each counted each time it is reached (what is shared counts as often as it is met; a slice's spare places count too). A statement '..UptoSaid' is the law's where the arguments, and the package variables that the reading takes, are together of bulk at most 1048576: NARROWER than '..Said'. Prove '..Said' where nothing that the law and all that it calls make is longer than what came in: it says more and counts as full. Else prove '..UptoSaid'. A law counts once. -/
mutual
def uptoBulk {H : Type} : DataW H → Nat
  | .lit (.string bytes) => bytes.length + 1
  | .lit _ => 1
  | .nil => 1
  | .ptr d => uptoBulk d + 1
  | .slice elems spare => uptoBulkAll elems + uptoBulkAll spare + 1
  | .agg parts => uptoBulkAll parts + 1
  | .iface _ d => uptoBulk d + 1
  | .map entries => uptoBulkEntries entries + 1
  | .held _ => 1
def uptoBulkAll {H : Type} : List (DataW H) → Nat
  | [] => 0
  | d :: r => uptoBulk d + uptoBulkAll r
def uptoBulkEntries {H : Type} : List (Lit × DataW H) → Nat
  | [] => 0
  | x :: r => uptoBulkEntry x + uptoBulkEntries r
def uptoBulkEntry {H : Type} : Lit × DataW H → Nat
  | (.string bytes, d) => bytes.length + uptoBulk d + 1
  | (_, d) => uptoBulk d + 1
 end
def uptoSmall : (H : Type) → List (DataW H) → Bool := fun _ ds => decide (uptoBulkAll ds ≤ 1048576)
def OpenSpec.upto (s : _root_.Go.ChangeSpec) : _root_.Go.OpenSpec := { _root_.Go.OpenSpec.ofChange s with cond := some uptoSmall }

/-- 'laws.FnFewest', WHERE WHAT IT READS IS OF BULK AT MOST 1048576: true; the input reads as it did. -/
def fnFewestUptoRow : OpenClaim := { program := "ytlliiecdadiagaa", sum := "98e2af2547c5b8ab12655bb7b7e09275f991db2395156ca922a6bce39012c384", func := "loop.example/g03321/laws.FnFewest", spec := "fnFewest", unfollowed := true, recurses := true, apart := false, narrowed := true }
def FnFewestUptoSaid : Prop := fnFewestUptoRow.holds Try.pinned (OpenSpec.upto fnFewestSpec)

/-- 'laws.FnKept', WHERE WHAT IT READS IS OF BULK AT MOST 1048576: true; the input reads as it did. -/
def fnKeptUptoRow : OpenClaim := { program := "ytlliiecdadiagaa", sum := "98e2af2547c5b8ab12655bb7b7e09275f991db2395156ca922a6bce39012c384", func := "loop.example/g03321/laws.FnKept", spec := "fnKept", unfollowed := true, recurses := true, apart := false, narrowed := true }
def FnKeptUptoSaid : Prop := fnKeptUptoRow.holds Try.pinned (OpenSpec.upto fnKeptSpec)

/-- 'laws.FnFitsBoth', WHERE WHAT IT READS IS OF BULK AT MOST 1048576: true; the input reads as it did. -/
def fnFitsBothUptoRow : OpenClaim := { program := "ytlliiecdadiagaa", sum := "98e2af2547c5b8ab12655bb7b7e09275f991db2395156ca922a6bce39012c384", func := "loop.example/g03321/laws.FnFitsBoth", spec := "fnFitsBoth", unfollowed := true, recurses := true, apart := false, narrowed := true }
def FnFitsBothUptoSaid : Prop := fnFitsBothUptoRow.holds Try.pinned (OpenSpec.upto fnFitsBothSpec)

/-- 'laws.FnExactSailsOk', WHERE WHAT IT READS IS OF BULK AT MOST 1048576: true; the input reads as it did. -/
def fnExactSailsOkUptoRow : OpenClaim := { program := "ytlliiecdadiagaa", sum := "98e2af2547c5b8ab12655bb7b7e09275f991db2395156ca922a6bce39012c384", func := "loop.example/g03321/laws.FnExactSailsOk", spec := "fnExactSailsOk", unfollowed := true, recurses := true, apart := false, narrowed := true }
def FnExactSailsOkUptoSaid : Prop := fnExactSailsOkUptoRow.holds Try.pinned (OpenSpec.upto fnExactSailsOkSpec)

/-- 'laws.FnExactFits', WHERE WHAT IT READS IS OF BULK AT MOST 1048576: true; the input reads as it did. -/
def fnExactFitsUptoRow : OpenClaim := { program := "ytlliiecdadiagaa", sum := "98e2af2547c5b8ab12655bb7b7e09275f991db2395156ca922a6bce39012c384", func := "loop.example/g03321/laws.FnExactFits", spec := "fnExactFits", apart := false, narrowed := true }
def FnExactFitsUptoSaid : Prop := fnExactFitsUptoRow.holds Try.pinned (OpenSpec.upto fnExactFitsSpec)

/-- 'laws.FnExactFitsWide', WHERE WHAT IT READS IS OF BULK AT MOST 1048576: true; the input reads as it did. -/
def fnExactFitsWideUptoRow : OpenClaim := { program := "ytlliiecdadiagaa", sum := "98e2af2547c5b8ab12655bb7b7e09275f991db2395156ca922a6bce39012c384", func := "loop.example/g03321/laws.FnExactFitsWide", spec := "fnExactFitsWide", apart := false, narrowed := true }
def FnExactFitsWideUptoSaid : Prop := fnExactFitsWideUptoRow.holds Try.pinned (OpenSpec.upto fnExactFitsWideSpec)

/-- 'laws.FnExactBestSail', WHERE WHAT IT READS IS OF BULK AT MOST 1048576: true; the input reads as it did. -/
def fnExactBestSailUptoRow : OpenClaim := { program := "ytlliiecdadiagaa", sum := "98e2af2547c5b8ab12655bb7b7e09275f991db2395156ca922a6bce39012c384", func := "loop.example/g03321/laws.FnExactBestSail", spec := "fnExactBestSail", unfollowed := true, recurses := true, apart := false, narrowed := true }
def FnExactBestSailUptoSaid : Prop := fnExactBestSailUptoRow.holds Try.pinned (OpenSpec.upto fnExactBestSailSpec)

/-- 'laws.FnExactKeepSail', WHERE WHAT IT READS IS OF BULK AT MOST 1048576: true; the input reads as it did. -/
def fnExactKeepSailUptoRow : OpenClaim := { program := "ytlliiecdadiagaa", sum := "98e2af2547c5b8ab12655bb7b7e09275f991db2395156ca922a6bce39012c384", func := "loop.example/g03321/laws.FnExactKeepSail", spec := "fnExactKeepSail", unfollowed := true, recurses := true, apart := false, narrowed := true }
def FnExactKeepSailUptoSaid : Prop := fnExactKeepSailUptoRow.holds Try.pinned (OpenSpec.upto fnExactKeepSailSpec)

/-- 'laws.FnExactRunSails', WHERE WHAT IT READS IS OF BULK AT MOST 1048576: true; the input reads as it did. -/
def fnExactRunSailsUptoRow : OpenClaim := { program := "ytlliiecdadiagaa", sum := "98e2af2547c5b8ab12655bb7b7e09275f991db2395156ca922a6bce39012c384", func := "loop.example/g03321/laws.FnExactRunSails", spec := "fnExactRunSails", unfollowed := true, recurses := true, apart := false, narrowed := true }
def FnExactRunSailsUptoSaid : Prop := fnExactRunSailsUptoRow.holds Try.pinned (OpenSpec.upto fnExactRunSailsSpec)

/-- 'laws.FnExactPlanOk', WHERE WHAT IT READS IS OF BULK AT MOST 1048576: true; the input reads as it did. -/
def fnExactPlanOkUptoRow : OpenClaim := { program := "ytlliiecdadiagaa", sum := "98e2af2547c5b8ab12655bb7b7e09275f991db2395156ca922a6bce39012c384", func := "loop.example/g03321/laws.FnExactPlanOk", spec := "fnExactPlanOk", unfollowed := true, recurses := true, apart := false, narrowed := true }
def FnExactPlanOkUptoSaid : Prop := fnExactPlanOkUptoRow.holds Try.pinned (OpenSpec.upto fnExactPlanOkSpec)

/-- 'laws.FnExactChanges', WHERE WHAT IT READS IS OF BULK AT MOST 1048576: true; the input reads as it did. -/
def fnExactChangesUptoRow : OpenClaim := { program := "ytlliiecdadiagaa", sum := "98e2af2547c5b8ab12655bb7b7e09275f991db2395156ca922a6bce39012c384", func := "loop.example/g03321/laws.FnExactChanges", spec := "fnExactChanges", apart := false, narrowed := true }
def FnExactChangesUptoSaid : Prop := fnExactChangesUptoRow.holds Try.pinned (OpenSpec.upto fnExactChangesSpec)

/-- 'laws.FnExactFewestChanges', WHERE WHAT IT READS IS OF BULK AT MOST 1048576: true; the input reads as it did. -/
def fnExactFewestChangesUptoRow : OpenClaim := { program := "ytlliiecdadiagaa", sum := "98e2af2547c5b8ab12655bb7b7e09275f991db2395156ca922a6bce39012c384", func := "loop.example/g03321/laws.FnExactFewestChanges", spec := "fnExactFewestChanges", unfollowed := true, recurses := true, apart := false, narrowed := true }
def FnExactFewestChangesUptoSaid : Prop := fnExactFewestChangesUptoRow.holds Try.pinned (OpenSpec.upto fnExactFewestChangesSpec)

end Rows
end Go.Proofs.Ytlliiecdadiagaa
