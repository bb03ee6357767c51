/-
  No cell of these rows narrows 'for every input' (looked for: loops, veiled, ifaces, maps, wideKeys, modest, calm, conditions, laid).
  DERIVED. THE GIVEN ROWS OF THIS SEAT. 9 by the template 'for every input the law returns true; each argument reads behind the call as it read before'; 0 by the template 'total and deterministic' (their statements: YthahakefmpajfaaTotals.lean).
  GIVEN WITH THE SEED: the statements are not yours to turn. If you find one false, say at which input.
  Laid BY PROGRAM, IN A SANDBOX (cutbox-rows.mjs): the forced cells as the released guide's own fill.sh prints them over the translation 8a1b7f326d123774… (all of the seat's roots in one cut). By AI agents, Wed Nov 11 2026. No macro, syntax, notation, axiom, sorry.
-/
import Derived.Test.YthahakefmpajfaaChecked
import GoSem.Claim
import GoSem.ClaimJoined
import GoSem.ClaimMapViews
import Derived.JoinedTies
import Derived.KernelRfl
namespace Go.Proofs.Ythahakefmpajfaa
/- THE CELL 'sum', in the pinned program and in every row, IS THE sha256 OF THE DUMP (.gsa) THAT YthahakefmpajfaaProg.lean LOADS. Nothing in Lean hashes anything: it is a label: what it is worth is what the hold of that sum in a sandbox is worth. -/
noncomputable def Try.pinned : Pinned := { name := "ythahakefmpajfaa", sum := "8a1b7f326d123774db3dfee6395daee1f271e23a039143d941a3f56a45c241ec", checked := Try.checked }
namespace Rows
def none {H : Type} : Left H := { results := [], args := [] }

/-- 'laws.FnRayCut': WHATEVER THE INPUT: true; the input reads as it did. -/
def fnRayCutSpec : ChangeSpec := { name := "fnRayCut", fn := fun _ => fun
  | [d] => { results := [.lit (.bool true)], args := [d] }
  | _ => none }
def fnRayCutRow : OpenClaim := { program := "ythahakefmpajfaa", sum := "8a1b7f326d123774db3dfee6395daee1f271e23a039143d941a3f56a45c241ec", func := "loop.example/g03321/laws.FnRayCut", spec := "fnRayCut", apart := false }
def FnRayCutSaid : Prop := fnRayCutRow.holds Try.pinned (OpenSpec.ofChange fnRayCutSpec)

/-- ITS FALSE NEIGHBOUR: 'it returns false'. Refute it at one input. -/
def fnRayCutWrong : ChangeSpec := { name := "fnRayCut", fn := fun _ => fun
  | [d] => { results := [.lit (.bool false)], args := [d] }
  | _ => none }
def FnRayCutWrongFalsely : Prop := fnRayCutRow.holds Try.pinned (OpenSpec.ofChange fnRayCutWrong)

/-- 'laws.FnLongerTrack': WHATEVER THE INPUT: true; the input reads as it did. -/
def fnLongerTrackSpec : ChangeSpec := { name := "fnLongerTrack", fn := fun _ => fun
  | [d] => { results := [.lit (.bool true)], args := [d] }
  | _ => none }
def fnLongerTrackRow : OpenClaim := { program := "ythahakefmpajfaa", sum := "8a1b7f326d123774db3dfee6395daee1f271e23a039143d941a3f56a45c241ec", func := "loop.example/g03321/laws.FnLongerTrack", spec := "fnLongerTrack", apart := false }
def FnLongerTrackSaid : Prop := fnLongerTrackRow.holds Try.pinned (OpenSpec.ofChange fnLongerTrackSpec)

/-- ITS FALSE NEIGHBOUR: 'it returns false'. Refute it at one input. -/
def fnLongerTrackWrong : ChangeSpec := { name := "fnLongerTrack", fn := fun _ => fun
  | [d] => { results := [.lit (.bool false)], args := [d] }
  | _ => none }
def FnLongerTrackWrongFalsely : Prop := fnLongerTrackRow.holds Try.pinned (OpenSpec.ofChange fnLongerTrackWrong)

/-- 'laws.FnProgressRises': WHATEVER THE INPUT: true; the input reads as it did. -/
def fnProgressRisesSpec : ChangeSpec := { name := "fnProgressRises", fn := fun _ => fun
  | [d] => { results := [.lit (.bool true)], args := [d] }
  | _ => none }
def fnProgressRisesRow : OpenClaim := { program := "ythahakefmpajfaa", sum := "8a1b7f326d123774db3dfee6395daee1f271e23a039143d941a3f56a45c241ec", func := "loop.example/g03321/laws.FnProgressRises", spec := "fnProgressRises", apart := false }
def FnProgressRisesSaid : Prop := fnProgressRisesRow.holds Try.pinned (OpenSpec.ofChange fnProgressRisesSpec)

/-- ITS FALSE NEIGHBOUR: 'it returns false'. Refute it at one input. -/
def fnProgressRisesWrong : ChangeSpec := { name := "fnProgressRises", fn := fun _ => fun
  | [d] => { results := [.lit (.bool false)], args := [d] }
  | _ => none }
def FnProgressRisesWrongFalsely : Prop := fnProgressRisesRow.holds Try.pinned (OpenSpec.ofChange fnProgressRisesWrong)

/-- 'laws.FnExactCourseOk': WHATEVER THE INPUT: true; the input reads as it did. -/
def fnExactCourseOkSpec : ChangeSpec := { name := "fnExactCourseOk", fn := fun _ => fun
  | [d] => { results := [.lit (.bool true)], args := [d] }
  | _ => none }
def fnExactCourseOkRow : OpenClaim := { program := "ythahakefmpajfaa", sum := "8a1b7f326d123774db3dfee6395daee1f271e23a039143d941a3f56a45c241ec", func := "loop.example/g03321/laws.FnExactCourseOk", spec := "fnExactCourseOk", apart := false }
def FnExactCourseOkSaid : Prop := fnExactCourseOkRow.holds Try.pinned (OpenSpec.ofChange fnExactCourseOkSpec)

/-- ITS FALSE NEIGHBOUR: 'it returns false'. Refute it at one input. -/
def fnExactCourseOkWrong : ChangeSpec := { name := "fnExactCourseOk", fn := fun _ => fun
  | [d] => { results := [.lit (.bool false)], args := [d] }
  | _ => none }
def FnExactCourseOkWrongFalsely : Prop := fnExactCourseOkRow.holds Try.pinned (OpenSpec.ofChange fnExactCourseOkWrong)

/-- 'laws.FnExactPassRay': WHATEVER THE INPUT: true; the input reads as it did. -/
def fnExactPassRaySpec : ChangeSpec := { name := "fnExactPassRay", fn := fun _ => fun
  | [d1, d2, d3, d4] => { results := [.lit (.bool true)], args := [d1, d2, d3, d4] }
  | _ => none }
def fnExactPassRayRow : OpenClaim := { program := "ythahakefmpajfaa", sum := "8a1b7f326d123774db3dfee6395daee1f271e23a039143d941a3f56a45c241ec", func := "loop.example/g03321/laws.FnExactPassRay", spec := "fnExactPassRay", apart := false }
def FnExactPassRaySaid : Prop := fnExactPassRayRow.holds Try.pinned (OpenSpec.ofChange fnExactPassRaySpec)

/-- ITS FALSE NEIGHBOUR: 'it returns false'. Refute it at one input. -/
def fnExactPassRayWrong : ChangeSpec := { name := "fnExactPassRay", fn := fun _ => fun
  | [d1, d2, d3, d4] => { results := [.lit (.bool false)], args := [d1, d2, d3, d4] }
  | _ => none }
def FnExactPassRayWrongFalsely : Prop := fnExactPassRayRow.holds Try.pinned (OpenSpec.ofChange fnExactPassRayWrong)

/-- 'laws.FnExactRoundedAt': WHATEVER THE INPUT: true; the input reads as it did. -/
def fnExactRoundedAtSpec : ChangeSpec := { name := "fnExactRoundedAt", fn := fun _ => fun
  | [d1, d2, d3, d4] => { results := [.lit (.bool true)], args := [d1, d2, d3, d4] }
  | _ => none }
def fnExactRoundedAtRow : OpenClaim := { program := "ythahakefmpajfaa", sum := "8a1b7f326d123774db3dfee6395daee1f271e23a039143d941a3f56a45c241ec", func := "loop.example/g03321/laws.FnExactRoundedAt", spec := "fnExactRoundedAt", apart := false }
def FnExactRoundedAtSaid : Prop := fnExactRoundedAtRow.holds Try.pinned (OpenSpec.ofChange fnExactRoundedAtSpec)

/-- ITS FALSE NEIGHBOUR: 'it returns false'. Refute it at one input. -/
def fnExactRoundedAtWrong : ChangeSpec := { name := "fnExactRoundedAt", fn := fun _ => fun
  | [d1, d2, d3, d4] => { results := [.lit (.bool false)], args := [d1, d2, d3, d4] }
  | _ => none }
def FnExactRoundedAtWrongFalsely : Prop := fnExactRoundedAtRow.holds Try.pinned (OpenSpec.ofChange fnExactRoundedAtWrong)

/-- 'laws.FnExactProgress': WHATEVER THE INPUT: true; the input reads as it did. -/
def fnExactProgressSpec : ChangeSpec := { name := "fnExactProgress", fn := fun _ => fun
  | [d1, d2, d3] => { results := [.lit (.bool true)], args := [d1, d2, d3] }
  | _ => none }
def fnExactProgressRow : OpenClaim := { program := "ythahakefmpajfaa", sum := "8a1b7f326d123774db3dfee6395daee1f271e23a039143d941a3f56a45c241ec", func := "loop.example/g03321/laws.FnExactProgress", spec := "fnExactProgress", apart := false }
def FnExactProgressSaid : Prop := fnExactProgressRow.holds Try.pinned (OpenSpec.ofChange fnExactProgressSpec)

/-- ITS FALSE NEIGHBOUR: 'it returns false'. Refute it at one input. -/
def fnExactProgressWrong : ChangeSpec := { name := "fnExactProgress", fn := fun _ => fun
  | [d1, d2, d3] => { results := [.lit (.bool false)], args := [d1, d2, d3] }
  | _ => none }
def FnExactProgressWrongFalsely : Prop := fnExactProgressRow.holds Try.pinned (OpenSpec.ofChange fnExactProgressWrong)

/-- 'laws.FnExactFinishTime': WHATEVER THE INPUT: true; the input reads as it did. -/
def fnExactFinishTimeSpec : ChangeSpec := { name := "fnExactFinishTime", fn := fun _ => fun
  | [d1, d2, d3] => { results := [.lit (.bool true)], args := [d1, d2, d3] }
  | _ => none }
def fnExactFinishTimeRow : OpenClaim := { program := "ythahakefmpajfaa", sum := "8a1b7f326d123774db3dfee6395daee1f271e23a039143d941a3f56a45c241ec", func := "loop.example/g03321/laws.FnExactFinishTime", spec := "fnExactFinishTime", apart := false }
def FnExactFinishTimeSaid : Prop := fnExactFinishTimeRow.holds Try.pinned (OpenSpec.ofChange fnExactFinishTimeSpec)

/-- ITS FALSE NEIGHBOUR: 'it returns false'. Refute it at one input. -/
def fnExactFinishTimeWrong : ChangeSpec := { name := "fnExactFinishTime", fn := fun _ => fun
  | [d1, d2, d3] => { results := [.lit (.bool false)], args := [d1, d2, d3] }
  | _ => none }
def FnExactFinishTimeWrongFalsely : Prop := fnExactFinishTimeRow.holds Try.pinned (OpenSpec.ofChange fnExactFinishTimeWrong)

/-- 'laws.FnExactRaceTime': WHATEVER THE INPUT: true; the input reads as it did. -/
def fnExactRaceTimeSpec : ChangeSpec := { name := "fnExactRaceTime", fn := fun _ => fun
  | [d1, d2, d3] => { results := [.lit (.bool true)], args := [d1, d2, d3] }
  | _ => none }
def fnExactRaceTimeRow : OpenClaim := { program := "ythahakefmpajfaa", sum := "8a1b7f326d123774db3dfee6395daee1f271e23a039143d941a3f56a45c241ec", func := "loop.example/g03321/laws.FnExactRaceTime", spec := "fnExactRaceTime", apart := false }
def FnExactRaceTimeSaid : Prop := fnExactRaceTimeRow.holds Try.pinned (OpenSpec.ofChange fnExactRaceTimeSpec)

/-- ITS FALSE NEIGHBOUR: 'it returns false'. Refute it at one input. -/
def fnExactRaceTimeWrong : ChangeSpec := { name := "fnExactRaceTime", fn := fun _ => fun
  | [d1, d2, d3] => { results := [.lit (.bool false)], args := [d1, d2, d3] }
  | _ => none }
def FnExactRaceTimeWrongFalsely : Prop := fnExactRaceTimeRow.holds Try.pinned (OpenSpec.ofChange fnExactRaceTimeWrong)

/- THE SECOND FORM. 'bulk': how many values and letters a reading holds, each counted each time it is reached (what is shared counts as often as it is met; a slice's spare places count too). A statement '..UptoSaid' is the law's where the arguments, and the package variables that the reading takes, are together of bulk at most 1048576: NARROWER than '..Said'. Prove '..Said' where nothing that the law and all that it calls make is longer than what came in: it says more and counts as full. Else prove '..UptoSaid'. A law counts once. -/
mutual
def uptoBulk {H : Type} : DataW H → Nat
  | .lit (.string bytes) => bytes.length + 1
  | .lit _ => 1
  | .nil => 1
  | .ptr d => uptoBulk d + 1
  | .slice elems spare => uptoBulkAll elems + uptoBulkAll spare + 1
  | .agg parts => uptoBulkAll parts + 1
  | .iface _ d => uptoBulk d + 1
  | .map entries => uptoBulkEntries entries + 1
  | .held _ => 1
def uptoBulkAll {H : Type} : List (DataW H) → Nat
  | [] => 0
  | d :: r => uptoBulk d + uptoBulkAll r
def uptoBulkEntries {H : Type} : List (Lit × DataW H) → Nat
  | [] => 0
  | x :: r => uptoBulkEntry x + uptoBulkEntries r
def uptoBulkEntry {H : Type} : Lit × DataW H → Nat
  | (.string bytes, d) => bytes.length + uptoBulk d + 1
  | (_, d) => uptoBulk d + 1
 end
def uptoSmall : (H : Type) → List (DataW H) → Bool := fun _ ds => decide (uptoBulkAll ds ≤ 1048576)
def OpenSpec.upto (s : _root_.Go.ChangeSpec) : _root_.Go.OpenSpec := { _root_.Go.OpenSpec.ofChange s with cond := some uptoSmall }

/-- 'laws.FnRayCut', WHERE WHAT IT READS IS OF BULK AT MOST 1048576: true; the input reads as it did. -/
def fnRayCutUptoRow : OpenClaim := { program := "ythahakefmpajfaa", sum := "8a1b7f326d123774db3dfee6395daee1f271e23a039143d941a3f56a45c241ec", func := "loop.example/g03321/laws.FnRayCut", spec := "fnRayCut", apart := false, narrowed := true }
def FnRayCutUptoSaid : Prop := fnRayCutUptoRow.holds Try.pinned (OpenSpec.upto fnRayCutSpec)

/-- 'laws.FnLongerTrack', WHERE WHAT IT READS IS OF BULK AT MOST 1048576: true; the input reads as it did. -/
def fnLongerTrackUptoRow : OpenClaim := { program := "ythahakefmpajfaa", sum := "8a1b7f326d123774db3dfee6395daee1f271e23a039143d941a3f56a45c241ec", func := "loop.example/g03321/laws.FnLongerTrack", spec := "fnLongerTrack", apart := false, narrowed := true }
def FnLongerTrackUptoSaid : Prop := fnLongerTrackUptoRow.holds Try.pinned (OpenSpec.upto fnLongerTrackSpec)

/-- 'laws.FnProgressRises', WHERE WHAT IT READS IS OF BULK AT MOST 1048576: true; the input reads as it did. -/
def fnProgressRisesUptoRow : OpenClaim := { program := "ythahakefmpajfaa", sum := "8a1b7f326d123774db3dfee6395daee1f271e23a039143d941a3f56a45c241ec", func := "loop.example/g03321/laws.FnProgressRises", spec := "fnProgressRises", apart := false, narrowed := true }
def FnProgressRisesUptoSaid : Prop := fnProgressRisesUptoRow.holds Try.pinned (OpenSpec.upto fnProgressRisesSpec)

/-- 'laws.FnExactCourseOk', WHERE WHAT IT READS IS OF BULK AT MOST 1048576: true; the input reads as it did. -/
def fnExactCourseOkUptoRow : OpenClaim := { program := "ythahakefmpajfaa", sum := "8a1b7f326d123774db3dfee6395daee1f271e23a039143d941a3f56a45c241ec", func := "loop.example/g03321/laws.FnExactCourseOk", spec := "fnExactCourseOk", apart := false, narrowed := true }
def FnExactCourseOkUptoSaid : Prop := fnExactCourseOkUptoRow.holds Try.pinned (OpenSpec.upto fnExactCourseOkSpec)

/-- 'laws.FnExactPassRay', WHERE WHAT IT READS IS OF BULK AT MOST 1048576: true; the input reads as it did. -/
def fnExactPassRayUptoRow : OpenClaim := { program := "ythahakefmpajfaa", sum := "8a1b7f326d123774db3dfee6395daee1f271e23a039143d941a3f56a45c241ec", func := "loop.example/g03321/laws.FnExactPassRay", spec := "fnExactPassRay", apart := false, narrowed := true }
def FnExactPassRayUptoSaid : Prop := fnExactPassRayUptoRow.holds Try.pinned (OpenSpec.upto fnExactPassRaySpec)

/-- 'laws.FnExactRoundedAt', WHERE WHAT IT READS IS OF BULK AT MOST 1048576: true; the input reads as it did. -/
def fnExactRoundedAtUptoRow : OpenClaim := { program := "ythahakefmpajfaa", sum := "8a1b7f326d123774db3dfee6395daee1f271e23a039143d941a3f56a45c241ec", func := "loop.example/g03321/laws.FnExactRoundedAt", spec := "fnExactRoundedAt", apart := false, narrowed := true }
def FnExactRoundedAtUptoSaid : Prop := fnExactRoundedAtUptoRow.holds Try.pinned (OpenSpec.upto fnExactRoundedAtSpec)

/-- 'laws.FnExactProgress', WHERE WHAT IT READS IS OF BULK AT MOST 1048576: true; the input reads as it did. -/
def fnExactProgressUptoRow : OpenClaim := { program := "ythahakefmpajfaa", sum := "8a1b7f326d123774db3dfee6395daee1f271e23a039143d941a3f56a45c241ec", func := "loop.example/g03321/laws.FnExactProgress", spec := "fnExactProgress", apart := false, narrowed := true }
def FnExactProgressUptoSaid : Prop := fnExactProgressUptoRow.holds Try.pinned (OpenSpec.upto fnExactProgressSpec)

/-- 'laws.FnExactFinishTime', WHERE WHAT IT READS IS OF BULK AT MOST 1048576: true; the input reads as it did. -/
def fnExactFinishTimeUptoRow : OpenClaim := { program := "ythahakefmpajfaa", sum := "8a1b7f326d123774db3dfee6395daee1f271e23a039143d941a3f56a45c241ec", func := "loop.example/g03321/laws.FnExactFinishTime", spec := "fnExactFinishTime", apart := false, narrowed := true }
def FnExactFinishTimeUptoSaid : Prop := fnExactFinishTimeUptoRow.holds Try.pinned (OpenSpec.upto fnExactFinishTimeSpec)

/-- 'laws.FnExactRaceTime', WHERE WHAT IT READS IS OF BULK AT MOST 1048576: true; the input reads as it did. -/
def fnExactRaceTimeUptoRow : OpenClaim := { program := "ythahakefmpajfaa", sum := "8a1b7f326d123774db3dfee6395daee1f271e23a039143d941a3f56a45c241ec", func := "loop.example/g03321/laws.FnExactRaceTime", spec := "fnExactRaceTime", apart := false, narrowed := true }
def FnExactRaceTimeUptoSaid : Prop := fnExactRaceTimeUptoRow.holds Try.pinned (OpenSpec.upto fnExactRaceTimeSpec)

end Rows
end Go.Proofs.Ythahakefmpajfaa
