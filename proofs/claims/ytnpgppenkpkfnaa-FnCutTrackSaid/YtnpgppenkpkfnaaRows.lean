/-
  No cell of these rows narrows 'for every input' (looked for: loops, veiled, ifaces, maps, wideKeys, modest, calm, conditions, laid).
  DERIVED. THE GIVEN ROWS OF THIS SEAT. 13 by the template 'for every input the law returns true; each argument reads behind the call as it read before'; 0 by the template 'total and deterministic' (their statements: YtnpgppenkpkfnaaTotals.lean).
  GIVEN WITH THE SEED: the statements are not yours to turn. If you find one false, say at which input.
  Laid BY PROGRAM, IN A SANDBOX (cutbox-rows.mjs): the forced cells as the released guide's own fill.sh prints them over the translation d374071c71775e53… (all of the seat's roots in one cut). By AI agents, Wed Nov 11 2026. No macro, syntax, notation, axiom, sorry.
-/
import Derived.Test.YtnpgppenkpkfnaaChecked
import GoSem.Claim
import GoSem.ClaimJoined
import GoSem.ClaimMapViews
import Derived.JoinedTies
import Derived.KernelRfl
namespace Go.Proofs.Ytnpgppenkpkfnaa
/- THE CELL 'sum', in the pinned program and in every row, IS THE sha256 OF THE DUMP (.gsa) THAT YtnpgppenkpkfnaaProg.lean LOADS. Nothing in Lean hashes anything: it is a label: what it is worth is what the hold of that sum in a sandbox is worth. -/
noncomputable def Try.pinned : Pinned := { name := "ytnpgppenkpkfnaa", sum := "d374071c71775e53d07c966830c4025c553ab01d1eeb8fee205c4177585c58f9", checked := Try.checked }
namespace Rows
def none {H : Type} : Left H := { results := [], args := [] }

/-- 'laws.FnCutTrack': WHATEVER THE INPUT: true; the input reads as it did. -/
def fnCutTrackSpec : ChangeSpec := { name := "fnCutTrack", fn := fun _ => fun
  | [d] => { results := [.lit (.bool true)], args := [d] }
  | _ => none }
def fnCutTrackRow : OpenClaim := { program := "ytnpgppenkpkfnaa", sum := "d374071c71775e53d07c966830c4025c553ab01d1eeb8fee205c4177585c58f9", func := "loop.example/g03321/laws.FnCutTrack", spec := "fnCutTrack", apart := false }
def FnCutTrackSaid : Prop := fnCutTrackRow.holds Try.pinned (OpenSpec.ofChange fnCutTrackSpec)

/-- ITS FALSE NEIGHBOUR: 'it returns false'. Refute it at one input. -/
def fnCutTrackWrong : ChangeSpec := { name := "fnCutTrack", fn := fun _ => fun
  | [d] => { results := [.lit (.bool false)], args := [d] }
  | _ => none }
def FnCutTrackWrongFalsely : Prop := fnCutTrackRow.holds Try.pinned (OpenSpec.ofChange fnCutTrackWrong)

/-- 'laws.FnSidesTurn': WHATEVER THE INPUT: true; the input reads as it did. -/
def fnSidesTurnSpec : ChangeSpec := { name := "fnSidesTurn", fn := fun _ => fun
  | [d] => { results := [.lit (.bool true)], args := [d] }
  | _ => none }
def fnSidesTurnRow : OpenClaim := { program := "ytnpgppenkpkfnaa", sum := "d374071c71775e53d07c966830c4025c553ab01d1eeb8fee205c4177585c58f9", func := "loop.example/g03321/laws.FnSidesTurn", spec := "fnSidesTurn", apart := false }
def FnSidesTurnSaid : Prop := fnSidesTurnRow.holds Try.pinned (OpenSpec.ofChange fnSidesTurnSpec)

/-- ITS FALSE NEIGHBOUR: 'it returns false'. Refute it at one input. -/
def fnSidesTurnWrong : ChangeSpec := { name := "fnSidesTurn", fn := fun _ => fun
  | [d] => { results := [.lit (.bool false)], args := [d] }
  | _ => none }
def FnSidesTurnWrongFalsely : Prop := fnSidesTurnRow.holds Try.pinned (OpenSpec.ofChange fnSidesTurnWrong)

/-- 'laws.FnEarlySights': WHATEVER THE INPUT: true; the input reads as it did. -/
def fnEarlySightsSpec : ChangeSpec := { name := "fnEarlySights", fn := fun _ => fun
  | [d] => { results := [.lit (.bool true)], args := [d] }
  | _ => none }
def fnEarlySightsRow : OpenClaim := { program := "ytnpgppenkpkfnaa", sum := "d374071c71775e53d07c966830c4025c553ab01d1eeb8fee205c4177585c58f9", func := "loop.example/g03321/laws.FnEarlySights", spec := "fnEarlySights", apart := false }
def FnEarlySightsSaid : Prop := fnEarlySightsRow.holds Try.pinned (OpenSpec.ofChange fnEarlySightsSpec)

/-- ITS FALSE NEIGHBOUR: 'it returns false'. Refute it at one input. -/
def fnEarlySightsWrong : ChangeSpec := { name := "fnEarlySights", fn := fun _ => fun
  | [d] => { results := [.lit (.bool false)], args := [d] }
  | _ => none }
def FnEarlySightsWrongFalsely : Prop := fnEarlySightsRow.holds Try.pinned (OpenSpec.ofChange fnEarlySightsWrong)

/-- 'laws.FnStartLater': WHATEVER THE INPUT: true; the input reads as it did. -/
def fnStartLaterSpec : ChangeSpec := { name := "fnStartLater", fn := fun _ => fun
  | [d] => { results := [.lit (.bool true)], args := [d] }
  | _ => none }
def fnStartLaterRow : OpenClaim := { program := "ytnpgppenkpkfnaa", sum := "d374071c71775e53d07c966830c4025c553ab01d1eeb8fee205c4177585c58f9", func := "loop.example/g03321/laws.FnStartLater", spec := "fnStartLater", apart := false }
def FnStartLaterSaid : Prop := fnStartLaterRow.holds Try.pinned (OpenSpec.ofChange fnStartLaterSpec)

/-- ITS FALSE NEIGHBOUR: 'it returns false'. Refute it at one input. -/
def fnStartLaterWrong : ChangeSpec := { name := "fnStartLater", fn := fun _ => fun
  | [d] => { results := [.lit (.bool false)], args := [d] }
  | _ => none }
def FnStartLaterWrongFalsely : Prop := fnStartLaterRow.holds Try.pinned (OpenSpec.ofChange fnStartLaterWrong)

/-- 'laws.FnExactPlaceOk': WHATEVER THE INPUT: true; the input reads as it did. -/
def fnExactPlaceOkSpec : ChangeSpec := { name := "fnExactPlaceOk", fn := fun _ => fun
  | [d] => { results := [.lit (.bool true)], args := [d] }
  | _ => none }
def fnExactPlaceOkRow : OpenClaim := { program := "ytnpgppenkpkfnaa", sum := "d374071c71775e53d07c966830c4025c553ab01d1eeb8fee205c4177585c58f9", func := "loop.example/g03321/laws.FnExactPlaceOk", spec := "fnExactPlaceOk", apart := false }
def FnExactPlaceOkSaid : Prop := fnExactPlaceOkRow.holds Try.pinned (OpenSpec.ofChange fnExactPlaceOkSpec)

/-- ITS FALSE NEIGHBOUR: 'it returns false'. Refute it at one input. -/
def fnExactPlaceOkWrong : ChangeSpec := { name := "fnExactPlaceOk", fn := fun _ => fun
  | [d] => { results := [.lit (.bool false)], args := [d] }
  | _ => none }
def FnExactPlaceOkWrongFalsely : Prop := fnExactPlaceOkRow.holds Try.pinned (OpenSpec.ofChange fnExactPlaceOkWrong)

/-- 'laws.FnExactLineOk': WHATEVER THE INPUT: true; the input reads as it did. -/
def fnExactLineOkSpec : ChangeSpec := { name := "fnExactLineOk", fn := fun _ => fun
  | [d] => { results := [.lit (.bool true)], args := [d] }
  | _ => none }
def fnExactLineOkRow : OpenClaim := { program := "ytnpgppenkpkfnaa", sum := "d374071c71775e53d07c966830c4025c553ab01d1eeb8fee205c4177585c58f9", func := "loop.example/g03321/laws.FnExactLineOk", spec := "fnExactLineOk", apart := false }
def FnExactLineOkSaid : Prop := fnExactLineOkRow.holds Try.pinned (OpenSpec.ofChange fnExactLineOkSpec)

/-- ITS FALSE NEIGHBOUR: 'it returns false'. Refute it at one input. -/
def fnExactLineOkWrong : ChangeSpec := { name := "fnExactLineOk", fn := fun _ => fun
  | [d] => { results := [.lit (.bool false)], args := [d] }
  | _ => none }
def FnExactLineOkWrongFalsely : Prop := fnExactLineOkRow.holds Try.pinned (OpenSpec.ofChange fnExactLineOkWrong)

/-- 'laws.FnExactTrackOk': WHATEVER THE INPUT: true; the input reads as it did. -/
def fnExactTrackOkSpec : ChangeSpec := { name := "fnExactTrackOk", fn := fun _ => fun
  | [d] => { results := [.lit (.bool true)], args := [d] }
  | _ => none }
def fnExactTrackOkRow : OpenClaim := { program := "ytnpgppenkpkfnaa", sum := "d374071c71775e53d07c966830c4025c553ab01d1eeb8fee205c4177585c58f9", func := "loop.example/g03321/laws.FnExactTrackOk", spec := "fnExactTrackOk", apart := false }
def FnExactTrackOkSaid : Prop := fnExactTrackOkRow.holds Try.pinned (OpenSpec.ofChange fnExactTrackOkSpec)

/-- ITS FALSE NEIGHBOUR: 'it returns false'. Refute it at one input. -/
def fnExactTrackOkWrong : ChangeSpec := { name := "fnExactTrackOk", fn := fun _ => fun
  | [d] => { results := [.lit (.bool false)], args := [d] }
  | _ => none }
def FnExactTrackOkWrongFalsely : Prop := fnExactTrackOkRow.holds Try.pinned (OpenSpec.ofChange fnExactTrackOkWrong)

/-- 'laws.FnExactSideOf': WHATEVER THE INPUT: true; the input reads as it did. -/
def fnExactSideOfSpec : ChangeSpec := { name := "fnExactSideOf", fn := fun _ => fun
  | [d1, d2] => { results := [.lit (.bool true)], args := [d1, d2] }
  | _ => none }
def fnExactSideOfRow : OpenClaim := { program := "ytnpgppenkpkfnaa", sum := "d374071c71775e53d07c966830c4025c553ab01d1eeb8fee205c4177585c58f9", func := "loop.example/g03321/laws.FnExactSideOf", spec := "fnExactSideOf", apart := false }
def FnExactSideOfSaid : Prop := fnExactSideOfRow.holds Try.pinned (OpenSpec.ofChange fnExactSideOfSpec)

/-- ITS FALSE NEIGHBOUR: 'it returns false'. Refute it at one input. -/
def fnExactSideOfWrong : ChangeSpec := { name := "fnExactSideOf", fn := fun _ => fun
  | [d1, d2] => { results := [.lit (.bool false)], args := [d1, d2] }
  | _ => none }
def FnExactSideOfWrongFalsely : Prop := fnExactSideOfRow.holds Try.pinned (OpenSpec.ofChange fnExactSideOfWrong)

/-- 'laws.FnExactCrossing': WHATEVER THE INPUT: true; the input reads as it did. -/
def fnExactCrossingSpec : ChangeSpec := { name := "fnExactCrossing", fn := fun _ => fun
  | [d1, d2, d3] => { results := [.lit (.bool true)], args := [d1, d2, d3] }
  | _ => none }
def fnExactCrossingRow : OpenClaim := { program := "ytnpgppenkpkfnaa", sum := "d374071c71775e53d07c966830c4025c553ab01d1eeb8fee205c4177585c58f9", func := "loop.example/g03321/laws.FnExactCrossing", spec := "fnExactCrossing", apart := false }
def FnExactCrossingSaid : Prop := fnExactCrossingRow.holds Try.pinned (OpenSpec.ofChange fnExactCrossingSpec)

/-- ITS FALSE NEIGHBOUR: 'it returns false'. Refute it at one input. -/
def fnExactCrossingWrong : ChangeSpec := { name := "fnExactCrossing", fn := fun _ => fun
  | [d1, d2, d3] => { results := [.lit (.bool false)], args := [d1, d2, d3] }
  | _ => none }
def FnExactCrossingWrongFalsely : Prop := fnExactCrossingRow.holds Try.pinned (OpenSpec.ofChange fnExactCrossingWrong)

/-- 'laws.FnExactCrossTime': WHATEVER THE INPUT: true; the input reads as it did. -/
def fnExactCrossTimeSpec : ChangeSpec := { name := "fnExactCrossTime", fn := fun _ => fun
  | [d1, d2, d3] => { results := [.lit (.bool true)], args := [d1, d2, d3] }
  | _ => none }
def fnExactCrossTimeRow : OpenClaim := { program := "ytnpgppenkpkfnaa", sum := "d374071c71775e53d07c966830c4025c553ab01d1eeb8fee205c4177585c58f9", func := "loop.example/g03321/laws.FnExactCrossTime", spec := "fnExactCrossTime", apart := false }
def FnExactCrossTimeSaid : Prop := fnExactCrossTimeRow.holds Try.pinned (OpenSpec.ofChange fnExactCrossTimeSpec)

/-- ITS FALSE NEIGHBOUR: 'it returns false'. Refute it at one input. -/
def fnExactCrossTimeWrong : ChangeSpec := { name := "fnExactCrossTime", fn := fun _ => fun
  | [d1, d2, d3] => { results := [.lit (.bool false)], args := [d1, d2, d3] }
  | _ => none }
def FnExactCrossTimeWrongFalsely : Prop := fnExactCrossTimeRow.holds Try.pinned (OpenSpec.ofChange fnExactCrossTimeWrong)

/-- 'laws.FnExactStartTime': WHATEVER THE INPUT: true; the input reads as it did. -/
def fnExactStartTimeSpec : ChangeSpec := { name := "fnExactStartTime", fn := fun _ => fun
  | [d1, d2, d3] => { results := [.lit (.bool true)], args := [d1, d2, d3] }
  | _ => none }
def fnExactStartTimeRow : OpenClaim := { program := "ytnpgppenkpkfnaa", sum := "d374071c71775e53d07c966830c4025c553ab01d1eeb8fee205c4177585c58f9", func := "loop.example/g03321/laws.FnExactStartTime", spec := "fnExactStartTime", apart := false }
def FnExactStartTimeSaid : Prop := fnExactStartTimeRow.holds Try.pinned (OpenSpec.ofChange fnExactStartTimeSpec)

/-- ITS FALSE NEIGHBOUR: 'it returns false'. Refute it at one input. -/
def fnExactStartTimeWrong : ChangeSpec := { name := "fnExactStartTime", fn := fun _ => fun
  | [d1, d2, d3] => { results := [.lit (.bool false)], args := [d1, d2, d3] }
  | _ => none }
def FnExactStartTimeWrongFalsely : Prop := fnExactStartTimeRow.holds Try.pinned (OpenSpec.ofChange fnExactStartTimeWrong)

/-- 'laws.FnExactEarlyAt': WHATEVER THE INPUT: true; the input reads as it did. -/
def fnExactEarlyAtSpec : ChangeSpec := { name := "fnExactEarlyAt", fn := fun _ => fun
  | [d1, d2, d3] => { results := [.lit (.bool true)], args := [d1, d2, d3] }
  | _ => none }
def fnExactEarlyAtRow : OpenClaim := { program := "ytnpgppenkpkfnaa", sum := "d374071c71775e53d07c966830c4025c553ab01d1eeb8fee205c4177585c58f9", func := "loop.example/g03321/laws.FnExactEarlyAt", spec := "fnExactEarlyAt", apart := false }
def FnExactEarlyAtSaid : Prop := fnExactEarlyAtRow.holds Try.pinned (OpenSpec.ofChange fnExactEarlyAtSpec)

/-- ITS FALSE NEIGHBOUR: 'it returns false'. Refute it at one input. -/
def fnExactEarlyAtWrong : ChangeSpec := { name := "fnExactEarlyAt", fn := fun _ => fun
  | [d1, d2, d3] => { results := [.lit (.bool false)], args := [d1, d2, d3] }
  | _ => none }
def FnExactEarlyAtWrongFalsely : Prop := fnExactEarlyAtRow.holds Try.pinned (OpenSpec.ofChange fnExactEarlyAtWrong)

/-- 'laws.FnExactFavoured': WHATEVER THE INPUT: true; the input reads as it did. -/
def fnExactFavouredSpec : ChangeSpec := { name := "fnExactFavoured", fn := fun _ => fun
  | [d1, d2] => { results := [.lit (.bool true)], args := [d1, d2] }
  | _ => none }
def fnExactFavouredRow : OpenClaim := { program := "ytnpgppenkpkfnaa", sum := "d374071c71775e53d07c966830c4025c553ab01d1eeb8fee205c4177585c58f9", func := "loop.example/g03321/laws.FnExactFavoured", spec := "fnExactFavoured", apart := false }
def FnExactFavouredSaid : Prop := fnExactFavouredRow.holds Try.pinned (OpenSpec.ofChange fnExactFavouredSpec)

/-- ITS FALSE NEIGHBOUR: 'it returns false'. Refute it at one input. -/
def fnExactFavouredWrong : ChangeSpec := { name := "fnExactFavoured", fn := fun _ => fun
  | [d1, d2] => { results := [.lit (.bool false)], args := [d1, d2] }
  | _ => none }
def FnExactFavouredWrongFalsely : Prop := fnExactFavouredRow.holds Try.pinned (OpenSpec.ofChange fnExactFavouredWrong)

/- THE SECOND FORM. 'bulk': how many values and letters a reading holds, each counted each time it is reached (what is shared counts as often as it is met; a slice's spare places count too). A statement '..UptoSaid' is the law's where the arguments, and the package variables that the reading takes, are together of bulk at most 1048576: NARROWER than '..Said'. Prove '..Said' where nothing that the law and all that it calls make is longer than what came in: it says more and counts as full. Else prove '..UptoSaid'. A law counts once. -/
mutual
def uptoBulk {H : Type} : DataW H → Nat
  | .lit (.string bytes) => bytes.length + 1
  | .lit _ => 1
  | .nil => 1
  | .ptr d => uptoBulk d + 1
  | .slice elems spare => uptoBulkAll elems + uptoBulkAll spare + 1
  | .agg parts => uptoBulkAll parts + 1
  | .iface _ d => uptoBulk d + 1
  | .map entries => uptoBulkEntries entries + 1
  | .held _ => 1
def uptoBulkAll {H : Type} : List (DataW H) → Nat
  | [] => 0
  | d :: r => uptoBulk d + uptoBulkAll r
def uptoBulkEntries {H : Type} : List (Lit × DataW H) → Nat
  | [] => 0
  | x :: r => uptoBulkEntry x + uptoBulkEntries r
def uptoBulkEntry {H : Type} : Lit × DataW H → Nat
  | (.string bytes, d) => bytes.length + uptoBulk d + 1
  | (_, d) => uptoBulk d + 1
 end
def uptoSmall : (H : Type) → List (DataW H) → Bool := fun _ ds => decide (uptoBulkAll ds ≤ 1048576)
def OpenSpec.upto (s : _root_.Go.ChangeSpec) : _root_.Go.OpenSpec := { _root_.Go.OpenSpec.ofChange s with cond := some uptoSmall }

/-- 'laws.FnCutTrack', WHERE WHAT IT READS IS OF BULK AT MOST 1048576: true; the input reads as it did. -/
def fnCutTrackUptoRow : OpenClaim := { program := "ytnpgppenkpkfnaa", sum := "d374071c71775e53d07c966830c4025c553ab01d1eeb8fee205c4177585c58f9", func := "loop.example/g03321/laws.FnCutTrack", spec := "fnCutTrack", apart := false, narrowed := true }
def FnCutTrackUptoSaid : Prop := fnCutTrackUptoRow.holds Try.pinned (OpenSpec.upto fnCutTrackSpec)

/-- 'laws.FnSidesTurn', WHERE WHAT IT READS IS OF BULK AT MOST 1048576: true; the input reads as it did. -/
def fnSidesTurnUptoRow : OpenClaim := { program := "ytnpgppenkpkfnaa", sum := "d374071c71775e53d07c966830c4025c553ab01d1eeb8fee205c4177585c58f9", func := "loop.example/g03321/laws.FnSidesTurn", spec := "fnSidesTurn", apart := false, narrowed := true }
def FnSidesTurnUptoSaid : Prop := fnSidesTurnUptoRow.holds Try.pinned (OpenSpec.upto fnSidesTurnSpec)

/-- 'laws.FnEarlySights', WHERE WHAT IT READS IS OF BULK AT MOST 1048576: true; the input reads as it did. -/
def fnEarlySightsUptoRow : OpenClaim := { program := "ytnpgppenkpkfnaa", sum := "d374071c71775e53d07c966830c4025c553ab01d1eeb8fee205c4177585c58f9", func := "loop.example/g03321/laws.FnEarlySights", spec := "fnEarlySights", apart := false, narrowed := true }
def FnEarlySightsUptoSaid : Prop := fnEarlySightsUptoRow.holds Try.pinned (OpenSpec.upto fnEarlySightsSpec)

/-- 'laws.FnStartLater', WHERE WHAT IT READS IS OF BULK AT MOST 1048576: true; the input reads as it did. -/
def fnStartLaterUptoRow : OpenClaim := { program := "ytnpgppenkpkfnaa", sum := "d374071c71775e53d07c966830c4025c553ab01d1eeb8fee205c4177585c58f9", func := "loop.example/g03321/laws.FnStartLater", spec := "fnStartLater", apart := false, narrowed := true }
def FnStartLaterUptoSaid : Prop := fnStartLaterUptoRow.holds Try.pinned (OpenSpec.upto fnStartLaterSpec)

/-- 'laws.FnExactPlaceOk', WHERE WHAT IT READS IS OF BULK AT MOST 1048576: true; the input reads as it did. -/
def fnExactPlaceOkUptoRow : OpenClaim := { program := "ytnpgppenkpkfnaa", sum := "d374071c71775e53d07c966830c4025c553ab01d1eeb8fee205c4177585c58f9", func := "loop.example/g03321/laws.FnExactPlaceOk", spec := "fnExactPlaceOk", apart := false, narrowed := true }
def FnExactPlaceOkUptoSaid : Prop := fnExactPlaceOkUptoRow.holds Try.pinned (OpenSpec.upto fnExactPlaceOkSpec)

/-- 'laws.FnExactLineOk', WHERE WHAT IT READS IS OF BULK AT MOST 1048576: true; the input reads as it did. -/
def fnExactLineOkUptoRow : OpenClaim := { program := "ytnpgppenkpkfnaa", sum := "d374071c71775e53d07c966830c4025c553ab01d1eeb8fee205c4177585c58f9", func := "loop.example/g03321/laws.FnExactLineOk", spec := "fnExactLineOk", apart := false, narrowed := true }
def FnExactLineOkUptoSaid : Prop := fnExactLineOkUptoRow.holds Try.pinned (OpenSpec.upto fnExactLineOkSpec)

/-- 'laws.FnExactTrackOk', WHERE WHAT IT READS IS OF BULK AT MOST 1048576: true; the input reads as it did. -/
def fnExactTrackOkUptoRow : OpenClaim := { program := "ytnpgppenkpkfnaa", sum := "d374071c71775e53d07c966830c4025c553ab01d1eeb8fee205c4177585c58f9", func := "loop.example/g03321/laws.FnExactTrackOk", spec := "fnExactTrackOk", apart := false, narrowed := true }
def FnExactTrackOkUptoSaid : Prop := fnExactTrackOkUptoRow.holds Try.pinned (OpenSpec.upto fnExactTrackOkSpec)

/-- 'laws.FnExactSideOf', WHERE WHAT IT READS IS OF BULK AT MOST 1048576: true; the input reads as it did. -/
def fnExactSideOfUptoRow : OpenClaim := { program := "ytnpgppenkpkfnaa", sum := "d374071c71775e53d07c966830c4025c553ab01d1eeb8fee205c4177585c58f9", func := "loop.example/g03321/laws.FnExactSideOf", spec := "fnExactSideOf", apart := false, narrowed := true }
def FnExactSideOfUptoSaid : Prop := fnExactSideOfUptoRow.holds Try.pinned (OpenSpec.upto fnExactSideOfSpec)

/-- 'laws.FnExactCrossing', WHERE WHAT IT READS IS OF BULK AT MOST 1048576: true; the input reads as it did. -/
def fnExactCrossingUptoRow : OpenClaim := { program := "ytnpgppenkpkfnaa", sum := "d374071c71775e53d07c966830c4025c553ab01d1eeb8fee205c4177585c58f9", func := "loop.example/g03321/laws.FnExactCrossing", spec := "fnExactCrossing", apart := false, narrowed := true }
def FnExactCrossingUptoSaid : Prop := fnExactCrossingUptoRow.holds Try.pinned (OpenSpec.upto fnExactCrossingSpec)

/-- 'laws.FnExactCrossTime', WHERE WHAT IT READS IS OF BULK AT MOST 1048576: true; the input reads as it did. -/
def fnExactCrossTimeUptoRow : OpenClaim := { program := "ytnpgppenkpkfnaa", sum := "d374071c71775e53d07c966830c4025c553ab01d1eeb8fee205c4177585c58f9", func := "loop.example/g03321/laws.FnExactCrossTime", spec := "fnExactCrossTime", apart := false, narrowed := true }
def FnExactCrossTimeUptoSaid : Prop := fnExactCrossTimeUptoRow.holds Try.pinned (OpenSpec.upto fnExactCrossTimeSpec)

/-- 'laws.FnExactStartTime', WHERE WHAT IT READS IS OF BULK AT MOST 1048576: true; the input reads as it did. -/
def fnExactStartTimeUptoRow : OpenClaim := { program := "ytnpgppenkpkfnaa", sum := "d374071c71775e53d07c966830c4025c553ab01d1eeb8fee205c4177585c58f9", func := "loop.example/g03321/laws.FnExactStartTime", spec := "fnExactStartTime", apart := false, narrowed := true }
def FnExactStartTimeUptoSaid : Prop := fnExactStartTimeUptoRow.holds Try.pinned (OpenSpec.upto fnExactStartTimeSpec)

/-- 'laws.FnExactEarlyAt', WHERE WHAT IT READS IS OF BULK AT MOST 1048576: true; the input reads as it did. -/
def fnExactEarlyAtUptoRow : OpenClaim := { program := "ytnpgppenkpkfnaa", sum := "d374071c71775e53d07c966830c4025c553ab01d1eeb8fee205c4177585c58f9", func := "loop.example/g03321/laws.FnExactEarlyAt", spec := "fnExactEarlyAt", apart := false, narrowed := true }
def FnExactEarlyAtUptoSaid : Prop := fnExactEarlyAtUptoRow.holds Try.pinned (OpenSpec.upto fnExactEarlyAtSpec)

/-- 'laws.FnExactFavoured', WHERE WHAT IT READS IS OF BULK AT MOST 1048576: true; the input reads as it did. -/
def fnExactFavouredUptoRow : OpenClaim := { program := "ytnpgppenkpkfnaa", sum := "d374071c71775e53d07c966830c4025c553ab01d1eeb8fee205c4177585c58f9", func := "loop.example/g03321/laws.FnExactFavoured", spec := "fnExactFavoured", apart := false, narrowed := true }
def FnExactFavouredUptoSaid : Prop := fnExactFavouredUptoRow.holds Try.pinned (OpenSpec.upto fnExactFavouredSpec)

end Rows
end Go.Proofs.Ytnpgppenkpkfnaa
