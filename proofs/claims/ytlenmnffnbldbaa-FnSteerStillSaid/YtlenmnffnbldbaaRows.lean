/-
  No cell of these rows narrows 'for every input' (looked for: loops, veiled, ifaces, maps, wideKeys, modest, calm, conditions, laid).
  DERIVED. THE GIVEN ROWS OF THIS SEAT. 9 by the template 'for every input the law returns true; each argument reads behind the call as it read before'; 0 by the template 'total and deterministic' (their statements: YtlenmnffnbldbaaTotals.lean).
  GIVEN WITH THE SEED: the statements are not yours to turn. If you find one false, say at which input.
  Laid BY PROGRAM, IN A SANDBOX (cutbox-rows.mjs): the forced cells as the released guide's own fill.sh prints them over the translation 00d9e79109434957… (all of the seat's roots in one cut). By AI agents, Wed Nov 11 2026. No macro, syntax, notation, axiom, sorry.
-/
import Derived.Test.YtlenmnffnbldbaaChecked
import GoSem.Claim
import GoSem.ClaimJoined
import GoSem.ClaimMapViews
import Derived.JoinedTies
import Derived.KernelRfl
namespace Go.Proofs.Ytlenmnffnbldbaa
/- THE CELL 'sum', in the pinned program and in every row, IS THE sha256 OF THE DUMP (.gsa) THAT YtlenmnffnbldbaaProg.lean LOADS. Nothing in Lean hashes anything: it is a label: what it is worth is what the hold of that sum in a sandbox is worth. -/
noncomputable def Try.pinned : Pinned := { name := "ytlenmnffnbldbaa", sum := "00d9e79109434957880c712160ac4cc34cb4de0b5affd6ce59833cbc0c03b576", checked := Try.checked }
namespace Rows
def none {H : Type} : Left H := { results := [], args := [] }

/-- 'laws.FnSteerStill': WHATEVER THE INPUT: true; the input reads as it did. -/
def fnSteerStillSpec : ChangeSpec := { name := "fnSteerStill", fn := fun _ => fun
  | [d] => { results := [.lit (.bool true)], args := [d] }
  | _ => none }
def fnSteerStillRow : OpenClaim := { program := "ytlenmnffnbldbaa", sum := "00d9e79109434957880c712160ac4cc34cb4de0b5affd6ce59833cbc0c03b576", func := "loop.example/g03321/laws.FnSteerStill", spec := "fnSteerStill", inPlace := ["math.Float64bits", "math.Float64frombits"], unfollowed := true, recurses := true, apart := false }
def FnSteerStillSaid : Prop := fnSteerStillRow.holds Try.pinned (OpenSpec.ofChange fnSteerStillSpec)

/-- ITS FALSE NEIGHBOUR: 'it returns false'. Refute it at one input. -/
def fnSteerStillWrong : ChangeSpec := { name := "fnSteerStill", fn := fun _ => fun
  | [d] => { results := [.lit (.bool false)], args := [d] }
  | _ => none }
def FnSteerStillWrongFalsely : Prop := fnSteerStillRow.holds Try.pinned (OpenSpec.ofChange fnSteerStillWrong)

/-- 'laws.FnSteerLeast': WHATEVER THE INPUT: true; the input reads as it did. -/
def fnSteerLeastSpec : ChangeSpec := { name := "fnSteerLeast", fn := fun _ => fun
  | [d] => { results := [.lit (.bool true)], args := [d] }
  | _ => none }
def fnSteerLeastRow : OpenClaim := { program := "ytlenmnffnbldbaa", sum := "00d9e79109434957880c712160ac4cc34cb4de0b5affd6ce59833cbc0c03b576", func := "loop.example/g03321/laws.FnSteerLeast", spec := "fnSteerLeast", inPlace := ["math.Float64bits", "math.Float64frombits"], unfollowed := true, recurses := true, apart := false }
def FnSteerLeastSaid : Prop := fnSteerLeastRow.holds Try.pinned (OpenSpec.ofChange fnSteerLeastSpec)

/-- ITS FALSE NEIGHBOUR: 'it returns false'. Refute it at one input. -/
def fnSteerLeastWrong : ChangeSpec := { name := "fnSteerLeast", fn := fun _ => fun
  | [d] => { results := [.lit (.bool false)], args := [d] }
  | _ => none }
def FnSteerLeastWrongFalsely : Prop := fnSteerLeastRow.holds Try.pinned (OpenSpec.ofChange fnSteerLeastWrong)

/-- 'laws.FnLeeward': WHATEVER THE INPUT: true; the input reads as it did. -/
def fnLeewardSpec : ChangeSpec := { name := "fnLeeward", fn := fun _ => fun
  | [d] => { results := [.lit (.bool true)], args := [d] }
  | _ => none }
def fnLeewardRow : OpenClaim := { program := "ytlenmnffnbldbaa", sum := "00d9e79109434957880c712160ac4cc34cb4de0b5affd6ce59833cbc0c03b576", func := "loop.example/g03321/laws.FnLeeward", spec := "fnLeeward", apart := false }
def FnLeewardSaid : Prop := fnLeewardRow.holds Try.pinned (OpenSpec.ofChange fnLeewardSpec)

/-- ITS FALSE NEIGHBOUR: 'it returns false'. Refute it at one input. -/
def fnLeewardWrong : ChangeSpec := { name := "fnLeeward", fn := fun _ => fun
  | [d] => { results := [.lit (.bool false)], args := [d] }
  | _ => none }
def FnLeewardWrongFalsely : Prop := fnLeewardRow.holds Try.pinned (OpenSpec.ofChange fnLeewardWrong)

/-- 'laws.FnSecondsGrow': WHATEVER THE INPUT: true; the input reads as it did. -/
def fnSecondsGrowSpec : ChangeSpec := { name := "fnSecondsGrow", fn := fun _ => fun
  | [d] => { results := [.lit (.bool true)], args := [d] }
  | _ => none }
def fnSecondsGrowRow : OpenClaim := { program := "ytlenmnffnbldbaa", sum := "00d9e79109434957880c712160ac4cc34cb4de0b5affd6ce59833cbc0c03b576", func := "loop.example/g03321/laws.FnSecondsGrow", spec := "fnSecondsGrow", inPlace := ["math.archCeil", "math.archFloor", "math.Float64bits", "math.Float64frombits", "math.archTrunc"], apart := false }
def FnSecondsGrowSaid : Prop := fnSecondsGrowRow.holds Try.pinned (OpenSpec.ofChange fnSecondsGrowSpec)

/-- ITS FALSE NEIGHBOUR: 'it returns false'. Refute it at one input. -/
def fnSecondsGrowWrong : ChangeSpec := { name := "fnSecondsGrow", fn := fun _ => fun
  | [d] => { results := [.lit (.bool false)], args := [d] }
  | _ => none }
def FnSecondsGrowWrongFalsely : Prop := fnSecondsGrowRow.holds Try.pinned (OpenSpec.ofChange fnSecondsGrowWrong)

/-- 'laws.FnPassageAlong': WHATEVER THE INPUT: true; the input reads as it did. -/
def fnPassageAlongSpec : ChangeSpec := { name := "fnPassageAlong", fn := fun _ => fun
  | [d] => { results := [.lit (.bool true)], args := [d] }
  | _ => none }
def fnPassageAlongRow : OpenClaim := { program := "ytlenmnffnbldbaa", sum := "00d9e79109434957880c712160ac4cc34cb4de0b5affd6ce59833cbc0c03b576", func := "loop.example/g03321/laws.FnPassageAlong", spec := "fnPassageAlong", inPlace := ["math.Float64bits", "math.Float64frombits", "math.archCeil", "math.archFloor", "math.archTrunc"], unfollowed := true, recurses := true, apart := false }
def FnPassageAlongSaid : Prop := fnPassageAlongRow.holds Try.pinned (OpenSpec.ofChange fnPassageAlongSpec)

/-- ITS FALSE NEIGHBOUR: 'it returns false'. Refute it at one input. -/
def fnPassageAlongWrong : ChangeSpec := { name := "fnPassageAlong", fn := fun _ => fun
  | [d] => { results := [.lit (.bool false)], args := [d] }
  | _ => none }
def FnPassageAlongWrongFalsely : Prop := fnPassageAlongRow.holds Try.pinned (OpenSpec.ofChange fnPassageAlongWrong)

/-- 'laws.FnExactVelocity': WHATEVER THE INPUT: true; the input reads as it did. -/
def fnExactVelocitySpec : ChangeSpec := { name := "fnExactVelocity", fn := fun _ => fun
  | [d1, d2] => { results := [.lit (.bool true)], args := [d1, d2] }
  | _ => none }
def fnExactVelocityRow : OpenClaim := { program := "ytlenmnffnbldbaa", sum := "00d9e79109434957880c712160ac4cc34cb4de0b5affd6ce59833cbc0c03b576", func := "loop.example/g03321/laws.FnExactVelocity", spec := "fnExactVelocity", apart := false }
def FnExactVelocitySaid : Prop := fnExactVelocityRow.holds Try.pinned (OpenSpec.ofChange fnExactVelocitySpec)

/-- ITS FALSE NEIGHBOUR: 'it returns false'. Refute it at one input. -/
def fnExactVelocityWrong : ChangeSpec := { name := "fnExactVelocity", fn := fun _ => fun
  | [d1, d2] => { results := [.lit (.bool false)], args := [d1, d2] }
  | _ => none }
def FnExactVelocityWrongFalsely : Prop := fnExactVelocityRow.holds Try.pinned (OpenSpec.ofChange fnExactVelocityWrong)

/-- 'laws.FnExactWindSide': WHATEVER THE INPUT: true; the input reads as it did. -/
def fnExactWindSideSpec : ChangeSpec := { name := "fnExactWindSide", fn := fun _ => fun
  | [d1, d2] => { results := [.lit (.bool true)], args := [d1, d2] }
  | _ => none }
def fnExactWindSideRow : OpenClaim := { program := "ytlenmnffnbldbaa", sum := "00d9e79109434957880c712160ac4cc34cb4de0b5affd6ce59833cbc0c03b576", func := "loop.example/g03321/laws.FnExactWindSide", spec := "fnExactWindSide", apart := false }
def FnExactWindSideSaid : Prop := fnExactWindSideRow.holds Try.pinned (OpenSpec.ofChange fnExactWindSideSpec)

/-- ITS FALSE NEIGHBOUR: 'it returns false'. Refute it at one input. -/
def fnExactWindSideWrong : ChangeSpec := { name := "fnExactWindSide", fn := fun _ => fun
  | [d1, d2] => { results := [.lit (.bool false)], args := [d1, d2] }
  | _ => none }
def FnExactWindSideWrongFalsely : Prop := fnExactWindSideRow.holds Try.pinned (OpenSpec.ofChange fnExactWindSideWrong)

/-- 'laws.FnExactLeeway': WHATEVER THE INPUT: true; the input reads as it did. -/
def fnExactLeewaySpec : ChangeSpec := { name := "fnExactLeeway", fn := fun _ => fun
  | [d1, d2, d3] => { results := [.lit (.bool true)], args := [d1, d2, d3] }
  | _ => none }
def fnExactLeewayRow : OpenClaim := { program := "ytlenmnffnbldbaa", sum := "00d9e79109434957880c712160ac4cc34cb4de0b5affd6ce59833cbc0c03b576", func := "loop.example/g03321/laws.FnExactLeeway", spec := "fnExactLeeway", apart := false }
def FnExactLeewaySaid : Prop := fnExactLeewayRow.holds Try.pinned (OpenSpec.ofChange fnExactLeewaySpec)

/-- ITS FALSE NEIGHBOUR: 'it returns false'. Refute it at one input. -/
def fnExactLeewayWrong : ChangeSpec := { name := "fnExactLeeway", fn := fun _ => fun
  | [d1, d2, d3] => { results := [.lit (.bool false)], args := [d1, d2, d3] }
  | _ => none }
def FnExactLeewayWrongFalsely : Prop := fnExactLeewayRow.holds Try.pinned (OpenSpec.ofChange fnExactLeewayWrong)

/-- 'laws.FnExactSecondsFor': WHATEVER THE INPUT: true; the input reads as it did. -/
def fnExactSecondsForSpec : ChangeSpec := { name := "fnExactSecondsFor", fn := fun _ => fun
  | [d1, d2] => { results := [.lit (.bool true)], args := [d1, d2] }
  | _ => none }
def fnExactSecondsForRow : OpenClaim := { program := "ytlenmnffnbldbaa", sum := "00d9e79109434957880c712160ac4cc34cb4de0b5affd6ce59833cbc0c03b576", func := "loop.example/g03321/laws.FnExactSecondsFor", spec := "fnExactSecondsFor", inPlace := ["math.archCeil", "math.archFloor", "math.Float64bits", "math.Float64frombits", "math.archTrunc"], apart := false }
def FnExactSecondsForSaid : Prop := fnExactSecondsForRow.holds Try.pinned (OpenSpec.ofChange fnExactSecondsForSpec)

/-- ITS FALSE NEIGHBOUR: 'it returns false'. Refute it at one input. -/
def fnExactSecondsForWrong : ChangeSpec := { name := "fnExactSecondsFor", fn := fun _ => fun
  | [d1, d2] => { results := [.lit (.bool false)], args := [d1, d2] }
  | _ => none }
def FnExactSecondsForWrongFalsely : Prop := fnExactSecondsForRow.holds Try.pinned (OpenSpec.ofChange fnExactSecondsForWrong)

/- THE SECOND FORM. 'bulk': how many values and letters a reading holds, each counted each time it is reached (what is shared counts as often as it is met; a slice's spare places count too). A statement '..UptoSaid' is the law's where the arguments, and the package variables that the reading takes, are together of bulk at most 1048576: NARROWER than '..Said'. Prove '..Said' where nothing that the law and all that it calls make is longer than what came in: it says more and counts as full. Else prove '..UptoSaid'. A law counts once. -/
mutual
def uptoBulk {H : Type} : DataW H → Nat
  | .lit (.string bytes) => bytes.length + 1
  | .lit _ => 1
  | .nil => 1
  | .ptr d => uptoBulk d + 1
  | .slice elems spare => uptoBulkAll elems + uptoBulkAll spare + 1
  | .agg parts => uptoBulkAll parts + 1
  | .iface _ d => uptoBulk d + 1
  | .map entries => uptoBulkEntries entries + 1
  | .held _ => 1
def uptoBulkAll {H : Type} : List (DataW H) → Nat
  | [] => 0
  | d :: r => uptoBulk d + uptoBulkAll r
def uptoBulkEntries {H : Type} : List (Lit × DataW H) → Nat
  | [] => 0
  | x :: r => uptoBulkEntry x + uptoBulkEntries r
def uptoBulkEntry {H : Type} : Lit × DataW H → Nat
  | (.string bytes, d) => bytes.length + uptoBulk d + 1
  | (_, d) => uptoBulk d + 1
 end
def uptoSmall : (H : Type) → List (DataW H) → Bool := fun _ ds => decide (uptoBulkAll ds ≤ 1048576)
def OpenSpec.upto (s : _root_.Go.ChangeSpec) : _root_.Go.OpenSpec := { _root_.Go.OpenSpec.ofChange s with cond := some uptoSmall }

/-- 'laws.FnSteerStill', WHERE WHAT IT READS IS OF BULK AT MOST 1048576: true; the input reads as it did. -/
def fnSteerStillUptoRow : OpenClaim := { program := "ytlenmnffnbldbaa", sum := "00d9e79109434957880c712160ac4cc34cb4de0b5affd6ce59833cbc0c03b576", func := "loop.example/g03321/laws.FnSteerStill", spec := "fnSteerStill", inPlace := ["math.Float64bits", "math.Float64frombits"], unfollowed := true, recurses := true, apart := false, narrowed := true }
def FnSteerStillUptoSaid : Prop := fnSteerStillUptoRow.holds Try.pinned (OpenSpec.upto fnSteerStillSpec)

/-- 'laws.FnSteerLeast', WHERE WHAT IT READS IS OF BULK AT MOST 1048576: true; the input reads as it did. -/
def fnSteerLeastUptoRow : OpenClaim := { program := "ytlenmnffnbldbaa", sum := "00d9e79109434957880c712160ac4cc34cb4de0b5affd6ce59833cbc0c03b576", func := "loop.example/g03321/laws.FnSteerLeast", spec := "fnSteerLeast", inPlace := ["math.Float64bits", "math.Float64frombits"], unfollowed := true, recurses := true, apart := false, narrowed := true }
def FnSteerLeastUptoSaid : Prop := fnSteerLeastUptoRow.holds Try.pinned (OpenSpec.upto fnSteerLeastSpec)

/-- 'laws.FnLeeward', WHERE WHAT IT READS IS OF BULK AT MOST 1048576: true; the input reads as it did. -/
def fnLeewardUptoRow : OpenClaim := { program := "ytlenmnffnbldbaa", sum := "00d9e79109434957880c712160ac4cc34cb4de0b5affd6ce59833cbc0c03b576", func := "loop.example/g03321/laws.FnLeeward", spec := "fnLeeward", apart := false, narrowed := true }
def FnLeewardUptoSaid : Prop := fnLeewardUptoRow.holds Try.pinned (OpenSpec.upto fnLeewardSpec)

/-- 'laws.FnSecondsGrow', WHERE WHAT IT READS IS OF BULK AT MOST 1048576: true; the input reads as it did. -/
def fnSecondsGrowUptoRow : OpenClaim := { program := "ytlenmnffnbldbaa", sum := "00d9e79109434957880c712160ac4cc34cb4de0b5affd6ce59833cbc0c03b576", func := "loop.example/g03321/laws.FnSecondsGrow", spec := "fnSecondsGrow", inPlace := ["math.archCeil", "math.archFloor", "math.Float64bits", "math.Float64frombits", "math.archTrunc"], apart := false, narrowed := true }
def FnSecondsGrowUptoSaid : Prop := fnSecondsGrowUptoRow.holds Try.pinned (OpenSpec.upto fnSecondsGrowSpec)

/-- 'laws.FnPassageAlong', WHERE WHAT IT READS IS OF BULK AT MOST 1048576: true; the input reads as it did. -/
def fnPassageAlongUptoRow : OpenClaim := { program := "ytlenmnffnbldbaa", sum := "00d9e79109434957880c712160ac4cc34cb4de0b5affd6ce59833cbc0c03b576", func := "loop.example/g03321/laws.FnPassageAlong", spec := "fnPassageAlong", inPlace := ["math.Float64bits", "math.Float64frombits", "math.archCeil", "math.archFloor", "math.archTrunc"], unfollowed := true, recurses := true, apart := false, narrowed := true }
def FnPassageAlongUptoSaid : Prop := fnPassageAlongUptoRow.holds Try.pinned (OpenSpec.upto fnPassageAlongSpec)

/-- 'laws.FnExactVelocity', WHERE WHAT IT READS IS OF BULK AT MOST 1048576: true; the input reads as it did. -/
def fnExactVelocityUptoRow : OpenClaim := { program := "ytlenmnffnbldbaa", sum := "00d9e79109434957880c712160ac4cc34cb4de0b5affd6ce59833cbc0c03b576", func := "loop.example/g03321/laws.FnExactVelocity", spec := "fnExactVelocity", apart := false, narrowed := true }
def FnExactVelocityUptoSaid : Prop := fnExactVelocityUptoRow.holds Try.pinned (OpenSpec.upto fnExactVelocitySpec)

/-- 'laws.FnExactWindSide', WHERE WHAT IT READS IS OF BULK AT MOST 1048576: true; the input reads as it did. -/
def fnExactWindSideUptoRow : OpenClaim := { program := "ytlenmnffnbldbaa", sum := "00d9e79109434957880c712160ac4cc34cb4de0b5affd6ce59833cbc0c03b576", func := "loop.example/g03321/laws.FnExactWindSide", spec := "fnExactWindSide", apart := false, narrowed := true }
def FnExactWindSideUptoSaid : Prop := fnExactWindSideUptoRow.holds Try.pinned (OpenSpec.upto fnExactWindSideSpec)

/-- 'laws.FnExactLeeway', WHERE WHAT IT READS IS OF BULK AT MOST 1048576: true; the input reads as it did. -/
def fnExactLeewayUptoRow : OpenClaim := { program := "ytlenmnffnbldbaa", sum := "00d9e79109434957880c712160ac4cc34cb4de0b5affd6ce59833cbc0c03b576", func := "loop.example/g03321/laws.FnExactLeeway", spec := "fnExactLeeway", apart := false, narrowed := true }
def FnExactLeewayUptoSaid : Prop := fnExactLeewayUptoRow.holds Try.pinned (OpenSpec.upto fnExactLeewaySpec)

/-- 'laws.FnExactSecondsFor', WHERE WHAT IT READS IS OF BULK AT MOST 1048576: true; the input reads as it did. -/
def fnExactSecondsForUptoRow : OpenClaim := { program := "ytlenmnffnbldbaa", sum := "00d9e79109434957880c712160ac4cc34cb4de0b5affd6ce59833cbc0c03b576", func := "loop.example/g03321/laws.FnExactSecondsFor", spec := "fnExactSecondsFor", inPlace := ["math.archCeil", "math.archFloor", "math.Float64bits", "math.Float64frombits", "math.archTrunc"], apart := false, narrowed := true }
def FnExactSecondsForUptoSaid : Prop := fnExactSecondsForUptoRow.holds Try.pinned (OpenSpec.upto fnExactSecondsForSpec)

end Rows
end Go.Proofs.Ytlenmnffnbldbaa
