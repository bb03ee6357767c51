/-
  No cell of these rows narrows 'for every input' (looked for: loops, veiled, ifaces, maps, wideKeys, modest, calm, conditions, laid).
  DERIVED. THE GIVEN ROWS OF THIS SEAT. 6 by the template 'for every input the law returns true; each argument reads behind the call as it read before'; 0 by the template 'total and deterministic' (their statements: YtonfenekjocopaaTotals.lean).
  GIVEN WITH THE SEED: the statements are not yours to turn. If you find one false, say at which input.
  Laid BY PROGRAM, IN A SANDBOX (cutbox-rows.mjs): the forced cells as the released guide's own fill.sh prints them over the translation fa61532b9c3cb557… (all of the seat's roots in one cut). By AI agents, Wed Nov 11 2026. No macro, syntax, notation, axiom, sorry.
-/
import Derived.Test.YtonfenekjocopaaChecked
import GoSem.Claim
import GoSem.ClaimJoined
import GoSem.ClaimMapViews
import Derived.JoinedTies
import Derived.KernelRfl
namespace Go.Proofs.Ytonfenekjocopaa
/- THE CELL 'sum', in the pinned program and in every row, IS THE sha256 OF THE DUMP (.gsa) THAT YtonfenekjocopaaProg.lean LOADS. Nothing in Lean hashes anything: it is a label: what it is worth is what the hold of that sum in a sandbox is worth. -/
noncomputable def Try.pinned : Pinned := { name := "ytonfenekjocopaa", sum := "fa61532b9c3cb5570862d83cb83811e2ca2f165339f223eaffb33ede447786c7", checked := Try.checked }
namespace Rows
def none {H : Type} : Left H := { results := [], args := [] }

/-- 'laws.FnLegsJoin': WHATEVER THE INPUT: true; the input reads as it did. -/
def fnLegsJoinSpec : ChangeSpec := { name := "fnLegsJoin", fn := fun _ => fun
  | [d] => { results := [.lit (.bool true)], args := [d] }
  | _ => none }
def fnLegsJoinRow : OpenClaim := { program := "ytonfenekjocopaa", sum := "fa61532b9c3cb5570862d83cb83811e2ca2f165339f223eaffb33ede447786c7", func := "loop.example/g03321/laws.FnLegsJoin", spec := "fnLegsJoin", inPlace := ["math.Float64bits", "math.Float64frombits"], unfollowed := true, recurses := true, apart := false }
def FnLegsJoinSaid : Prop := fnLegsJoinRow.holds Try.pinned (OpenSpec.ofChange fnLegsJoinSpec)

/-- ITS FALSE NEIGHBOUR: 'it returns false'. Refute it at one input. -/
def fnLegsJoinWrong : ChangeSpec := { name := "fnLegsJoin", fn := fun _ => fun
  | [d] => { results := [.lit (.bool false)], args := [d] }
  | _ => none }
def FnLegsJoinWrongFalsely : Prop := fnLegsJoinRow.holds Try.pinned (OpenSpec.ofChange fnLegsJoinWrong)

/-- 'laws.FnStepsBack': WHATEVER THE INPUT: true; the input reads as it did. -/
def fnStepsBackSpec : ChangeSpec := { name := "fnStepsBack", fn := fun _ => fun
  | [d] => { results := [.lit (.bool true)], args := [d] }
  | _ => none }
def fnStepsBackRow : OpenClaim := { program := "ytonfenekjocopaa", sum := "fa61532b9c3cb5570862d83cb83811e2ca2f165339f223eaffb33ede447786c7", func := "loop.example/g03321/laws.FnStepsBack", spec := "fnStepsBack", inPlace := ["math.Float64bits", "math.Float64frombits"], apart := false }
def FnStepsBackSaid : Prop := fnStepsBackRow.holds Try.pinned (OpenSpec.ofChange fnStepsBackSpec)

/-- ITS FALSE NEIGHBOUR: 'it returns false'. Refute it at one input. -/
def fnStepsBackWrong : ChangeSpec := { name := "fnStepsBack", fn := fun _ => fun
  | [d] => { results := [.lit (.bool false)], args := [d] }
  | _ => none }
def FnStepsBackWrongFalsely : Prop := fnStepsBackRow.holds Try.pinned (OpenSpec.ofChange fnStepsBackWrong)

/-- 'laws.FnTideStill': WHATEVER THE INPUT: true; the input reads as it did. -/
def fnTideStillSpec : ChangeSpec := { name := "fnTideStill", fn := fun _ => fun
  | [d] => { results := [.lit (.bool true)], args := [d] }
  | _ => none }
def fnTideStillRow : OpenClaim := { program := "ytonfenekjocopaa", sum := "fa61532b9c3cb5570862d83cb83811e2ca2f165339f223eaffb33ede447786c7", func := "loop.example/g03321/laws.FnTideStill", spec := "fnTideStill", inPlace := ["math.Float64bits", "math.Float64frombits"], unfollowed := true, recurses := true, apart := false }
def FnTideStillSaid : Prop := fnTideStillRow.holds Try.pinned (OpenSpec.ofChange fnTideStillSpec)

/-- ITS FALSE NEIGHBOUR: 'it returns false'. Refute it at one input. -/
def fnTideStillWrong : ChangeSpec := { name := "fnTideStill", fn := fun _ => fun
  | [d] => { results := [.lit (.bool false)], args := [d] }
  | _ => none }
def FnTideStillWrongFalsely : Prop := fnTideStillRow.holds Try.pinned (OpenSpec.ofChange fnTideStillWrong)

/-- 'laws.FnFixBears': WHATEVER THE INPUT: true; the input reads as it did. -/
def fnFixBearsSpec : ChangeSpec := { name := "fnFixBears", fn := fun _ => fun
  | [d] => { results := [.lit (.bool true)], args := [d] }
  | _ => none }
def fnFixBearsRow : OpenClaim := { program := "ytonfenekjocopaa", sum := "fa61532b9c3cb5570862d83cb83811e2ca2f165339f223eaffb33ede447786c7", func := "loop.example/g03321/laws.FnFixBears", spec := "fnFixBears", inPlace := ["math.Float64bits", "math.Float64frombits"], apart := false }
def FnFixBearsSaid : Prop := fnFixBearsRow.holds Try.pinned (OpenSpec.ofChange fnFixBearsSpec)

/-- ITS FALSE NEIGHBOUR: 'it returns false'. Refute it at one input. -/
def fnFixBearsWrong : ChangeSpec := { name := "fnFixBears", fn := fun _ => fun
  | [d] => { results := [.lit (.bool false)], args := [d] }
  | _ => none }
def FnFixBearsWrongFalsely : Prop := fnFixBearsRow.holds Try.pinned (OpenSpec.ofChange fnFixBearsWrong)

/-- 'laws.FnHatHolds': WHATEVER THE INPUT: true; the input reads as it did. -/
def fnHatHoldsSpec : ChangeSpec := { name := "fnHatHolds", fn := fun _ => fun
  | [d] => { results := [.lit (.bool true)], args := [d] }
  | _ => none }
def fnHatHoldsRow : OpenClaim := { program := "ytonfenekjocopaa", sum := "fa61532b9c3cb5570862d83cb83811e2ca2f165339f223eaffb33ede447786c7", func := "loop.example/g03321/laws.FnHatHolds", spec := "fnHatHolds", inPlace := ["math.Float64bits", "math.Float64frombits"], unfollowed := true, recurses := true, apart := false }
def FnHatHoldsSaid : Prop := fnHatHoldsRow.holds Try.pinned (OpenSpec.ofChange fnHatHoldsSpec)

/-- ITS FALSE NEIGHBOUR: 'it returns false'. Refute it at one input. -/
def fnHatHoldsWrong : ChangeSpec := { name := "fnHatHolds", fn := fun _ => fun
  | [d] => { results := [.lit (.bool false)], args := [d] }
  | _ => none }
def FnHatHoldsWrongFalsely : Prop := fnHatHoldsRow.holds Try.pinned (OpenSpec.ofChange fnHatHoldsWrong)

/-- 'laws.FnExactLegOk': WHATEVER THE INPUT: true; the input reads as it did. -/
def fnExactLegOkSpec : ChangeSpec := { name := "fnExactLegOk", fn := fun _ => fun
  | [d] => { results := [.lit (.bool true)], args := [d] }
  | _ => none }
def fnExactLegOkRow : OpenClaim := { program := "ytonfenekjocopaa", sum := "fa61532b9c3cb5570862d83cb83811e2ca2f165339f223eaffb33ede447786c7", func := "loop.example/g03321/laws.FnExactLegOk", spec := "fnExactLegOk", apart := false }
def FnExactLegOkSaid : Prop := fnExactLegOkRow.holds Try.pinned (OpenSpec.ofChange fnExactLegOkSpec)

/-- ITS FALSE NEIGHBOUR: 'it returns false'. Refute it at one input. -/
def fnExactLegOkWrong : ChangeSpec := { name := "fnExactLegOk", fn := fun _ => fun
  | [d] => { results := [.lit (.bool false)], args := [d] }
  | _ => none }
def FnExactLegOkWrongFalsely : Prop := fnExactLegOkRow.holds Try.pinned (OpenSpec.ofChange fnExactLegOkWrong)

/- THE SECOND FORM. 'bulk': how many values and letters a reading holds, each counted each time it is reached (what is shared counts as often as it is met; a slice's spare places count too). A statement '..UptoSaid' is the law's where the arguments, and the package variables that the reading takes, are together of bulk at most 1048576: NARROWER than '..Said'. Prove '..Said' where nothing that the law and all that it calls make is longer than what came in: it says more and counts as full. Else prove '..UptoSaid'. A law counts once. -/
mutual
def uptoBulk {H : Type} : DataW H → Nat
  | .lit (.string bytes) => bytes.length + 1
  | .lit _ => 1
  | .nil => 1
  | .ptr d => uptoBulk d + 1
  | .slice elems spare => uptoBulkAll elems + uptoBulkAll spare + 1
  | .agg parts => uptoBulkAll parts + 1
  | .iface _ d => uptoBulk d + 1
  | .map entries => uptoBulkEntries entries + 1
  | .held _ => 1
def uptoBulkAll {H : Type} : List (DataW H) → Nat
  | [] => 0
  | d :: r => uptoBulk d + uptoBulkAll r
def uptoBulkEntries {H : Type} : List (Lit × DataW H) → Nat
  | [] => 0
  | x :: r => uptoBulkEntry x + uptoBulkEntries r
def uptoBulkEntry {H : Type} : Lit × DataW H → Nat
  | (.string bytes, d) => bytes.length + uptoBulk d + 1
  | (_, d) => uptoBulk d + 1
 end
def uptoSmall : (H : Type) → List (DataW H) → Bool := fun _ ds => decide (uptoBulkAll ds ≤ 1048576)
def OpenSpec.upto (s : _root_.Go.ChangeSpec) : _root_.Go.OpenSpec := { _root_.Go.OpenSpec.ofChange s with cond := some uptoSmall }

/-- 'laws.FnLegsJoin', WHERE WHAT IT READS IS OF BULK AT MOST 1048576: true; the input reads as it did. -/
def fnLegsJoinUptoRow : OpenClaim := { program := "ytonfenekjocopaa", sum := "fa61532b9c3cb5570862d83cb83811e2ca2f165339f223eaffb33ede447786c7", func := "loop.example/g03321/laws.FnLegsJoin", spec := "fnLegsJoin", inPlace := ["math.Float64bits", "math.Float64frombits"], unfollowed := true, recurses := true, apart := false, narrowed := true }
def FnLegsJoinUptoSaid : Prop := fnLegsJoinUptoRow.holds Try.pinned (OpenSpec.upto fnLegsJoinSpec)

/-- 'laws.FnStepsBack', WHERE WHAT IT READS IS OF BULK AT MOST 1048576: true; the input reads as it did. -/
def fnStepsBackUptoRow : OpenClaim := { program := "ytonfenekjocopaa", sum := "fa61532b9c3cb5570862d83cb83811e2ca2f165339f223eaffb33ede447786c7", func := "loop.example/g03321/laws.FnStepsBack", spec := "fnStepsBack", inPlace := ["math.Float64bits", "math.Float64frombits"], apart := false, narrowed := true }
def FnStepsBackUptoSaid : Prop := fnStepsBackUptoRow.holds Try.pinned (OpenSpec.upto fnStepsBackSpec)

/-- 'laws.FnTideStill', WHERE WHAT IT READS IS OF BULK AT MOST 1048576: true; the input reads as it did. -/
def fnTideStillUptoRow : OpenClaim := { program := "ytonfenekjocopaa", sum := "fa61532b9c3cb5570862d83cb83811e2ca2f165339f223eaffb33ede447786c7", func := "loop.example/g03321/laws.FnTideStill", spec := "fnTideStill", inPlace := ["math.Float64bits", "math.Float64frombits"], unfollowed := true, recurses := true, apart := false, narrowed := true }
def FnTideStillUptoSaid : Prop := fnTideStillUptoRow.holds Try.pinned (OpenSpec.upto fnTideStillSpec)

/-- 'laws.FnFixBears', WHERE WHAT IT READS IS OF BULK AT MOST 1048576: true; the input reads as it did. -/
def fnFixBearsUptoRow : OpenClaim := { program := "ytonfenekjocopaa", sum := "fa61532b9c3cb5570862d83cb83811e2ca2f165339f223eaffb33ede447786c7", func := "loop.example/g03321/laws.FnFixBears", spec := "fnFixBears", inPlace := ["math.Float64bits", "math.Float64frombits"], apart := false, narrowed := true }
def FnFixBearsUptoSaid : Prop := fnFixBearsUptoRow.holds Try.pinned (OpenSpec.upto fnFixBearsSpec)

/-- 'laws.FnHatHolds', WHERE WHAT IT READS IS OF BULK AT MOST 1048576: true; the input reads as it did. -/
def fnHatHoldsUptoRow : OpenClaim := { program := "ytonfenekjocopaa", sum := "fa61532b9c3cb5570862d83cb83811e2ca2f165339f223eaffb33ede447786c7", func := "loop.example/g03321/laws.FnHatHolds", spec := "fnHatHolds", inPlace := ["math.Float64bits", "math.Float64frombits"], unfollowed := true, recurses := true, apart := false, narrowed := true }
def FnHatHoldsUptoSaid : Prop := fnHatHoldsUptoRow.holds Try.pinned (OpenSpec.upto fnHatHoldsSpec)

/-- 'laws.FnExactLegOk', WHERE WHAT IT READS IS OF BULK AT MOST 1048576: true; the input reads as it did. -/
def fnExactLegOkUptoRow : OpenClaim := { program := "ytonfenekjocopaa", sum := "fa61532b9c3cb5570862d83cb83811e2ca2f165339f223eaffb33ede447786c7", func := "loop.example/g03321/laws.FnExactLegOk", spec := "fnExactLegOk", apart := false, narrowed := true }
def FnExactLegOkUptoSaid : Prop := fnExactLegOkUptoRow.holds Try.pinned (OpenSpec.upto fnExactLegOkSpec)

end Rows
end Go.Proofs.Ytonfenekjocopaa
