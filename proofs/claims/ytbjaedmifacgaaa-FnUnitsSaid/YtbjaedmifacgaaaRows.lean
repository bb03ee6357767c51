/-
  No cell of these rows narrows 'for every input' (looked for: loops, veiled, ifaces, maps, wideKeys, modest, calm, conditions, laid).
  DERIVED. THE GIVEN ROWS OF THIS SEAT. 9 by the template 'for every input the law returns true; each argument reads behind the call as it read before'; 0 by the template 'total and deterministic' (their statements: YtbjaedmifacgaaaTotals.lean).
  GIVEN WITH THE SEED: the statements are not yours to turn. If you find one false, say at which input.
  Laid BY PROGRAM, IN A SANDBOX (cutbox-rows.mjs): the forced cells as the released guide's own fill.sh prints them over the translation 1713fc9ff8ac5e66… (all of the seat's roots in one cut). By AI agents, Wed Nov 11 2026. No macro, syntax, notation, axiom, sorry.
-/
import Derived.Test.YtbjaedmifacgaaaChecked
import GoSem.Claim
import GoSem.ClaimJoined
import GoSem.ClaimMapViews
import Derived.JoinedTies
import Derived.KernelRfl
namespace Go.Proofs.Ytbjaedmifacgaaa
/- THE CELL 'sum', in the pinned program and in every row, IS THE sha256 OF THE DUMP (.gsa) THAT YtbjaedmifacgaaaProg.lean LOADS. Nothing in Lean hashes anything: it is a label: what it is worth is what the hold of that sum in a sandbox is worth. -/
noncomputable def Try.pinned : Pinned := { name := "ytbjaedmifacgaaa", sum := "1713fc9ff8ac5e667188363bef8fb43a18e2ed385d21c9d5fc63c0267d900d17", checked := Try.checked }
namespace Rows
def none {H : Type} : Left H := { results := [], args := [] }

/-- 'laws.FnRoots': WHATEVER THE INPUT: true; the input reads as it did. -/
def fnRootsSpec : ChangeSpec := { name := "fnRoots", fn := fun _ => fun
  | [d] => { results := [.lit (.bool true)], args := [d] }
  | _ => none }
def fnRootsRow : OpenClaim := { program := "ytbjaedmifacgaaa", sum := "1713fc9ff8ac5e667188363bef8fb43a18e2ed385d21c9d5fc63c0267d900d17", func := "loop.example/g03321/laws.FnRoots", spec := "fnRoots", apart := false }
def FnRootsSaid : Prop := fnRootsRow.holds Try.pinned (OpenSpec.ofChange fnRootsSpec)

/-- ITS FALSE NEIGHBOUR: 'it returns false'. Refute it at one input. -/
def fnRootsWrong : ChangeSpec := { name := "fnRoots", fn := fun _ => fun
  | [d] => { results := [.lit (.bool false)], args := [d] }
  | _ => none }
def FnRootsWrongFalsely : Prop := fnRootsRow.holds Try.pinned (OpenSpec.ofChange fnRootsWrong)

/-- 'laws.FnTurnsBack': WHATEVER THE INPUT: true; the input reads as it did. -/
def fnTurnsBackSpec : ChangeSpec := { name := "fnTurnsBack", fn := fun _ => fun
  | [d] => { results := [.lit (.bool true)], args := [d] }
  | _ => none }
def fnTurnsBackRow : OpenClaim := { program := "ytbjaedmifacgaaa", sum := "1713fc9ff8ac5e667188363bef8fb43a18e2ed385d21c9d5fc63c0267d900d17", func := "loop.example/g03321/laws.FnTurnsBack", spec := "fnTurnsBack", inPlace := ["math.Float64bits", "math.Float64frombits"], apart := false }
def FnTurnsBackSaid : Prop := fnTurnsBackRow.holds Try.pinned (OpenSpec.ofChange fnTurnsBackSpec)

/-- ITS FALSE NEIGHBOUR: 'it returns false'. Refute it at one input. -/
def fnTurnsBackWrong : ChangeSpec := { name := "fnTurnsBack", fn := fun _ => fun
  | [d] => { results := [.lit (.bool false)], args := [d] }
  | _ => none }
def FnTurnsBackWrongFalsely : Prop := fnTurnsBackRow.holds Try.pinned (OpenSpec.ofChange fnTurnsBackWrong)

/-- 'laws.FnBearingTwice': WHATEVER THE INPUT: true; the input reads as it did. -/
def fnBearingTwiceSpec : ChangeSpec := { name := "fnBearingTwice", fn := fun _ => fun
  | [d] => { results := [.lit (.bool true)], args := [d] }
  | _ => none }
def fnBearingTwiceRow : OpenClaim := { program := "ytbjaedmifacgaaa", sum := "1713fc9ff8ac5e667188363bef8fb43a18e2ed385d21c9d5fc63c0267d900d17", func := "loop.example/g03321/laws.FnBearingTwice", spec := "fnBearingTwice", inPlace := ["math.Float64bits", "math.Float64frombits"], apart := false }
def FnBearingTwiceSaid : Prop := fnBearingTwiceRow.holds Try.pinned (OpenSpec.ofChange fnBearingTwiceSpec)

/-- ITS FALSE NEIGHBOUR: 'it returns false'. Refute it at one input. -/
def fnBearingTwiceWrong : ChangeSpec := { name := "fnBearingTwice", fn := fun _ => fun
  | [d] => { results := [.lit (.bool false)], args := [d] }
  | _ => none }
def FnBearingTwiceWrongFalsely : Prop := fnBearingTwiceRow.holds Try.pinned (OpenSpec.ofChange fnBearingTwiceWrong)

/-- 'laws.FnBetweenAside': WHATEVER THE INPUT: true; the input reads as it did. -/
def fnBetweenAsideSpec : ChangeSpec := { name := "fnBetweenAside", fn := fun _ => fun
  | [d] => { results := [.lit (.bool true)], args := [d] }
  | _ => none }
def fnBetweenAsideRow : OpenClaim := { program := "ytbjaedmifacgaaa", sum := "1713fc9ff8ac5e667188363bef8fb43a18e2ed385d21c9d5fc63c0267d900d17", func := "loop.example/g03321/laws.FnBetweenAside", spec := "fnBetweenAside", apart := false }
def FnBetweenAsideSaid : Prop := fnBetweenAsideRow.holds Try.pinned (OpenSpec.ofChange fnBetweenAsideSpec)

/-- ITS FALSE NEIGHBOUR: 'it returns false'. Refute it at one input. -/
def fnBetweenAsideWrong : ChangeSpec := { name := "fnBetweenAside", fn := fun _ => fun
  | [d] => { results := [.lit (.bool false)], args := [d] }
  | _ => none }
def FnBetweenAsideWrongFalsely : Prop := fnBetweenAsideRow.holds Try.pinned (OpenSpec.ofChange fnBetweenAsideWrong)

/-- 'laws.FnUnits': WHATEVER THE INPUT: true; the input reads as it did. -/
def fnUnitsSpec : ChangeSpec := { name := "fnUnits", fn := fun _ => fun
  | [d] => { results := [.lit (.bool true)], args := [d] }
  | _ => none }
def fnUnitsRow : OpenClaim := { program := "ytbjaedmifacgaaa", sum := "1713fc9ff8ac5e667188363bef8fb43a18e2ed385d21c9d5fc63c0267d900d17", func := "loop.example/g03321/laws.FnUnits", spec := "fnUnits", inPlace := ["math.Float64bits", "math.Float64frombits"], apart := false }
def FnUnitsSaid : Prop := fnUnitsRow.holds Try.pinned (OpenSpec.ofChange fnUnitsSpec)

/-- ITS FALSE NEIGHBOUR: 'it returns false'. Refute it at one input. -/
def fnUnitsWrong : ChangeSpec := { name := "fnUnits", fn := fun _ => fun
  | [d] => { results := [.lit (.bool false)], args := [d] }
  | _ => none }
def FnUnitsWrongFalsely : Prop := fnUnitsRow.holds Try.pinned (OpenSpec.ofChange fnUnitsWrong)

/-- 'laws.FnExactRoot': WHATEVER THE INPUT: true; the input reads as it did. -/
def fnExactRootSpec : ChangeSpec := { name := "fnExactRoot", fn := fun _ => fun
  | [d] => { results := [.lit (.bool true)], args := [d] }
  | _ => none }
def fnExactRootRow : OpenClaim := { program := "ytbjaedmifacgaaa", sum := "1713fc9ff8ac5e667188363bef8fb43a18e2ed385d21c9d5fc63c0267d900d17", func := "loop.example/g03321/laws.FnExactRoot", spec := "fnExactRoot", apart := false }
def FnExactRootSaid : Prop := fnExactRootRow.holds Try.pinned (OpenSpec.ofChange fnExactRootSpec)

/-- ITS FALSE NEIGHBOUR: 'it returns false'. Refute it at one input. -/
def fnExactRootWrong : ChangeSpec := { name := "fnExactRoot", fn := fun _ => fun
  | [d] => { results := [.lit (.bool false)], args := [d] }
  | _ => none }
def FnExactRootWrongFalsely : Prop := fnExactRootRow.holds Try.pinned (OpenSpec.ofChange fnExactRootWrong)

/-- 'laws.FnExactTurn': WHATEVER THE INPUT: true; the input reads as it did. -/
def fnExactTurnSpec : ChangeSpec := { name := "fnExactTurn", fn := fun _ => fun
  | [d] => { results := [.lit (.bool true)], args := [d] }
  | _ => none }
def fnExactTurnRow : OpenClaim := { program := "ytbjaedmifacgaaa", sum := "1713fc9ff8ac5e667188363bef8fb43a18e2ed385d21c9d5fc63c0267d900d17", func := "loop.example/g03321/laws.FnExactTurn", spec := "fnExactTurn", apart := false }
def FnExactTurnSaid : Prop := fnExactTurnRow.holds Try.pinned (OpenSpec.ofChange fnExactTurnSpec)

/-- ITS FALSE NEIGHBOUR: 'it returns false'. Refute it at one input. -/
def fnExactTurnWrong : ChangeSpec := { name := "fnExactTurn", fn := fun _ => fun
  | [d] => { results := [.lit (.bool false)], args := [d] }
  | _ => none }
def FnExactTurnWrongFalsely : Prop := fnExactTurnRow.holds Try.pinned (OpenSpec.ofChange fnExactTurnWrong)

/-- 'laws.FnExactBetween': WHATEVER THE INPUT: true; the input reads as it did. -/
def fnExactBetweenSpec : ChangeSpec := { name := "fnExactBetween", fn := fun _ => fun
  | [d1, d2] => { results := [.lit (.bool true)], args := [d1, d2] }
  | _ => none }
def fnExactBetweenRow : OpenClaim := { program := "ytbjaedmifacgaaa", sum := "1713fc9ff8ac5e667188363bef8fb43a18e2ed385d21c9d5fc63c0267d900d17", func := "loop.example/g03321/laws.FnExactBetween", spec := "fnExactBetween", apart := false }
def FnExactBetweenSaid : Prop := fnExactBetweenRow.holds Try.pinned (OpenSpec.ofChange fnExactBetweenSpec)

/-- ITS FALSE NEIGHBOUR: 'it returns false'. Refute it at one input. -/
def fnExactBetweenWrong : ChangeSpec := { name := "fnExactBetween", fn := fun _ => fun
  | [d1, d2] => { results := [.lit (.bool false)], args := [d1, d2] }
  | _ => none }
def FnExactBetweenWrongFalsely : Prop := fnExactBetweenRow.holds Try.pinned (OpenSpec.ofChange fnExactBetweenWrong)

/-- 'laws.FnExactAside': WHATEVER THE INPUT: true; the input reads as it did. -/
def fnExactAsideSpec : ChangeSpec := { name := "fnExactAside", fn := fun _ => fun
  | [d1, d2] => { results := [.lit (.bool true)], args := [d1, d2] }
  | _ => none }
def fnExactAsideRow : OpenClaim := { program := "ytbjaedmifacgaaa", sum := "1713fc9ff8ac5e667188363bef8fb43a18e2ed385d21c9d5fc63c0267d900d17", func := "loop.example/g03321/laws.FnExactAside", spec := "fnExactAside", apart := false }
def FnExactAsideSaid : Prop := fnExactAsideRow.holds Try.pinned (OpenSpec.ofChange fnExactAsideSpec)

/-- ITS FALSE NEIGHBOUR: 'it returns false'. Refute it at one input. -/
def fnExactAsideWrong : ChangeSpec := { name := "fnExactAside", fn := fun _ => fun
  | [d1, d2] => { results := [.lit (.bool false)], args := [d1, d2] }
  | _ => none }
def FnExactAsideWrongFalsely : Prop := fnExactAsideRow.holds Try.pinned (OpenSpec.ofChange fnExactAsideWrong)

/- THE SECOND FORM. 'bulk': how many values and letters a reading holds, each counted each time it is reached (what is shared counts as often as it is met; a slice's spare places count too). A statement '..UptoSaid' is the law's where the arguments, and the package variables that the reading takes, are together of bulk at most 1048576: NARROWER than '..Said'. Prove '..Said' where nothing that the law and all that it calls make is longer than what came in: it says more and counts as full. Else prove '..UptoSaid'. A law counts once. -/
mutual
def uptoBulk {H : Type} : DataW H → Nat
  | .lit (.string bytes) => bytes.length + 1
  | .lit _ => 1
  | .nil => 1
  | .ptr d => uptoBulk d + 1
  | .slice elems spare => uptoBulkAll elems + uptoBulkAll spare + 1
  | .agg parts => uptoBulkAll parts + 1
  | .iface _ d => uptoBulk d + 1
  | .map entries => uptoBulkEntries entries + 1
  | .held _ => 1
def uptoBulkAll {H : Type} : List (DataW H) → Nat
  | [] => 0
  | d :: r => uptoBulk d + uptoBulkAll r
def uptoBulkEntries {H : Type} : List (Lit × DataW H) → Nat
  | [] => 0
  | x :: r => uptoBulkEntry x + uptoBulkEntries r
def uptoBulkEntry {H : Type} : Lit × DataW H → Nat
  | (.string bytes, d) => bytes.length + uptoBulk d + 1
  | (_, d) => uptoBulk d + 1
 end
def uptoSmall : (H : Type) → List (DataW H) → Bool := fun _ ds => decide (uptoBulkAll ds ≤ 1048576)
def OpenSpec.upto (s : _root_.Go.ChangeSpec) : _root_.Go.OpenSpec := { _root_.Go.OpenSpec.ofChange s with cond := some uptoSmall }

/-- 'laws.FnRoots', WHERE WHAT IT READS IS OF BULK AT MOST 1048576: true; the input reads as it did. -/
def fnRootsUptoRow : OpenClaim := { program := "ytbjaedmifacgaaa", sum := "1713fc9ff8ac5e667188363bef8fb43a18e2ed385d21c9d5fc63c0267d900d17", func := "loop.example/g03321/laws.FnRoots", spec := "fnRoots", apart := false, narrowed := true }
def FnRootsUptoSaid : Prop := fnRootsUptoRow.holds Try.pinned (OpenSpec.upto fnRootsSpec)

/-- 'laws.FnTurnsBack', WHERE WHAT IT READS IS OF BULK AT MOST 1048576: true; the input reads as it did. -/
def fnTurnsBackUptoRow : OpenClaim := { program := "ytbjaedmifacgaaa", sum := "1713fc9ff8ac5e667188363bef8fb43a18e2ed385d21c9d5fc63c0267d900d17", func := "loop.example/g03321/laws.FnTurnsBack", spec := "fnTurnsBack", inPlace := ["math.Float64bits", "math.Float64frombits"], apart := false, narrowed := true }
def FnTurnsBackUptoSaid : Prop := fnTurnsBackUptoRow.holds Try.pinned (OpenSpec.upto fnTurnsBackSpec)

/-- 'laws.FnBearingTwice', WHERE WHAT IT READS IS OF BULK AT MOST 1048576: true; the input reads as it did. -/
def fnBearingTwiceUptoRow : OpenClaim := { program := "ytbjaedmifacgaaa", sum := "1713fc9ff8ac5e667188363bef8fb43a18e2ed385d21c9d5fc63c0267d900d17", func := "loop.example/g03321/laws.FnBearingTwice", spec := "fnBearingTwice", inPlace := ["math.Float64bits", "math.Float64frombits"], apart := false, narrowed := true }
def FnBearingTwiceUptoSaid : Prop := fnBearingTwiceUptoRow.holds Try.pinned (OpenSpec.upto fnBearingTwiceSpec)

/-- 'laws.FnBetweenAside', WHERE WHAT IT READS IS OF BULK AT MOST 1048576: true; the input reads as it did. -/
def fnBetweenAsideUptoRow : OpenClaim := { program := "ytbjaedmifacgaaa", sum := "1713fc9ff8ac5e667188363bef8fb43a18e2ed385d21c9d5fc63c0267d900d17", func := "loop.example/g03321/laws.FnBetweenAside", spec := "fnBetweenAside", apart := false, narrowed := true }
def FnBetweenAsideUptoSaid : Prop := fnBetweenAsideUptoRow.holds Try.pinned (OpenSpec.upto fnBetweenAsideSpec)

/-- 'laws.FnUnits', WHERE WHAT IT READS IS OF BULK AT MOST 1048576: true; the input reads as it did. -/
def fnUnitsUptoRow : OpenClaim := { program := "ytbjaedmifacgaaa", sum := "1713fc9ff8ac5e667188363bef8fb43a18e2ed385d21c9d5fc63c0267d900d17", func := "loop.example/g03321/laws.FnUnits", spec := "fnUnits", inPlace := ["math.Float64bits", "math.Float64frombits"], apart := false, narrowed := true }
def FnUnitsUptoSaid : Prop := fnUnitsUptoRow.holds Try.pinned (OpenSpec.upto fnUnitsSpec)

/-- 'laws.FnExactRoot', WHERE WHAT IT READS IS OF BULK AT MOST 1048576: true; the input reads as it did. -/
def fnExactRootUptoRow : OpenClaim := { program := "ytbjaedmifacgaaa", sum := "1713fc9ff8ac5e667188363bef8fb43a18e2ed385d21c9d5fc63c0267d900d17", func := "loop.example/g03321/laws.FnExactRoot", spec := "fnExactRoot", apart := false, narrowed := true }
def FnExactRootUptoSaid : Prop := fnExactRootUptoRow.holds Try.pinned (OpenSpec.upto fnExactRootSpec)

/-- 'laws.FnExactTurn', WHERE WHAT IT READS IS OF BULK AT MOST 1048576: true; the input reads as it did. -/
def fnExactTurnUptoRow : OpenClaim := { program := "ytbjaedmifacgaaa", sum := "1713fc9ff8ac5e667188363bef8fb43a18e2ed385d21c9d5fc63c0267d900d17", func := "loop.example/g03321/laws.FnExactTurn", spec := "fnExactTurn", apart := false, narrowed := true }
def FnExactTurnUptoSaid : Prop := fnExactTurnUptoRow.holds Try.pinned (OpenSpec.upto fnExactTurnSpec)

/-- 'laws.FnExactBetween', WHERE WHAT IT READS IS OF BULK AT MOST 1048576: true; the input reads as it did. -/
def fnExactBetweenUptoRow : OpenClaim := { program := "ytbjaedmifacgaaa", sum := "1713fc9ff8ac5e667188363bef8fb43a18e2ed385d21c9d5fc63c0267d900d17", func := "loop.example/g03321/laws.FnExactBetween", spec := "fnExactBetween", apart := false, narrowed := true }
def FnExactBetweenUptoSaid : Prop := fnExactBetweenUptoRow.holds Try.pinned (OpenSpec.upto fnExactBetweenSpec)

/-- 'laws.FnExactAside', WHERE WHAT IT READS IS OF BULK AT MOST 1048576: true; the input reads as it did. -/
def fnExactAsideUptoRow : OpenClaim := { program := "ytbjaedmifacgaaa", sum := "1713fc9ff8ac5e667188363bef8fb43a18e2ed385d21c9d5fc63c0267d900d17", func := "loop.example/g03321/laws.FnExactAside", spec := "fnExactAside", apart := false, narrowed := true }
def FnExactAsideUptoSaid : Prop := fnExactAsideUptoRow.holds Try.pinned (OpenSpec.upto fnExactAsideSpec)

end Rows
end Go.Proofs.Ytbjaedmifacgaaa
