/-
  DERIVED. GIVEN WITH THE SEED: THE CARDS: each row of YtbklmfchbojboaaDoorRows.lean that lists a variable, with what it lists TIED to the program's text (the seventh form; the later family's looks); each row that meets fmt, with fmt's text TOLD by the authors' own Lean function (tested against real Go, not proved from fmt's source: count such statements apart). THE CARD IS WHAT COUNTS. Prove the row's statement (the work); the ties are given (YtbklmfchbojboaaDoorTie.lean); close each card by the builder's one call (the guide's Derived/Test/ToyasCard.lean, 'card_holds'). Laid BY PROGRAM, IN A SANDBOX (cutbox-door.mjs). By AI agents, Wed Nov 11 2026. No macro, syntax, notation, axiom, sorry.
-/
import Derived.Test.YtbklmfchbojboaaDoorRows
import GoSem.ClaimSeven
namespace Go.Proofs.YtbklmfchbojboaaDoor
namespace Rows

/-- THE TIED CARD OF 'laws.FnHeights'. -/
def fnHeightsCard : Claim7 := { stood := { row := fnHeightsRow, standIns := [], harness := (true, "fece5c1cb3e0cb3afb11431d712bebaf55dc74626f5817adcbc0b5c4d51a84c8"), looks := false }, kinds := [], alts := [], laidByText := true, laidKinds := [.data], laidTests := true, laidLooks := .later }
def FnHeightsCardSaid : Prop := Claim7.holds Tryd.pinned (.plain (OpenSpec.ofChange fnHeightsSpec)) fnHeightsCard

/-- THE TIED CARD OF 'laws.FnExactHeightAt'. -/
def fnExactHeightAtCard : Claim7 := { stood := { row := fnExactHeightAtRow, standIns := [], harness := (true, "fece5c1cb3e0cb3afb11431d712bebaf55dc74626f5817adcbc0b5c4d51a84c8"), looks := false }, kinds := [], alts := [], laidByText := true, laidKinds := [.data], laidTests := true, laidLooks := .later }
def FnExactHeightAtCardSaid : Prop := Claim7.holds Tryd.pinned (.plain (OpenSpec.ofChange fnExactHeightAtSpec)) fnExactHeightAtCard

/-- THE SECOND FORM's CARD OF 'laws.FnHeights'. -/
def fnHeightsUptoCard : Claim7 := { stood := { row := fnHeightsUptoRow, standIns := [], harness := (true, "fece5c1cb3e0cb3afb11431d712bebaf55dc74626f5817adcbc0b5c4d51a84c8"), looks := false }, kinds := [], alts := [], laidByText := true, laidKinds := [.data], laidTests := true, laidLooks := .later }
def FnHeightsUptoCardSaid : Prop := Claim7.holds Tryd.pinned (.plain (OpenSpec.upto fnHeightsSpec)) fnHeightsUptoCard

/-- THE SECOND FORM's CARD OF 'laws.FnExactHeightAt'. -/
def fnExactHeightAtUptoCard : Claim7 := { stood := { row := fnExactHeightAtUptoRow, standIns := [], harness := (true, "fece5c1cb3e0cb3afb11431d712bebaf55dc74626f5817adcbc0b5c4d51a84c8"), looks := false }, kinds := [], alts := [], laidByText := true, laidKinds := [.data], laidTests := true, laidLooks := .later }
def FnExactHeightAtUptoCardSaid : Prop := Claim7.holds Tryd.pinned (.plain (OpenSpec.upto fnExactHeightAtSpec)) fnExactHeightAtUptoCard
end Rows
end Go.Proofs.YtbklmfchbojboaaDoor
