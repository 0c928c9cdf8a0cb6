/-
  DERIVED. GIVEN WITH THE SEED: THE CARDS: each row of YtkheobgclaadlaaDoorRows.lean that lists a variable, with what it lists TIED to the program's text (the seventh form; the later family's looks); each row that meets fmt, with fmt's text TOLD by the authors' own Lean function (tested against real Go, not proved from fmt's source: count such statements apart). THE CARD IS WHAT COUNTS. Prove the row's statement (the work); the ties are given (YtkheobgclaadlaaDoorTie.lean); close each card by the builder's one call (the guide's Derived/Test/ToyasCard.lean, 'card_holds'). Laid BY PROGRAM, IN A SANDBOX (cutbox-door.mjs). By AI agents, Wed Nov 11 2026. No macro, syntax, notation, axiom, sorry.
-/
import Derived.Test.YtkheobgclaadlaaDoorRows
import GoSem.ClaimSeven
namespace Go.Proofs.YtkheobgclaadlaaDoor
namespace Rows

/-- THE TIED CARD OF 'laws.FnWaterFlowsOnWater'. -/
def fnWaterFlowsOnWaterCard : Claim7 := { stood := { row := fnWaterFlowsOnWaterRow, standIns := [], harness := (true, "9c90d8b202906ec497ec390fd21e88e04f8267706ae4b3129e36045a8960eb82"), looks := false }, kinds := [], alts := [], laidByText := true, laidKinds := [.data], laidTests := true, laidLooks := .later }
def FnWaterFlowsOnWaterCardSaid : Prop := Claim7.holds Tryd.pinned (.plain (OpenSpec.ofChange fnWaterFlowsOnWaterSpec)) fnWaterFlowsOnWaterCard

/-- THE SECOND FORM's CARD OF 'laws.FnWaterFlowsOnWater'. -/
def fnWaterFlowsOnWaterUptoCard : Claim7 := { stood := { row := fnWaterFlowsOnWaterUptoRow, standIns := [], harness := (true, "9c90d8b202906ec497ec390fd21e88e04f8267706ae4b3129e36045a8960eb82"), looks := false }, kinds := [], alts := [], laidByText := true, laidKinds := [.data], laidTests := true, laidLooks := .later }
def FnWaterFlowsOnWaterUptoCardSaid : Prop := Claim7.holds Tryd.pinned (.plain (OpenSpec.upto fnWaterFlowsOnWaterSpec)) fnWaterFlowsOnWaterUptoCard
end Rows
end Go.Proofs.YtkheobgclaadlaaDoor
