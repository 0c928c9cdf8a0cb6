/-
  DERIVED. GIVEN WITH THE SEED: THE CARDS: each row of YtfndejjaedandaaDoorRows.lean that lists a variable, with what it lists TIED to the program's text (the seventh form; the later family's looks); each row that meets fmt, with fmt's text TOLD by the authors' own Lean function (tested against real Go, not proved from fmt's source: count such statements apart). THE CARD IS WHAT COUNTS. Prove the row's statement (the work); the ties are given (YtfndejjaedandaaDoorTie.lean); close each card by the builder's one call (the guide's Derived/Test/ToyasCard.lean, 'card_holds'). Laid BY PROGRAM, IN A SANDBOX (cutbox-door.mjs). By AI agents, Wed Nov 11 2026. No macro, syntax, notation, axiom, sorry.
-/
import Derived.Test.YtfndejjaedandaaDoorRows
import GoSem.ClaimSeven
namespace Go.Proofs.YtfndejjaedandaaDoor
namespace Rows

/-- THE TIED CARD OF 'laws.FnClimbBetween'. -/
def fnClimbBetweenCard : Claim7 := { stood := { row := fnClimbBetweenRow, standIns := [], harness := (true, "516eac2a070b135a15d2ff2a84b88e44d68f1b0ddc15081f025d6f5510c40ffe"), looks := false }, kinds := [], alts := [], laidByText := true, laidKinds := [.data], laidTests := true, laidLooks := .later }
def FnClimbBetweenCardSaid : Prop := Claim7.holds Tryd.pinned (.plain (OpenSpec.ofChange fnClimbBetweenSpec)) fnClimbBetweenCard

/-- THE TIED CARD OF 'laws.FnClimbWithin'. -/
def fnClimbWithinCard : Claim7 := { stood := { row := fnClimbWithinRow, standIns := [], harness := (true, "516eac2a070b135a15d2ff2a84b88e44d68f1b0ddc15081f025d6f5510c40ffe"), looks := false }, kinds := [], alts := [], laidByText := true, laidKinds := [.data], laidTests := true, laidLooks := .later }
def FnClimbWithinCardSaid : Prop := Claim7.holds Tryd.pinned (.plain (OpenSpec.ofChange fnClimbWithinSpec)) fnClimbWithinCard

/-- THE TIED CARD OF 'laws.FnWayOf'. -/
def fnWayOfCard : Claim7 := { stood := { row := fnWayOfRow, standIns := [], harness := (true, "516eac2a070b135a15d2ff2a84b88e44d68f1b0ddc15081f025d6f5510c40ffe"), looks := false }, kinds := [], alts := [], laidByText := true, laidKinds := [.data], laidTests := true, laidLooks := .later }
def FnWayOfCardSaid : Prop := Claim7.holds Tryd.pinned (.plain (OpenSpec.ofChange fnWayOfSpec)) fnWayOfCard

/-- THE TIED CARD OF 'laws.FnFewestSteps'. -/
def fnFewestStepsCard : Claim7 := { stood := { row := fnFewestStepsRow, standIns := [], harness := (true, "516eac2a070b135a15d2ff2a84b88e44d68f1b0ddc15081f025d6f5510c40ffe"), looks := false }, kinds := [], alts := [], laidByText := true, laidKinds := [.data], laidTests := true, laidLooks := .later }
def FnFewestStepsCardSaid : Prop := Claim7.holds Tryd.pinned (.plain (OpenSpec.ofChange fnFewestStepsSpec)) fnFewestStepsCard

/-- THE TIED CARD OF 'laws.FnSteepBetween'. -/
def fnSteepBetweenCard : Claim7 := { stood := { row := fnSteepBetweenRow, standIns := [], harness := (true, "516eac2a070b135a15d2ff2a84b88e44d68f1b0ddc15081f025d6f5510c40ffe"), looks := false }, kinds := [], alts := [], laidByText := true, laidKinds := [.data], laidTests := true, laidLooks := .later }
def FnSteepBetweenCardSaid : Prop := Claim7.holds Tryd.pinned (.plain (OpenSpec.ofChange fnSteepBetweenSpec)) fnSteepBetweenCard

/-- THE TIED CARD OF 'laws.FnWaysBack'. -/
def fnWaysBackCard : Claim7 := { stood := { row := fnWaysBackRow, standIns := [], harness := (true, "516eac2a070b135a15d2ff2a84b88e44d68f1b0ddc15081f025d6f5510c40ffe"), looks := false }, kinds := [], alts := [], laidByText := true, laidKinds := [.data], laidTests := true, laidLooks := .later }
def FnWaysBackCardSaid : Prop := Claim7.holds Tryd.pinned (.plain (OpenSpec.ofChange fnWaysBackSpec)) fnWaysBackCard

/-- THE TIED CARD OF 'laws.FnPassesNeedClimbs'. -/
def fnPassesNeedClimbsCard : Claim7 := { stood := { row := fnPassesNeedClimbsRow, standIns := [], harness := (true, "516eac2a070b135a15d2ff2a84b88e44d68f1b0ddc15081f025d6f5510c40ffe"), looks := false }, kinds := [], alts := [], laidByText := true, laidKinds := [.data], laidTests := true, laidLooks := .later }
def FnPassesNeedClimbsCardSaid : Prop := Claim7.holds Tryd.pinned (.plain (OpenSpec.ofChange fnPassesNeedClimbsSpec)) fnPassesNeedClimbsCard

/-- THE TIED CARD OF 'laws.FnExactClimbBetween'. -/
def fnExactClimbBetweenCard : Claim7 := { stood := { row := fnExactClimbBetweenRow, standIns := [], harness := (true, "516eac2a070b135a15d2ff2a84b88e44d68f1b0ddc15081f025d6f5510c40ffe"), looks := false }, kinds := [], alts := [], laidByText := true, laidKinds := [.data], laidTests := true, laidLooks := .later }
def FnExactClimbBetweenCardSaid : Prop := Claim7.holds Tryd.pinned (.plain (OpenSpec.ofChange fnExactClimbBetweenSpec)) fnExactClimbBetweenCard

/-- THE SECOND FORM's CARD OF 'laws.FnClimbBetween'. -/
def fnClimbBetweenUptoCard : Claim7 := { stood := { row := fnClimbBetweenUptoRow, standIns := [], harness := (true, "516eac2a070b135a15d2ff2a84b88e44d68f1b0ddc15081f025d6f5510c40ffe"), looks := false }, kinds := [], alts := [], laidByText := true, laidKinds := [.data], laidTests := true, laidLooks := .later }
def FnClimbBetweenUptoCardSaid : Prop := Claim7.holds Tryd.pinned (.plain (OpenSpec.upto fnClimbBetweenSpec)) fnClimbBetweenUptoCard

/-- THE SECOND FORM's CARD OF 'laws.FnClimbWithin'. -/
def fnClimbWithinUptoCard : Claim7 := { stood := { row := fnClimbWithinUptoRow, standIns := [], harness := (true, "516eac2a070b135a15d2ff2a84b88e44d68f1b0ddc15081f025d6f5510c40ffe"), looks := false }, kinds := [], alts := [], laidByText := true, laidKinds := [.data], laidTests := true, laidLooks := .later }
def FnClimbWithinUptoCardSaid : Prop := Claim7.holds Tryd.pinned (.plain (OpenSpec.upto fnClimbWithinSpec)) fnClimbWithinUptoCard

/-- THE SECOND FORM's CARD OF 'laws.FnWayOf'. -/
def fnWayOfUptoCard : Claim7 := { stood := { row := fnWayOfUptoRow, standIns := [], harness := (true, "516eac2a070b135a15d2ff2a84b88e44d68f1b0ddc15081f025d6f5510c40ffe"), looks := false }, kinds := [], alts := [], laidByText := true, laidKinds := [.data], laidTests := true, laidLooks := .later }
def FnWayOfUptoCardSaid : Prop := Claim7.holds Tryd.pinned (.plain (OpenSpec.upto fnWayOfSpec)) fnWayOfUptoCard

/-- THE SECOND FORM's CARD OF 'laws.FnFewestSteps'. -/
def fnFewestStepsUptoCard : Claim7 := { stood := { row := fnFewestStepsUptoRow, standIns := [], harness := (true, "516eac2a070b135a15d2ff2a84b88e44d68f1b0ddc15081f025d6f5510c40ffe"), looks := false }, kinds := [], alts := [], laidByText := true, laidKinds := [.data], laidTests := true, laidLooks := .later }
def FnFewestStepsUptoCardSaid : Prop := Claim7.holds Tryd.pinned (.plain (OpenSpec.upto fnFewestStepsSpec)) fnFewestStepsUptoCard

/-- THE SECOND FORM's CARD OF 'laws.FnSteepBetween'. -/
def fnSteepBetweenUptoCard : Claim7 := { stood := { row := fnSteepBetweenUptoRow, standIns := [], harness := (true, "516eac2a070b135a15d2ff2a84b88e44d68f1b0ddc15081f025d6f5510c40ffe"), looks := false }, kinds := [], alts := [], laidByText := true, laidKinds := [.data], laidTests := true, laidLooks := .later }
def FnSteepBetweenUptoCardSaid : Prop := Claim7.holds Tryd.pinned (.plain (OpenSpec.upto fnSteepBetweenSpec)) fnSteepBetweenUptoCard

/-- THE SECOND FORM's CARD OF 'laws.FnWaysBack'. -/
def fnWaysBackUptoCard : Claim7 := { stood := { row := fnWaysBackUptoRow, standIns := [], harness := (true, "516eac2a070b135a15d2ff2a84b88e44d68f1b0ddc15081f025d6f5510c40ffe"), looks := false }, kinds := [], alts := [], laidByText := true, laidKinds := [.data], laidTests := true, laidLooks := .later }
def FnWaysBackUptoCardSaid : Prop := Claim7.holds Tryd.pinned (.plain (OpenSpec.upto fnWaysBackSpec)) fnWaysBackUptoCard

/-- THE SECOND FORM's CARD OF 'laws.FnPassesNeedClimbs'. -/
def fnPassesNeedClimbsUptoCard : Claim7 := { stood := { row := fnPassesNeedClimbsUptoRow, standIns := [], harness := (true, "516eac2a070b135a15d2ff2a84b88e44d68f1b0ddc15081f025d6f5510c40ffe"), looks := false }, kinds := [], alts := [], laidByText := true, laidKinds := [.data], laidTests := true, laidLooks := .later }
def FnPassesNeedClimbsUptoCardSaid : Prop := Claim7.holds Tryd.pinned (.plain (OpenSpec.upto fnPassesNeedClimbsSpec)) fnPassesNeedClimbsUptoCard

/-- THE SECOND FORM's CARD OF 'laws.FnExactClimbBetween'. -/
def fnExactClimbBetweenUptoCard : Claim7 := { stood := { row := fnExactClimbBetweenUptoRow, standIns := [], harness := (true, "516eac2a070b135a15d2ff2a84b88e44d68f1b0ddc15081f025d6f5510c40ffe"), looks := false }, kinds := [], alts := [], laidByText := true, laidKinds := [.data], laidTests := true, laidLooks := .later }
def FnExactClimbBetweenUptoCardSaid : Prop := Claim7.holds Tryd.pinned (.plain (OpenSpec.upto fnExactClimbBetweenSpec)) fnExactClimbBetweenUptoCard
end Rows
end Go.Proofs.YtfndejjaedandaaDoor
