/-
  DERIVED. GIVEN WITH THE SEED: THE CARDS: each row of YtfndejjaedandabDoorRows.lean that lists a variable, with what it lists TIED to the program's text (the seventh form; the later family's looks); each row that meets fmt, with fmt's text TOLD by the authors' own Lean function (tested against real Go, not proved from fmt's source: count such statements apart). THE CARD IS WHAT COUNTS. Prove the row's statement (the work); the ties are given (YtfndejjaedandabDoorTie.lean); close each card by the builder's one call (the guide's Derived/Test/ToyasCard.lean, 'card_holds'). Laid BY PROGRAM, IN A SANDBOX (cutbox-door.mjs). By AI agents, Wed Nov 11 2026. No macro, syntax, notation, axiom, sorry.
-/
import Derived.Test.YtfndejjaedandabDoorRows
import GoSem.ClaimSeven
namespace Go.Proofs.YtfndejjaedandabDoor
namespace Rows

/-- THE TIED CARD OF 'laws.FnExactClimbWithin'. -/
def fnExactClimbWithinCard : Claim7 := { stood := { row := fnExactClimbWithinRow, standIns := [], harness := (true, "baf4d4abe3d71c1afce8e437aa3cea31e840a34ac43b596b7e6c4c1f9aaa137c"), looks := false }, kinds := [], alts := [], laidByText := true, laidKinds := [.data], laidTests := true, laidLooks := .later }
def FnExactClimbWithinCardSaid : Prop := Claim7.holds Tryd.pinned (.plain (OpenSpec.ofChange fnExactClimbWithinSpec)) fnExactClimbWithinCard

/-- THE TIED CARD OF 'laws.FnExactWayOf'. -/
def fnExactWayOfCard : Claim7 := { stood := { row := fnExactWayOfRow, standIns := [], harness := (true, "baf4d4abe3d71c1afce8e437aa3cea31e840a34ac43b596b7e6c4c1f9aaa137c"), looks := false }, kinds := [], alts := [], laidByText := true, laidKinds := [.data], laidTests := true, laidLooks := .later }
def FnExactWayOfCardSaid : Prop := Claim7.holds Tryd.pinned (.plain (OpenSpec.ofChange fnExactWayOfSpec)) fnExactWayOfCard

/-- THE TIED CARD OF 'laws.FnExactFewestSteps'. -/
def fnExactFewestStepsCard : Claim7 := { stood := { row := fnExactFewestStepsRow, standIns := [], harness := (true, "baf4d4abe3d71c1afce8e437aa3cea31e840a34ac43b596b7e6c4c1f9aaa137c"), looks := false }, kinds := [], alts := [], laidByText := true, laidKinds := [.data], laidTests := true, laidLooks := .later }
def FnExactFewestStepsCardSaid : Prop := Claim7.holds Tryd.pinned (.plain (OpenSpec.ofChange fnExactFewestStepsSpec)) fnExactFewestStepsCard

/-- THE TIED CARD OF 'laws.FnExactSteepBetween'. -/
def fnExactSteepBetweenCard : Claim7 := { stood := { row := fnExactSteepBetweenRow, standIns := [], harness := (true, "baf4d4abe3d71c1afce8e437aa3cea31e840a34ac43b596b7e6c4c1f9aaa137c"), looks := false }, kinds := [], alts := [], laidByText := true, laidKinds := [.data], laidTests := true, laidLooks := .later }
def FnExactSteepBetweenCardSaid : Prop := Claim7.holds Tryd.pinned (.plain (OpenSpec.ofChange fnExactSteepBetweenSpec)) fnExactSteepBetweenCard

/-- THE SECOND FORM's CARD OF 'laws.FnExactClimbWithin'. -/
def fnExactClimbWithinUptoCard : Claim7 := { stood := { row := fnExactClimbWithinUptoRow, standIns := [], harness := (true, "baf4d4abe3d71c1afce8e437aa3cea31e840a34ac43b596b7e6c4c1f9aaa137c"), looks := false }, kinds := [], alts := [], laidByText := true, laidKinds := [.data], laidTests := true, laidLooks := .later }
def FnExactClimbWithinUptoCardSaid : Prop := Claim7.holds Tryd.pinned (.plain (OpenSpec.upto fnExactClimbWithinSpec)) fnExactClimbWithinUptoCard

/-- THE SECOND FORM's CARD OF 'laws.FnExactWayOf'. -/
def fnExactWayOfUptoCard : Claim7 := { stood := { row := fnExactWayOfUptoRow, standIns := [], harness := (true, "baf4d4abe3d71c1afce8e437aa3cea31e840a34ac43b596b7e6c4c1f9aaa137c"), looks := false }, kinds := [], alts := [], laidByText := true, laidKinds := [.data], laidTests := true, laidLooks := .later }
def FnExactWayOfUptoCardSaid : Prop := Claim7.holds Tryd.pinned (.plain (OpenSpec.upto fnExactWayOfSpec)) fnExactWayOfUptoCard

/-- THE SECOND FORM's CARD OF 'laws.FnExactFewestSteps'. -/
def fnExactFewestStepsUptoCard : Claim7 := { stood := { row := fnExactFewestStepsUptoRow, standIns := [], harness := (true, "baf4d4abe3d71c1afce8e437aa3cea31e840a34ac43b596b7e6c4c1f9aaa137c"), looks := false }, kinds := [], alts := [], laidByText := true, laidKinds := [.data], laidTests := true, laidLooks := .later }
def FnExactFewestStepsUptoCardSaid : Prop := Claim7.holds Tryd.pinned (.plain (OpenSpec.upto fnExactFewestStepsSpec)) fnExactFewestStepsUptoCard

/-- THE SECOND FORM's CARD OF 'laws.FnExactSteepBetween'. -/
def fnExactSteepBetweenUptoCard : Claim7 := { stood := { row := fnExactSteepBetweenUptoRow, standIns := [], harness := (true, "baf4d4abe3d71c1afce8e437aa3cea31e840a34ac43b596b7e6c4c1f9aaa137c"), looks := false }, kinds := [], alts := [], laidByText := true, laidKinds := [.data], laidTests := true, laidLooks := .later }
def FnExactSteepBetweenUptoCardSaid : Prop := Claim7.holds Tryd.pinned (.plain (OpenSpec.upto fnExactSteepBetweenSpec)) fnExactSteepBetweenUptoCard
end Rows
end Go.Proofs.YtfndejjaedandabDoor
