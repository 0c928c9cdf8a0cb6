/-
  DERIVED. GIVEN WITH THE SEED: THE CARDS: each row of YtdhokofcgfolnaaDoorRows.lean that lists a variable, with what it lists TIED to the program's text (the seventh form; the later family's looks); each row that meets fmt, with fmt's text TOLD by the authors' own Lean function (tested against real Go, not proved from fmt's source: count such statements apart). THE CARD IS WHAT COUNTS. Prove the row's statement (the work); the ties are given (YtdhokofcgfolnaaDoorTie.lean); close each card by the builder's one call (the guide's Derived/Test/ToyasCard.lean, 'card_holds'). Laid BY PROGRAM, IN A SANDBOX (cutbox-door.mjs). By AI agents, Wed Nov 11 2026. No macro, syntax, notation, axiom, sorry.
-/
import Derived.Test.YtdhokofcgfolnaaDoorRows
import GoSem.ClaimSeven
namespace Go.Proofs.YtdhokofcgfolnaaDoor
namespace Rows

/-- THE TIED CARD OF 'laws.FnClimbBetween'. -/
def fnClimbBetweenCard : Claim7 := { stood := { row := fnClimbBetweenRow, standIns := [], harness := (true, "5db50ead60cf0631b14e46081430e494913f39345a02dcc1e6d2220997522f13"), looks := false }, kinds := [], alts := [], laidByText := true, laidKinds := [.data], laidTests := true, laidLooks := .later }
def FnClimbBetweenCardSaid : Prop := Claim7.holds Tryd.pinned (.plain (OpenSpec.ofChange fnClimbBetweenSpec)) fnClimbBetweenCard

/-- THE TIED CARD OF 'laws.FnClimbWithin'. -/
def fnClimbWithinCard : Claim7 := { stood := { row := fnClimbWithinRow, standIns := [], harness := (true, "5db50ead60cf0631b14e46081430e494913f39345a02dcc1e6d2220997522f13"), looks := false }, kinds := [], alts := [], laidByText := true, laidKinds := [.data], laidTests := true, laidLooks := .later }
def FnClimbWithinCardSaid : Prop := Claim7.holds Tryd.pinned (.plain (OpenSpec.ofChange fnClimbWithinSpec)) fnClimbWithinCard

/-- THE TIED CARD OF 'laws.FnFewestSteps'. -/
def fnFewestStepsCard : Claim7 := { stood := { row := fnFewestStepsRow, standIns := [], harness := (true, "5db50ead60cf0631b14e46081430e494913f39345a02dcc1e6d2220997522f13"), looks := false }, kinds := [], alts := [], laidByText := true, laidKinds := [.data], laidTests := true, laidLooks := .later }
def FnFewestStepsCardSaid : Prop := Claim7.holds Tryd.pinned (.plain (OpenSpec.ofChange fnFewestStepsSpec)) fnFewestStepsCard

/-- THE TIED CARD OF 'laws.FnSteepBetween'. -/
def fnSteepBetweenCard : Claim7 := { stood := { row := fnSteepBetweenRow, standIns := [], harness := (true, "5db50ead60cf0631b14e46081430e494913f39345a02dcc1e6d2220997522f13"), looks := false }, kinds := [], alts := [], laidByText := true, laidKinds := [.data], laidTests := true, laidLooks := .later }
def FnSteepBetweenCardSaid : Prop := Claim7.holds Tryd.pinned (.plain (OpenSpec.ofChange fnSteepBetweenSpec)) fnSteepBetweenCard

/-- THE TIED CARD OF 'laws.FnPassesNeedClimbs'. -/
def fnPassesNeedClimbsCard : Claim7 := { stood := { row := fnPassesNeedClimbsRow, standIns := [], harness := (true, "5db50ead60cf0631b14e46081430e494913f39345a02dcc1e6d2220997522f13"), looks := false }, kinds := [], alts := [], laidByText := true, laidKinds := [.data], laidTests := true, laidLooks := .later }
def FnPassesNeedClimbsCardSaid : Prop := Claim7.holds Tryd.pinned (.plain (OpenSpec.ofChange fnPassesNeedClimbsSpec)) fnPassesNeedClimbsCard

/-- THE TIED CARD OF 'laws.FnExactClimbBetween'. -/
def fnExactClimbBetweenCard : Claim7 := { stood := { row := fnExactClimbBetweenRow, standIns := [], harness := (true, "5db50ead60cf0631b14e46081430e494913f39345a02dcc1e6d2220997522f13"), looks := false }, kinds := [], alts := [], laidByText := true, laidKinds := [.data], laidTests := true, laidLooks := .later }
def FnExactClimbBetweenCardSaid : Prop := Claim7.holds Tryd.pinned (.plain (OpenSpec.ofChange fnExactClimbBetweenSpec)) fnExactClimbBetweenCard

/-- THE TIED CARD OF 'laws.FnExactClimbWithin'. -/
def fnExactClimbWithinCard : Claim7 := { stood := { row := fnExactClimbWithinRow, standIns := [], harness := (true, "5db50ead60cf0631b14e46081430e494913f39345a02dcc1e6d2220997522f13"), looks := false }, kinds := [], alts := [], laidByText := true, laidKinds := [.data], laidTests := true, laidLooks := .later }
def FnExactClimbWithinCardSaid : Prop := Claim7.holds Tryd.pinned (.plain (OpenSpec.ofChange fnExactClimbWithinSpec)) fnExactClimbWithinCard

/-- THE TIED CARD OF 'laws.FnExactWayOf'. -/
def fnExactWayOfCard : Claim7 := { stood := { row := fnExactWayOfRow, standIns := [], harness := (true, "5db50ead60cf0631b14e46081430e494913f39345a02dcc1e6d2220997522f13"), looks := false }, kinds := [], alts := [], laidByText := true, laidKinds := [.data], laidTests := true, laidLooks := .later }
def FnExactWayOfCardSaid : Prop := Claim7.holds Tryd.pinned (.plain (OpenSpec.ofChange fnExactWayOfSpec)) fnExactWayOfCard

/-- THE TIED CARD OF 'laws.FnExactFewestSteps'. -/
def fnExactFewestStepsCard : Claim7 := { stood := { row := fnExactFewestStepsRow, standIns := [], harness := (true, "5db50ead60cf0631b14e46081430e494913f39345a02dcc1e6d2220997522f13"), looks := false }, kinds := [], alts := [], laidByText := true, laidKinds := [.data], laidTests := true, laidLooks := .later }
def FnExactFewestStepsCardSaid : Prop := Claim7.holds Tryd.pinned (.plain (OpenSpec.ofChange fnExactFewestStepsSpec)) fnExactFewestStepsCard

/-- THE TIED CARD OF 'laws.FnExactSteepBetween'. -/
def fnExactSteepBetweenCard : Claim7 := { stood := { row := fnExactSteepBetweenRow, standIns := [], harness := (true, "5db50ead60cf0631b14e46081430e494913f39345a02dcc1e6d2220997522f13"), looks := false }, kinds := [], alts := [], laidByText := true, laidKinds := [.data], laidTests := true, laidLooks := .later }
def FnExactSteepBetweenCardSaid : Prop := Claim7.holds Tryd.pinned (.plain (OpenSpec.ofChange fnExactSteepBetweenSpec)) fnExactSteepBetweenCard

/-- THE TIED CARD OF 'laws.FnWayOf'. -/
def fnWayOfCard : Claim7 := { stood := { row := fnWayOfRow, standIns := [], harness := (true, "5db50ead60cf0631b14e46081430e494913f39345a02dcc1e6d2220997522f13"), looks := false }, kinds := [], alts := [], laidByText := true, laidKinds := [.data], laidTests := true, laidLooks := .later }
def FnWayOfCardSaid : Prop := Claim7.holds Tryd.pinned (.plain (OpenSpec.ofChange fnWayOfSpec)) fnWayOfCard

/-- THE TIED CARD OF 'laws.FnWaysBack'. -/
def fnWaysBackCard : Claim7 := { stood := { row := fnWaysBackRow, standIns := [], harness := (true, "5db50ead60cf0631b14e46081430e494913f39345a02dcc1e6d2220997522f13"), looks := false }, kinds := [], alts := [], laidByText := true, laidKinds := [.data], laidTests := true, laidLooks := .later }
def FnWaysBackCardSaid : Prop := Claim7.holds Tryd.pinned (.plain (OpenSpec.ofChange fnWaysBackSpec)) fnWaysBackCard

/-- THE SECOND FORM's CARD OF 'laws.FnClimbBetween'. -/
def fnClimbBetweenUptoCard : Claim7 := { stood := { row := fnClimbBetweenUptoRow, standIns := [], harness := (true, "5db50ead60cf0631b14e46081430e494913f39345a02dcc1e6d2220997522f13"), looks := false }, kinds := [], alts := [], laidByText := true, laidKinds := [.data], laidTests := true, laidLooks := .later }
def FnClimbBetweenUptoCardSaid : Prop := Claim7.holds Tryd.pinned (.plain (OpenSpec.upto fnClimbBetweenSpec)) fnClimbBetweenUptoCard

/-- THE SECOND FORM's CARD OF 'laws.FnClimbWithin'. -/
def fnClimbWithinUptoCard : Claim7 := { stood := { row := fnClimbWithinUptoRow, standIns := [], harness := (true, "5db50ead60cf0631b14e46081430e494913f39345a02dcc1e6d2220997522f13"), looks := false }, kinds := [], alts := [], laidByText := true, laidKinds := [.data], laidTests := true, laidLooks := .later }
def FnClimbWithinUptoCardSaid : Prop := Claim7.holds Tryd.pinned (.plain (OpenSpec.upto fnClimbWithinSpec)) fnClimbWithinUptoCard

/-- THE SECOND FORM's CARD OF 'laws.FnFewestSteps'. -/
def fnFewestStepsUptoCard : Claim7 := { stood := { row := fnFewestStepsUptoRow, standIns := [], harness := (true, "5db50ead60cf0631b14e46081430e494913f39345a02dcc1e6d2220997522f13"), looks := false }, kinds := [], alts := [], laidByText := true, laidKinds := [.data], laidTests := true, laidLooks := .later }
def FnFewestStepsUptoCardSaid : Prop := Claim7.holds Tryd.pinned (.plain (OpenSpec.upto fnFewestStepsSpec)) fnFewestStepsUptoCard

/-- THE SECOND FORM's CARD OF 'laws.FnSteepBetween'. -/
def fnSteepBetweenUptoCard : Claim7 := { stood := { row := fnSteepBetweenUptoRow, standIns := [], harness := (true, "5db50ead60cf0631b14e46081430e494913f39345a02dcc1e6d2220997522f13"), looks := false }, kinds := [], alts := [], laidByText := true, laidKinds := [.data], laidTests := true, laidLooks := .later }
def FnSteepBetweenUptoCardSaid : Prop := Claim7.holds Tryd.pinned (.plain (OpenSpec.upto fnSteepBetweenSpec)) fnSteepBetweenUptoCard

/-- THE SECOND FORM's CARD OF 'laws.FnPassesNeedClimbs'. -/
def fnPassesNeedClimbsUptoCard : Claim7 := { stood := { row := fnPassesNeedClimbsUptoRow, standIns := [], harness := (true, "5db50ead60cf0631b14e46081430e494913f39345a02dcc1e6d2220997522f13"), looks := false }, kinds := [], alts := [], laidByText := true, laidKinds := [.data], laidTests := true, laidLooks := .later }
def FnPassesNeedClimbsUptoCardSaid : Prop := Claim7.holds Tryd.pinned (.plain (OpenSpec.upto fnPassesNeedClimbsSpec)) fnPassesNeedClimbsUptoCard

/-- THE SECOND FORM's CARD OF 'laws.FnExactClimbBetween'. -/
def fnExactClimbBetweenUptoCard : Claim7 := { stood := { row := fnExactClimbBetweenUptoRow, standIns := [], harness := (true, "5db50ead60cf0631b14e46081430e494913f39345a02dcc1e6d2220997522f13"), looks := false }, kinds := [], alts := [], laidByText := true, laidKinds := [.data], laidTests := true, laidLooks := .later }
def FnExactClimbBetweenUptoCardSaid : Prop := Claim7.holds Tryd.pinned (.plain (OpenSpec.upto fnExactClimbBetweenSpec)) fnExactClimbBetweenUptoCard

/-- THE SECOND FORM's CARD OF 'laws.FnExactClimbWithin'. -/
def fnExactClimbWithinUptoCard : Claim7 := { stood := { row := fnExactClimbWithinUptoRow, standIns := [], harness := (true, "5db50ead60cf0631b14e46081430e494913f39345a02dcc1e6d2220997522f13"), looks := false }, kinds := [], alts := [], laidByText := true, laidKinds := [.data], laidTests := true, laidLooks := .later }
def FnExactClimbWithinUptoCardSaid : Prop := Claim7.holds Tryd.pinned (.plain (OpenSpec.upto fnExactClimbWithinSpec)) fnExactClimbWithinUptoCard

/-- THE SECOND FORM's CARD OF 'laws.FnExactWayOf'. -/
def fnExactWayOfUptoCard : Claim7 := { stood := { row := fnExactWayOfUptoRow, standIns := [], harness := (true, "5db50ead60cf0631b14e46081430e494913f39345a02dcc1e6d2220997522f13"), looks := false }, kinds := [], alts := [], laidByText := true, laidKinds := [.data], laidTests := true, laidLooks := .later }
def FnExactWayOfUptoCardSaid : Prop := Claim7.holds Tryd.pinned (.plain (OpenSpec.upto fnExactWayOfSpec)) fnExactWayOfUptoCard

/-- THE SECOND FORM's CARD OF 'laws.FnExactFewestSteps'. -/
def fnExactFewestStepsUptoCard : Claim7 := { stood := { row := fnExactFewestStepsUptoRow, standIns := [], harness := (true, "5db50ead60cf0631b14e46081430e494913f39345a02dcc1e6d2220997522f13"), looks := false }, kinds := [], alts := [], laidByText := true, laidKinds := [.data], laidTests := true, laidLooks := .later }
def FnExactFewestStepsUptoCardSaid : Prop := Claim7.holds Tryd.pinned (.plain (OpenSpec.upto fnExactFewestStepsSpec)) fnExactFewestStepsUptoCard

/-- THE SECOND FORM's CARD OF 'laws.FnExactSteepBetween'. -/
def fnExactSteepBetweenUptoCard : Claim7 := { stood := { row := fnExactSteepBetweenUptoRow, standIns := [], harness := (true, "5db50ead60cf0631b14e46081430e494913f39345a02dcc1e6d2220997522f13"), looks := false }, kinds := [], alts := [], laidByText := true, laidKinds := [.data], laidTests := true, laidLooks := .later }
def FnExactSteepBetweenUptoCardSaid : Prop := Claim7.holds Tryd.pinned (.plain (OpenSpec.upto fnExactSteepBetweenSpec)) fnExactSteepBetweenUptoCard

/-- THE SECOND FORM's CARD OF 'laws.FnWayOf'. -/
def fnWayOfUptoCard : Claim7 := { stood := { row := fnWayOfUptoRow, standIns := [], harness := (true, "5db50ead60cf0631b14e46081430e494913f39345a02dcc1e6d2220997522f13"), looks := false }, kinds := [], alts := [], laidByText := true, laidKinds := [.data], laidTests := true, laidLooks := .later }
def FnWayOfUptoCardSaid : Prop := Claim7.holds Tryd.pinned (.plain (OpenSpec.upto fnWayOfSpec)) fnWayOfUptoCard

/-- THE SECOND FORM's CARD OF 'laws.FnWaysBack'. -/
def fnWaysBackUptoCard : Claim7 := { stood := { row := fnWaysBackUptoRow, standIns := [], harness := (true, "5db50ead60cf0631b14e46081430e494913f39345a02dcc1e6d2220997522f13"), looks := false }, kinds := [], alts := [], laidByText := true, laidKinds := [.data], laidTests := true, laidLooks := .later }
def FnWaysBackUptoCardSaid : Prop := Claim7.holds Tryd.pinned (.plain (OpenSpec.upto fnWaysBackSpec)) fnWaysBackUptoCard
end Rows
end Go.Proofs.YtdhokofcgfolnaaDoor
