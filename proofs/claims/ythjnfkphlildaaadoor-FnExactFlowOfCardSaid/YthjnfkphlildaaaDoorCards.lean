/-
  DERIVED. GIVEN WITH THE SEED: THE CARDS: each row of YthjnfkphlildaaaDoorRows.lean that lists a variable, with what it lists TIED to the program's text (the seventh form; the later family's looks); each row that meets fmt, with fmt's text TOLD by the authors' own Lean function (tested against real Go, not proved from fmt's source: count such statements apart). THE CARD IS WHAT COUNTS. Prove the row's statement (the work); the ties are given (YthjnfkphlildaaaDoorTie.lean); close each card by the builder's one call (the guide's Derived/Test/ToyasCard.lean, 'card_holds'). Laid BY PROGRAM, IN A SANDBOX (cutbox-door.mjs). By AI agents, Wed Nov 11 2026. No macro, syntax, notation, axiom, sorry.
-/
import Derived.Test.YthjnfkphlildaaaDoorRows
import GoSem.ClaimSeven
namespace Go.Proofs.YthjnfkphlildaaaDoor
namespace Rows

/-- THE TIED CARD OF 'laws.FnFlatsOf'. -/
def fnFlatsOfCard : Claim7 := { stood := { row := fnFlatsOfRow, standIns := [], harness := (true, "37f8fc7a80645d6a0291963b6d9cdb0057ef542ba467e5bd1081cf6e5fe4fd3d"), looks := false }, kinds := [], alts := [], laidByText := true, laidKinds := [.data], laidTests := true, laidLooks := .later }
def FnFlatsOfCardSaid : Prop := Claim7.holds Tryd.pinned (.plain (OpenSpec.ofChange fnFlatsOfSpec)) fnFlatsOfCard

/-- THE TIED CARD OF 'laws.FnFillByQueue'. -/
def fnFillByQueueCard : Claim7 := { stood := { row := fnFillByQueueRow, standIns := [], harness := (true, "37f8fc7a80645d6a0291963b6d9cdb0057ef542ba467e5bd1081cf6e5fe4fd3d"), looks := false }, kinds := [], alts := [], laidByText := true, laidKinds := [.data], laidTests := true, laidLooks := .later }
def FnFillByQueueCardSaid : Prop := Claim7.holds Tryd.pinned (.plain (OpenSpec.ofChange fnFillByQueueSpec)) fnFillByQueueCard

/-- THE TIED CARD OF 'laws.FnFillBySinking'. -/
def fnFillBySinkingCard : Claim7 := { stood := { row := fnFillBySinkingRow, standIns := [], harness := (true, "37f8fc7a80645d6a0291963b6d9cdb0057ef542ba467e5bd1081cf6e5fe4fd3d"), looks := false }, kinds := [], alts := [], laidByText := true, laidKinds := [.data], laidTests := true, laidLooks := .later }
def FnFillBySinkingCardSaid : Prop := Claim7.holds Tryd.pinned (.plain (OpenSpec.ofChange fnFillBySinkingSpec)) fnFillBySinkingCard

/-- THE TIED CARD OF 'laws.FnSpillOf'. -/
def fnSpillOfCard : Claim7 := { stood := { row := fnSpillOfRow, standIns := [], harness := (true, "37f8fc7a80645d6a0291963b6d9cdb0057ef542ba467e5bd1081cf6e5fe4fd3d"), looks := false }, kinds := [], alts := [], laidByText := true, laidKinds := [.data], laidTests := true, laidLooks := .later }
def FnSpillOfCardSaid : Prop := Claim7.holds Tryd.pinned (.plain (OpenSpec.ofChange fnSpillOfSpec)) fnSpillOfCard

/-- THE TIED CARD OF 'laws.FnDepthsOf'. -/
def fnDepthsOfCard : Claim7 := { stood := { row := fnDepthsOfRow, standIns := [], harness := (true, "37f8fc7a80645d6a0291963b6d9cdb0057ef542ba467e5bd1081cf6e5fe4fd3d"), looks := false }, kinds := [], alts := [], laidByText := true, laidKinds := [.data], laidTests := true, laidLooks := .later }
def FnDepthsOfCardSaid : Prop := Claim7.holds Tryd.pinned (.plain (OpenSpec.ofChange fnDepthsOfSpec)) fnDepthsOfCard

/-- THE TIED CARD OF 'laws.FnFlowOf'. -/
def fnFlowOfCard : Claim7 := { stood := { row := fnFlowOfRow, standIns := [], harness := (true, "37f8fc7a80645d6a0291963b6d9cdb0057ef542ba467e5bd1081cf6e5fe4fd3d"), looks := false }, kinds := [], alts := [], laidByText := true, laidKinds := [.data], laidTests := true, laidLooks := .later }
def FnFlowOfCardSaid : Prop := Claim7.holds Tryd.pinned (.plain (OpenSpec.ofChange fnFlowOfSpec)) fnFlowOfCard

/-- THE TIED CARD OF 'laws.FnExactFlatsOf'. -/
def fnExactFlatsOfCard : Claim7 := { stood := { row := fnExactFlatsOfRow, standIns := [], harness := (true, "37f8fc7a80645d6a0291963b6d9cdb0057ef542ba467e5bd1081cf6e5fe4fd3d"), looks := false }, kinds := [], alts := [], laidByText := true, laidKinds := [.data], laidTests := true, laidLooks := .later }
def FnExactFlatsOfCardSaid : Prop := Claim7.holds Tryd.pinned (.plain (OpenSpec.ofChange fnExactFlatsOfSpec)) fnExactFlatsOfCard

/-- THE TIED CARD OF 'laws.FnExactFillByQueue'. -/
def fnExactFillByQueueCard : Claim7 := { stood := { row := fnExactFillByQueueRow, standIns := [], harness := (true, "37f8fc7a80645d6a0291963b6d9cdb0057ef542ba467e5bd1081cf6e5fe4fd3d"), looks := false }, kinds := [], alts := [], laidByText := true, laidKinds := [.data], laidTests := true, laidLooks := .later }
def FnExactFillByQueueCardSaid : Prop := Claim7.holds Tryd.pinned (.plain (OpenSpec.ofChange fnExactFillByQueueSpec)) fnExactFillByQueueCard

/-- THE TIED CARD OF 'laws.FnExactFillBySinking'. -/
def fnExactFillBySinkingCard : Claim7 := { stood := { row := fnExactFillBySinkingRow, standIns := [], harness := (true, "37f8fc7a80645d6a0291963b6d9cdb0057ef542ba467e5bd1081cf6e5fe4fd3d"), looks := false }, kinds := [], alts := [], laidByText := true, laidKinds := [.data], laidTests := true, laidLooks := .later }
def FnExactFillBySinkingCardSaid : Prop := Claim7.holds Tryd.pinned (.plain (OpenSpec.ofChange fnExactFillBySinkingSpec)) fnExactFillBySinkingCard

/-- THE TIED CARD OF 'laws.FnExactSpillOf'. -/
def fnExactSpillOfCard : Claim7 := { stood := { row := fnExactSpillOfRow, standIns := [], harness := (true, "37f8fc7a80645d6a0291963b6d9cdb0057ef542ba467e5bd1081cf6e5fe4fd3d"), looks := false }, kinds := [], alts := [], laidByText := true, laidKinds := [.data], laidTests := true, laidLooks := .later }
def FnExactSpillOfCardSaid : Prop := Claim7.holds Tryd.pinned (.plain (OpenSpec.ofChange fnExactSpillOfSpec)) fnExactSpillOfCard

/-- THE TIED CARD OF 'laws.FnExactDepthsOf'. -/
def fnExactDepthsOfCard : Claim7 := { stood := { row := fnExactDepthsOfRow, standIns := [], harness := (true, "37f8fc7a80645d6a0291963b6d9cdb0057ef542ba467e5bd1081cf6e5fe4fd3d"), looks := false }, kinds := [], alts := [], laidByText := true, laidKinds := [.data], laidTests := true, laidLooks := .later }
def FnExactDepthsOfCardSaid : Prop := Claim7.holds Tryd.pinned (.plain (OpenSpec.ofChange fnExactDepthsOfSpec)) fnExactDepthsOfCard

/-- THE TIED CARD OF 'laws.FnExactFlowOf'. -/
def fnExactFlowOfCard : Claim7 := { stood := { row := fnExactFlowOfRow, standIns := [], harness := (true, "37f8fc7a80645d6a0291963b6d9cdb0057ef542ba467e5bd1081cf6e5fe4fd3d"), looks := false }, kinds := [], alts := [], laidByText := true, laidKinds := [.data], laidTests := true, laidLooks := .later }
def FnExactFlowOfCardSaid : Prop := Claim7.holds Tryd.pinned (.plain (OpenSpec.ofChange fnExactFlowOfSpec)) fnExactFlowOfCard

/-- THE SECOND FORM's CARD OF 'laws.FnFlatsOf'. -/
def fnFlatsOfUptoCard : Claim7 := { stood := { row := fnFlatsOfUptoRow, standIns := [], harness := (true, "37f8fc7a80645d6a0291963b6d9cdb0057ef542ba467e5bd1081cf6e5fe4fd3d"), looks := false }, kinds := [], alts := [], laidByText := true, laidKinds := [.data], laidTests := true, laidLooks := .later }
def FnFlatsOfUptoCardSaid : Prop := Claim7.holds Tryd.pinned (.plain (OpenSpec.upto fnFlatsOfSpec)) fnFlatsOfUptoCard

/-- THE SECOND FORM's CARD OF 'laws.FnFillByQueue'. -/
def fnFillByQueueUptoCard : Claim7 := { stood := { row := fnFillByQueueUptoRow, standIns := [], harness := (true, "37f8fc7a80645d6a0291963b6d9cdb0057ef542ba467e5bd1081cf6e5fe4fd3d"), looks := false }, kinds := [], alts := [], laidByText := true, laidKinds := [.data], laidTests := true, laidLooks := .later }
def FnFillByQueueUptoCardSaid : Prop := Claim7.holds Tryd.pinned (.plain (OpenSpec.upto fnFillByQueueSpec)) fnFillByQueueUptoCard

/-- THE SECOND FORM's CARD OF 'laws.FnFillBySinking'. -/
def fnFillBySinkingUptoCard : Claim7 := { stood := { row := fnFillBySinkingUptoRow, standIns := [], harness := (true, "37f8fc7a80645d6a0291963b6d9cdb0057ef542ba467e5bd1081cf6e5fe4fd3d"), looks := false }, kinds := [], alts := [], laidByText := true, laidKinds := [.data], laidTests := true, laidLooks := .later }
def FnFillBySinkingUptoCardSaid : Prop := Claim7.holds Tryd.pinned (.plain (OpenSpec.upto fnFillBySinkingSpec)) fnFillBySinkingUptoCard

/-- THE SECOND FORM's CARD OF 'laws.FnSpillOf'. -/
def fnSpillOfUptoCard : Claim7 := { stood := { row := fnSpillOfUptoRow, standIns := [], harness := (true, "37f8fc7a80645d6a0291963b6d9cdb0057ef542ba467e5bd1081cf6e5fe4fd3d"), looks := false }, kinds := [], alts := [], laidByText := true, laidKinds := [.data], laidTests := true, laidLooks := .later }
def FnSpillOfUptoCardSaid : Prop := Claim7.holds Tryd.pinned (.plain (OpenSpec.upto fnSpillOfSpec)) fnSpillOfUptoCard

/-- THE SECOND FORM's CARD OF 'laws.FnDepthsOf'. -/
def fnDepthsOfUptoCard : Claim7 := { stood := { row := fnDepthsOfUptoRow, standIns := [], harness := (true, "37f8fc7a80645d6a0291963b6d9cdb0057ef542ba467e5bd1081cf6e5fe4fd3d"), looks := false }, kinds := [], alts := [], laidByText := true, laidKinds := [.data], laidTests := true, laidLooks := .later }
def FnDepthsOfUptoCardSaid : Prop := Claim7.holds Tryd.pinned (.plain (OpenSpec.upto fnDepthsOfSpec)) fnDepthsOfUptoCard

/-- THE SECOND FORM's CARD OF 'laws.FnFlowOf'. -/
def fnFlowOfUptoCard : Claim7 := { stood := { row := fnFlowOfUptoRow, standIns := [], harness := (true, "37f8fc7a80645d6a0291963b6d9cdb0057ef542ba467e5bd1081cf6e5fe4fd3d"), looks := false }, kinds := [], alts := [], laidByText := true, laidKinds := [.data], laidTests := true, laidLooks := .later }
def FnFlowOfUptoCardSaid : Prop := Claim7.holds Tryd.pinned (.plain (OpenSpec.upto fnFlowOfSpec)) fnFlowOfUptoCard

/-- THE SECOND FORM's CARD OF 'laws.FnExactFlatsOf'. -/
def fnExactFlatsOfUptoCard : Claim7 := { stood := { row := fnExactFlatsOfUptoRow, standIns := [], harness := (true, "37f8fc7a80645d6a0291963b6d9cdb0057ef542ba467e5bd1081cf6e5fe4fd3d"), looks := false }, kinds := [], alts := [], laidByText := true, laidKinds := [.data], laidTests := true, laidLooks := .later }
def FnExactFlatsOfUptoCardSaid : Prop := Claim7.holds Tryd.pinned (.plain (OpenSpec.upto fnExactFlatsOfSpec)) fnExactFlatsOfUptoCard

/-- THE SECOND FORM's CARD OF 'laws.FnExactFillByQueue'. -/
def fnExactFillByQueueUptoCard : Claim7 := { stood := { row := fnExactFillByQueueUptoRow, standIns := [], harness := (true, "37f8fc7a80645d6a0291963b6d9cdb0057ef542ba467e5bd1081cf6e5fe4fd3d"), looks := false }, kinds := [], alts := [], laidByText := true, laidKinds := [.data], laidTests := true, laidLooks := .later }
def FnExactFillByQueueUptoCardSaid : Prop := Claim7.holds Tryd.pinned (.plain (OpenSpec.upto fnExactFillByQueueSpec)) fnExactFillByQueueUptoCard

/-- THE SECOND FORM's CARD OF 'laws.FnExactFillBySinking'. -/
def fnExactFillBySinkingUptoCard : Claim7 := { stood := { row := fnExactFillBySinkingUptoRow, standIns := [], harness := (true, "37f8fc7a80645d6a0291963b6d9cdb0057ef542ba467e5bd1081cf6e5fe4fd3d"), looks := false }, kinds := [], alts := [], laidByText := true, laidKinds := [.data], laidTests := true, laidLooks := .later }
def FnExactFillBySinkingUptoCardSaid : Prop := Claim7.holds Tryd.pinned (.plain (OpenSpec.upto fnExactFillBySinkingSpec)) fnExactFillBySinkingUptoCard

/-- THE SECOND FORM's CARD OF 'laws.FnExactSpillOf'. -/
def fnExactSpillOfUptoCard : Claim7 := { stood := { row := fnExactSpillOfUptoRow, standIns := [], harness := (true, "37f8fc7a80645d6a0291963b6d9cdb0057ef542ba467e5bd1081cf6e5fe4fd3d"), looks := false }, kinds := [], alts := [], laidByText := true, laidKinds := [.data], laidTests := true, laidLooks := .later }
def FnExactSpillOfUptoCardSaid : Prop := Claim7.holds Tryd.pinned (.plain (OpenSpec.upto fnExactSpillOfSpec)) fnExactSpillOfUptoCard

/-- THE SECOND FORM's CARD OF 'laws.FnExactDepthsOf'. -/
def fnExactDepthsOfUptoCard : Claim7 := { stood := { row := fnExactDepthsOfUptoRow, standIns := [], harness := (true, "37f8fc7a80645d6a0291963b6d9cdb0057ef542ba467e5bd1081cf6e5fe4fd3d"), looks := false }, kinds := [], alts := [], laidByText := true, laidKinds := [.data], laidTests := true, laidLooks := .later }
def FnExactDepthsOfUptoCardSaid : Prop := Claim7.holds Tryd.pinned (.plain (OpenSpec.upto fnExactDepthsOfSpec)) fnExactDepthsOfUptoCard

/-- THE SECOND FORM's CARD OF 'laws.FnExactFlowOf'. -/
def fnExactFlowOfUptoCard : Claim7 := { stood := { row := fnExactFlowOfUptoRow, standIns := [], harness := (true, "37f8fc7a80645d6a0291963b6d9cdb0057ef542ba467e5bd1081cf6e5fe4fd3d"), looks := false }, kinds := [], alts := [], laidByText := true, laidKinds := [.data], laidTests := true, laidLooks := .later }
def FnExactFlowOfUptoCardSaid : Prop := Claim7.holds Tryd.pinned (.plain (OpenSpec.upto fnExactFlowOfSpec)) fnExactFlowOfUptoCard
end Rows
end Go.Proofs.YthjnfkphlildaaaDoor
