/-
  DERIVED. GIVEN WITH THE SEED: THE CARDS: each row of YteojdpfhhbcjlaaDoorRows.lean that lists a variable, with what it lists TIED to the program's text (the seventh form; the later family's looks); each row that meets fmt, with fmt's text TOLD by the authors' own Lean function (tested against real Go, not proved from fmt's source: count such statements apart). THE CARD IS WHAT COUNTS. Prove the row's statement (the work); the ties are given (YteojdpfhhbcjlaaDoorTie.lean); close each card by the builder's one call (the guide's Derived/Test/ToyasCard.lean, 'card_holds'). Laid BY PROGRAM, IN A SANDBOX (cutbox-door.mjs). By AI agents, Wed Nov 11 2026. No macro, syntax, notation, axiom, sorry.
-/
import Derived.Test.YteojdpfhhbcjlaaDoorRows
import GoSem.ClaimSeven
namespace Go.Proofs.YteojdpfhhbcjlaaDoor
namespace Rows

/-- THE TIED CARD OF 'laws.FnFlatsOf'. -/
def fnFlatsOfCard : Claim7 := { stood := { row := fnFlatsOfRow, standIns := [], harness := (true, "b24ccbaba2bae3ad4c48db9c4f33ea7808799adf6c7a019b2d8b3eb571cd5ebd"), looks := false }, kinds := [], alts := [], laidByText := true, laidKinds := [.data], laidTests := true, laidLooks := .later }
def FnFlatsOfCardSaid : Prop := Claim7.holds Tryd.pinned (.plain (OpenSpec.ofChange fnFlatsOfSpec)) fnFlatsOfCard

/-- THE TIED CARD OF 'laws.FnPeaksOf'. -/
def fnPeaksOfCard : Claim7 := { stood := { row := fnPeaksOfRow, standIns := [], harness := (true, "b24ccbaba2bae3ad4c48db9c4f33ea7808799adf6c7a019b2d8b3eb571cd5ebd"), looks := false }, kinds := [], alts := [], laidByText := true, laidKinds := [.data], laidTests := true, laidLooks := .later }
def FnPeaksOfCardSaid : Prop := Claim7.holds Tryd.pinned (.plain (OpenSpec.ofChange fnPeaksOfSpec)) fnPeaksOfCard

/-- THE TIED CARD OF 'laws.FnPitsOf'. -/
def fnPitsOfCard : Claim7 := { stood := { row := fnPitsOfRow, standIns := [], harness := (true, "b24ccbaba2bae3ad4c48db9c4f33ea7808799adf6c7a019b2d8b3eb571cd5ebd"), looks := false }, kinds := [], alts := [], laidByText := true, laidKinds := [.data], laidTests := true, laidLooks := .later }
def FnPitsOfCardSaid : Prop := Claim7.holds Tryd.pinned (.plain (OpenSpec.ofChange fnPitsOfSpec)) fnPitsOfCard

/-- THE TIED CARD OF 'laws.FnFillByQueue'. -/
def fnFillByQueueCard : Claim7 := { stood := { row := fnFillByQueueRow, standIns := [], harness := (true, "b24ccbaba2bae3ad4c48db9c4f33ea7808799adf6c7a019b2d8b3eb571cd5ebd"), looks := false }, kinds := [], alts := [], laidByText := true, laidKinds := [.data], laidTests := true, laidLooks := .later }
def FnFillByQueueCardSaid : Prop := Claim7.holds Tryd.pinned (.plain (OpenSpec.ofChange fnFillByQueueSpec)) fnFillByQueueCard

/-- THE TIED CARD OF 'laws.FnFillBySinking'. -/
def fnFillBySinkingCard : Claim7 := { stood := { row := fnFillBySinkingRow, standIns := [], harness := (true, "b24ccbaba2bae3ad4c48db9c4f33ea7808799adf6c7a019b2d8b3eb571cd5ebd"), looks := false }, kinds := [], alts := [], laidByText := true, laidKinds := [.data], laidTests := true, laidLooks := .later }
def FnFillBySinkingCardSaid : Prop := Claim7.holds Tryd.pinned (.plain (OpenSpec.ofChange fnFillBySinkingSpec)) fnFillBySinkingCard

/-- THE TIED CARD OF 'laws.FnExactFlatsOf'. -/
def fnExactFlatsOfCard : Claim7 := { stood := { row := fnExactFlatsOfRow, standIns := [], harness := (true, "b24ccbaba2bae3ad4c48db9c4f33ea7808799adf6c7a019b2d8b3eb571cd5ebd"), looks := false }, kinds := [], alts := [], laidByText := true, laidKinds := [.data], laidTests := true, laidLooks := .later }
def FnExactFlatsOfCardSaid : Prop := Claim7.holds Tryd.pinned (.plain (OpenSpec.ofChange fnExactFlatsOfSpec)) fnExactFlatsOfCard

/-- THE TIED CARD OF 'laws.FnExactPeaksOf'. -/
def fnExactPeaksOfCard : Claim7 := { stood := { row := fnExactPeaksOfRow, standIns := [], harness := (true, "b24ccbaba2bae3ad4c48db9c4f33ea7808799adf6c7a019b2d8b3eb571cd5ebd"), looks := false }, kinds := [], alts := [], laidByText := true, laidKinds := [.data], laidTests := true, laidLooks := .later }
def FnExactPeaksOfCardSaid : Prop := Claim7.holds Tryd.pinned (.plain (OpenSpec.ofChange fnExactPeaksOfSpec)) fnExactPeaksOfCard

/-- THE TIED CARD OF 'laws.FnExactPitsOf'. -/
def fnExactPitsOfCard : Claim7 := { stood := { row := fnExactPitsOfRow, standIns := [], harness := (true, "b24ccbaba2bae3ad4c48db9c4f33ea7808799adf6c7a019b2d8b3eb571cd5ebd"), looks := false }, kinds := [], alts := [], laidByText := true, laidKinds := [.data], laidTests := true, laidLooks := .later }
def FnExactPitsOfCardSaid : Prop := Claim7.holds Tryd.pinned (.plain (OpenSpec.ofChange fnExactPitsOfSpec)) fnExactPitsOfCard

/-- THE TIED CARD OF 'laws.FnExactFillByQueue'. -/
def fnExactFillByQueueCard : Claim7 := { stood := { row := fnExactFillByQueueRow, standIns := [], harness := (true, "b24ccbaba2bae3ad4c48db9c4f33ea7808799adf6c7a019b2d8b3eb571cd5ebd"), looks := false }, kinds := [], alts := [], laidByText := true, laidKinds := [.data], laidTests := true, laidLooks := .later }
def FnExactFillByQueueCardSaid : Prop := Claim7.holds Tryd.pinned (.plain (OpenSpec.ofChange fnExactFillByQueueSpec)) fnExactFillByQueueCard

/-- THE TIED CARD OF 'laws.FnExactFillBySinking'. -/
def fnExactFillBySinkingCard : Claim7 := { stood := { row := fnExactFillBySinkingRow, standIns := [], harness := (true, "b24ccbaba2bae3ad4c48db9c4f33ea7808799adf6c7a019b2d8b3eb571cd5ebd"), looks := false }, kinds := [], alts := [], laidByText := true, laidKinds := [.data], laidTests := true, laidLooks := .later }
def FnExactFillBySinkingCardSaid : Prop := Claim7.holds Tryd.pinned (.plain (OpenSpec.ofChange fnExactFillBySinkingSpec)) fnExactFillBySinkingCard

/-- THE TIED CARD OF 'laws.FnExactSpillOf'. -/
def fnExactSpillOfCard : Claim7 := { stood := { row := fnExactSpillOfRow, standIns := [], harness := (true, "b24ccbaba2bae3ad4c48db9c4f33ea7808799adf6c7a019b2d8b3eb571cd5ebd"), looks := false }, kinds := [], alts := [], laidByText := true, laidKinds := [.data], laidTests := true, laidLooks := .later }
def FnExactSpillOfCardSaid : Prop := Claim7.holds Tryd.pinned (.plain (OpenSpec.ofChange fnExactSpillOfSpec)) fnExactSpillOfCard

/-- THE TIED CARD OF 'laws.FnExactDepthsOf'. -/
def fnExactDepthsOfCard : Claim7 := { stood := { row := fnExactDepthsOfRow, standIns := [], harness := (true, "b24ccbaba2bae3ad4c48db9c4f33ea7808799adf6c7a019b2d8b3eb571cd5ebd"), looks := false }, kinds := [], alts := [], laidByText := true, laidKinds := [.data], laidTests := true, laidLooks := .later }
def FnExactDepthsOfCardSaid : Prop := Claim7.holds Tryd.pinned (.plain (OpenSpec.ofChange fnExactDepthsOfSpec)) fnExactDepthsOfCard

/-- THE SECOND FORM's CARD OF 'laws.FnFlatsOf'. -/
def fnFlatsOfUptoCard : Claim7 := { stood := { row := fnFlatsOfUptoRow, standIns := [], harness := (true, "b24ccbaba2bae3ad4c48db9c4f33ea7808799adf6c7a019b2d8b3eb571cd5ebd"), looks := false }, kinds := [], alts := [], laidByText := true, laidKinds := [.data], laidTests := true, laidLooks := .later }
def FnFlatsOfUptoCardSaid : Prop := Claim7.holds Tryd.pinned (.plain (OpenSpec.upto fnFlatsOfSpec)) fnFlatsOfUptoCard

/-- THE SECOND FORM's CARD OF 'laws.FnPeaksOf'. -/
def fnPeaksOfUptoCard : Claim7 := { stood := { row := fnPeaksOfUptoRow, standIns := [], harness := (true, "b24ccbaba2bae3ad4c48db9c4f33ea7808799adf6c7a019b2d8b3eb571cd5ebd"), looks := false }, kinds := [], alts := [], laidByText := true, laidKinds := [.data], laidTests := true, laidLooks := .later }
def FnPeaksOfUptoCardSaid : Prop := Claim7.holds Tryd.pinned (.plain (OpenSpec.upto fnPeaksOfSpec)) fnPeaksOfUptoCard

/-- THE SECOND FORM's CARD OF 'laws.FnPitsOf'. -/
def fnPitsOfUptoCard : Claim7 := { stood := { row := fnPitsOfUptoRow, standIns := [], harness := (true, "b24ccbaba2bae3ad4c48db9c4f33ea7808799adf6c7a019b2d8b3eb571cd5ebd"), looks := false }, kinds := [], alts := [], laidByText := true, laidKinds := [.data], laidTests := true, laidLooks := .later }
def FnPitsOfUptoCardSaid : Prop := Claim7.holds Tryd.pinned (.plain (OpenSpec.upto fnPitsOfSpec)) fnPitsOfUptoCard

/-- THE SECOND FORM's CARD OF 'laws.FnFillByQueue'. -/
def fnFillByQueueUptoCard : Claim7 := { stood := { row := fnFillByQueueUptoRow, standIns := [], harness := (true, "b24ccbaba2bae3ad4c48db9c4f33ea7808799adf6c7a019b2d8b3eb571cd5ebd"), looks := false }, kinds := [], alts := [], laidByText := true, laidKinds := [.data], laidTests := true, laidLooks := .later }
def FnFillByQueueUptoCardSaid : Prop := Claim7.holds Tryd.pinned (.plain (OpenSpec.upto fnFillByQueueSpec)) fnFillByQueueUptoCard

/-- THE SECOND FORM's CARD OF 'laws.FnFillBySinking'. -/
def fnFillBySinkingUptoCard : Claim7 := { stood := { row := fnFillBySinkingUptoRow, standIns := [], harness := (true, "b24ccbaba2bae3ad4c48db9c4f33ea7808799adf6c7a019b2d8b3eb571cd5ebd"), looks := false }, kinds := [], alts := [], laidByText := true, laidKinds := [.data], laidTests := true, laidLooks := .later }
def FnFillBySinkingUptoCardSaid : Prop := Claim7.holds Tryd.pinned (.plain (OpenSpec.upto fnFillBySinkingSpec)) fnFillBySinkingUptoCard

/-- THE SECOND FORM's CARD OF 'laws.FnExactFlatsOf'. -/
def fnExactFlatsOfUptoCard : Claim7 := { stood := { row := fnExactFlatsOfUptoRow, standIns := [], harness := (true, "b24ccbaba2bae3ad4c48db9c4f33ea7808799adf6c7a019b2d8b3eb571cd5ebd"), looks := false }, kinds := [], alts := [], laidByText := true, laidKinds := [.data], laidTests := true, laidLooks := .later }
def FnExactFlatsOfUptoCardSaid : Prop := Claim7.holds Tryd.pinned (.plain (OpenSpec.upto fnExactFlatsOfSpec)) fnExactFlatsOfUptoCard

/-- THE SECOND FORM's CARD OF 'laws.FnExactPeaksOf'. -/
def fnExactPeaksOfUptoCard : Claim7 := { stood := { row := fnExactPeaksOfUptoRow, standIns := [], harness := (true, "b24ccbaba2bae3ad4c48db9c4f33ea7808799adf6c7a019b2d8b3eb571cd5ebd"), looks := false }, kinds := [], alts := [], laidByText := true, laidKinds := [.data], laidTests := true, laidLooks := .later }
def FnExactPeaksOfUptoCardSaid : Prop := Claim7.holds Tryd.pinned (.plain (OpenSpec.upto fnExactPeaksOfSpec)) fnExactPeaksOfUptoCard

/-- THE SECOND FORM's CARD OF 'laws.FnExactPitsOf'. -/
def fnExactPitsOfUptoCard : Claim7 := { stood := { row := fnExactPitsOfUptoRow, standIns := [], harness := (true, "b24ccbaba2bae3ad4c48db9c4f33ea7808799adf6c7a019b2d8b3eb571cd5ebd"), looks := false }, kinds := [], alts := [], laidByText := true, laidKinds := [.data], laidTests := true, laidLooks := .later }
def FnExactPitsOfUptoCardSaid : Prop := Claim7.holds Tryd.pinned (.plain (OpenSpec.upto fnExactPitsOfSpec)) fnExactPitsOfUptoCard

/-- THE SECOND FORM's CARD OF 'laws.FnExactFillByQueue'. -/
def fnExactFillByQueueUptoCard : Claim7 := { stood := { row := fnExactFillByQueueUptoRow, standIns := [], harness := (true, "b24ccbaba2bae3ad4c48db9c4f33ea7808799adf6c7a019b2d8b3eb571cd5ebd"), looks := false }, kinds := [], alts := [], laidByText := true, laidKinds := [.data], laidTests := true, laidLooks := .later }
def FnExactFillByQueueUptoCardSaid : Prop := Claim7.holds Tryd.pinned (.plain (OpenSpec.upto fnExactFillByQueueSpec)) fnExactFillByQueueUptoCard

/-- THE SECOND FORM's CARD OF 'laws.FnExactFillBySinking'. -/
def fnExactFillBySinkingUptoCard : Claim7 := { stood := { row := fnExactFillBySinkingUptoRow, standIns := [], harness := (true, "b24ccbaba2bae3ad4c48db9c4f33ea7808799adf6c7a019b2d8b3eb571cd5ebd"), looks := false }, kinds := [], alts := [], laidByText := true, laidKinds := [.data], laidTests := true, laidLooks := .later }
def FnExactFillBySinkingUptoCardSaid : Prop := Claim7.holds Tryd.pinned (.plain (OpenSpec.upto fnExactFillBySinkingSpec)) fnExactFillBySinkingUptoCard

/-- THE SECOND FORM's CARD OF 'laws.FnExactSpillOf'. -/
def fnExactSpillOfUptoCard : Claim7 := { stood := { row := fnExactSpillOfUptoRow, standIns := [], harness := (true, "b24ccbaba2bae3ad4c48db9c4f33ea7808799adf6c7a019b2d8b3eb571cd5ebd"), looks := false }, kinds := [], alts := [], laidByText := true, laidKinds := [.data], laidTests := true, laidLooks := .later }
def FnExactSpillOfUptoCardSaid : Prop := Claim7.holds Tryd.pinned (.plain (OpenSpec.upto fnExactSpillOfSpec)) fnExactSpillOfUptoCard

/-- THE SECOND FORM's CARD OF 'laws.FnExactDepthsOf'. -/
def fnExactDepthsOfUptoCard : Claim7 := { stood := { row := fnExactDepthsOfUptoRow, standIns := [], harness := (true, "b24ccbaba2bae3ad4c48db9c4f33ea7808799adf6c7a019b2d8b3eb571cd5ebd"), looks := false }, kinds := [], alts := [], laidByText := true, laidKinds := [.data], laidTests := true, laidLooks := .later }
def FnExactDepthsOfUptoCardSaid : Prop := Claim7.holds Tryd.pinned (.plain (OpenSpec.upto fnExactDepthsOfSpec)) fnExactDepthsOfUptoCard
end Rows
end Go.Proofs.YteojdpfhhbcjlaaDoor
