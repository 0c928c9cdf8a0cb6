/-
  DERIVED. GIVEN WITH THE SEED: THE CARDS: each row of YtgecghngfonejaaDoorRows.lean that lists a variable, with what it lists TIED to the program's text (the seventh form; the later family's looks); each row that meets fmt, with fmt's text TOLD by the authors' own Lean function (tested against real Go, not proved from fmt's source: count such statements apart). THE CARD IS WHAT COUNTS. Prove the row's statement (the work); the ties are given (YtgecghngfonejaaDoorTie.lean); close each card by the builder's one call (the guide's Derived/Test/ToyasCard.lean, 'card_holds'). Laid BY PROGRAM, IN A SANDBOX (cutbox-door.mjs). By AI agents, Wed Nov 11 2026. No macro, syntax, notation, axiom, sorry.
-/
import Derived.Test.YtgecghngfonejaaDoorRows
import GoSem.ClaimSeven
namespace Go.Proofs.YtgecghngfonejaaDoor
namespace Rows

/-- THE TIED CARD OF 'laws.FnWaterOf'. -/
def fnWaterOfCard : Claim7 := { stood := { row := fnWaterOfRow, standIns := [], harness := (true, "e42f6fca8849866b03de955c0aa85db7272092473fcd6270c5da6d5ad189bbc5"), looks := false }, kinds := [], alts := [], laidByText := true, laidKinds := [.data], laidTests := true, laidLooks := .later }
def FnWaterOfCardSaid : Prop := Claim7.holds Tryd.pinned (.plain (OpenSpec.ofChange fnWaterOfSpec)) fnWaterOfCard

/-- THE TIED CARD OF 'laws.FnLakesOf'. -/
def fnLakesOfCard : Claim7 := { stood := { row := fnLakesOfRow, standIns := [], harness := (true, "e42f6fca8849866b03de955c0aa85db7272092473fcd6270c5da6d5ad189bbc5"), looks := false }, kinds := [], alts := [], laidByText := true, laidKinds := [.data], laidTests := true, laidLooks := .later }
def FnLakesOfCardSaid : Prop := Claim7.holds Tryd.pinned (.plain (OpenSpec.ofChange fnLakesOfSpec)) fnLakesOfCard

/-- THE TIED CARD OF 'laws.FnLakesHoldAll'. -/
def fnLakesHoldAllCard : Claim7 := { stood := { row := fnLakesHoldAllRow, standIns := [], harness := (true, "e42f6fca8849866b03de955c0aa85db7272092473fcd6270c5da6d5ad189bbc5"), looks := false }, kinds := [], alts := [], laidByText := true, laidKinds := [.data], laidTests := true, laidLooks := .later }
def FnLakesHoldAllCardSaid : Prop := Claim7.holds Tryd.pinned (.plain (OpenSpec.ofChange fnLakesHoldAllSpec)) fnLakesHoldAllCard

/-- THE TIED CARD OF 'laws.FnWaterFlowsOnWater'. -/
def fnWaterFlowsOnWaterCard : Claim7 := { stood := { row := fnWaterFlowsOnWaterRow, standIns := [], harness := (true, "e42f6fca8849866b03de955c0aa85db7272092473fcd6270c5da6d5ad189bbc5"), looks := false }, kinds := [], alts := [], laidByText := true, laidKinds := [.data], laidTests := true, laidLooks := .later }
def FnWaterFlowsOnWaterCardSaid : Prop := Claim7.holds Tryd.pinned (.plain (OpenSpec.ofChange fnWaterFlowsOnWaterSpec)) fnWaterFlowsOnWaterCard

/-- THE TIED CARD OF 'laws.FnHigherFillsHigher'. -/
def fnHigherFillsHigherCard : Claim7 := { stood := { row := fnHigherFillsHigherRow, standIns := [], harness := (true, "e42f6fca8849866b03de955c0aa85db7272092473fcd6270c5da6d5ad189bbc5"), looks := false }, kinds := [], alts := [], laidByText := true, laidKinds := [.data], laidTests := true, laidLooks := .later }
def FnHigherFillsHigherCardSaid : Prop := Claim7.holds Tryd.pinned (.plain (OpenSpec.ofChange fnHigherFillsHigherSpec)) fnHigherFillsHigherCard

/-- THE TIED CARD OF 'laws.FnExactWaterOf'. -/
def fnExactWaterOfCard : Claim7 := { stood := { row := fnExactWaterOfRow, standIns := [], harness := (true, "e42f6fca8849866b03de955c0aa85db7272092473fcd6270c5da6d5ad189bbc5"), looks := false }, kinds := [], alts := [], laidByText := true, laidKinds := [.data], laidTests := true, laidLooks := .later }
def FnExactWaterOfCardSaid : Prop := Claim7.holds Tryd.pinned (.plain (OpenSpec.ofChange fnExactWaterOfSpec)) fnExactWaterOfCard

/-- THE TIED CARD OF 'laws.FnExactLakesOf'. -/
def fnExactLakesOfCard : Claim7 := { stood := { row := fnExactLakesOfRow, standIns := [], harness := (true, "e42f6fca8849866b03de955c0aa85db7272092473fcd6270c5da6d5ad189bbc5"), looks := false }, kinds := [], alts := [], laidByText := true, laidKinds := [.data], laidTests := true, laidLooks := .later }
def FnExactLakesOfCardSaid : Prop := Claim7.holds Tryd.pinned (.plain (OpenSpec.ofChange fnExactLakesOfSpec)) fnExactLakesOfCard

/-- THE TIED CARD OF 'laws.FnAroundOf'. -/
def fnAroundOfCard : Claim7 := { stood := { row := fnAroundOfRow, standIns := [], harness := (true, "e42f6fca8849866b03de955c0aa85db7272092473fcd6270c5da6d5ad189bbc5"), looks := false }, kinds := [], alts := [], laidByText := true, laidKinds := [.data], laidTests := true, laidLooks := .later }
def FnAroundOfCardSaid : Prop := Claim7.holds Tryd.pinned (.plain (OpenSpec.ofChange fnAroundOfSpec)) fnAroundOfCard

/-- THE TIED CARD OF 'laws.FnOnEdge'. -/
def fnOnEdgeCard : Claim7 := { stood := { row := fnOnEdgeRow, standIns := [], harness := (true, "e42f6fca8849866b03de955c0aa85db7272092473fcd6270c5da6d5ad189bbc5"), looks := false }, kinds := [], alts := [], laidByText := true, laidKinds := [.data], laidTests := true, laidLooks := .later }
def FnOnEdgeCardSaid : Prop := Claim7.holds Tryd.pinned (.plain (OpenSpec.ofChange fnOnEdgeSpec)) fnOnEdgeCard

/-- THE TIED CARD OF 'laws.FnExactAroundOf'. -/
def fnExactAroundOfCard : Claim7 := { stood := { row := fnExactAroundOfRow, standIns := [], harness := (true, "e42f6fca8849866b03de955c0aa85db7272092473fcd6270c5da6d5ad189bbc5"), looks := false }, kinds := [], alts := [], laidByText := true, laidKinds := [.data], laidTests := true, laidLooks := .later }
def FnExactAroundOfCardSaid : Prop := Claim7.holds Tryd.pinned (.plain (OpenSpec.ofChange fnExactAroundOfSpec)) fnExactAroundOfCard

/-- THE TIED CARD OF 'laws.FnExactOnEdge'. -/
def fnExactOnEdgeCard : Claim7 := { stood := { row := fnExactOnEdgeRow, standIns := [], harness := (true, "e42f6fca8849866b03de955c0aa85db7272092473fcd6270c5da6d5ad189bbc5"), looks := false }, kinds := [], alts := [], laidByText := true, laidKinds := [.data], laidTests := true, laidLooks := .later }
def FnExactOnEdgeCardSaid : Prop := Claim7.holds Tryd.pinned (.plain (OpenSpec.ofChange fnExactOnEdgeSpec)) fnExactOnEdgeCard

/-- THE TIED CARD OF 'laws.FnExactRimAt'. -/
def fnExactRimAtCard : Claim7 := { stood := { row := fnExactRimAtRow, standIns := [], harness := (true, "e42f6fca8849866b03de955c0aa85db7272092473fcd6270c5da6d5ad189bbc5"), looks := false }, kinds := [], alts := [], laidByText := true, laidKinds := [.data], laidTests := true, laidLooks := .later }
def FnExactRimAtCardSaid : Prop := Claim7.holds Tryd.pinned (.plain (OpenSpec.ofChange fnExactRimAtSpec)) fnExactRimAtCard

/-- THE SECOND FORM's CARD OF 'laws.FnWaterOf'. -/
def fnWaterOfUptoCard : Claim7 := { stood := { row := fnWaterOfUptoRow, standIns := [], harness := (true, "e42f6fca8849866b03de955c0aa85db7272092473fcd6270c5da6d5ad189bbc5"), looks := false }, kinds := [], alts := [], laidByText := true, laidKinds := [.data], laidTests := true, laidLooks := .later }
def FnWaterOfUptoCardSaid : Prop := Claim7.holds Tryd.pinned (.plain (OpenSpec.upto fnWaterOfSpec)) fnWaterOfUptoCard

/-- THE SECOND FORM's CARD OF 'laws.FnLakesOf'. -/
def fnLakesOfUptoCard : Claim7 := { stood := { row := fnLakesOfUptoRow, standIns := [], harness := (true, "e42f6fca8849866b03de955c0aa85db7272092473fcd6270c5da6d5ad189bbc5"), looks := false }, kinds := [], alts := [], laidByText := true, laidKinds := [.data], laidTests := true, laidLooks := .later }
def FnLakesOfUptoCardSaid : Prop := Claim7.holds Tryd.pinned (.plain (OpenSpec.upto fnLakesOfSpec)) fnLakesOfUptoCard

/-- THE SECOND FORM's CARD OF 'laws.FnLakesHoldAll'. -/
def fnLakesHoldAllUptoCard : Claim7 := { stood := { row := fnLakesHoldAllUptoRow, standIns := [], harness := (true, "e42f6fca8849866b03de955c0aa85db7272092473fcd6270c5da6d5ad189bbc5"), looks := false }, kinds := [], alts := [], laidByText := true, laidKinds := [.data], laidTests := true, laidLooks := .later }
def FnLakesHoldAllUptoCardSaid : Prop := Claim7.holds Tryd.pinned (.plain (OpenSpec.upto fnLakesHoldAllSpec)) fnLakesHoldAllUptoCard

/-- THE SECOND FORM's CARD OF 'laws.FnWaterFlowsOnWater'. -/
def fnWaterFlowsOnWaterUptoCard : Claim7 := { stood := { row := fnWaterFlowsOnWaterUptoRow, standIns := [], harness := (true, "e42f6fca8849866b03de955c0aa85db7272092473fcd6270c5da6d5ad189bbc5"), looks := false }, kinds := [], alts := [], laidByText := true, laidKinds := [.data], laidTests := true, laidLooks := .later }
def FnWaterFlowsOnWaterUptoCardSaid : Prop := Claim7.holds Tryd.pinned (.plain (OpenSpec.upto fnWaterFlowsOnWaterSpec)) fnWaterFlowsOnWaterUptoCard

/-- THE SECOND FORM's CARD OF 'laws.FnHigherFillsHigher'. -/
def fnHigherFillsHigherUptoCard : Claim7 := { stood := { row := fnHigherFillsHigherUptoRow, standIns := [], harness := (true, "e42f6fca8849866b03de955c0aa85db7272092473fcd6270c5da6d5ad189bbc5"), looks := false }, kinds := [], alts := [], laidByText := true, laidKinds := [.data], laidTests := true, laidLooks := .later }
def FnHigherFillsHigherUptoCardSaid : Prop := Claim7.holds Tryd.pinned (.plain (OpenSpec.upto fnHigherFillsHigherSpec)) fnHigherFillsHigherUptoCard

/-- THE SECOND FORM's CARD OF 'laws.FnExactWaterOf'. -/
def fnExactWaterOfUptoCard : Claim7 := { stood := { row := fnExactWaterOfUptoRow, standIns := [], harness := (true, "e42f6fca8849866b03de955c0aa85db7272092473fcd6270c5da6d5ad189bbc5"), looks := false }, kinds := [], alts := [], laidByText := true, laidKinds := [.data], laidTests := true, laidLooks := .later }
def FnExactWaterOfUptoCardSaid : Prop := Claim7.holds Tryd.pinned (.plain (OpenSpec.upto fnExactWaterOfSpec)) fnExactWaterOfUptoCard

/-- THE SECOND FORM's CARD OF 'laws.FnExactLakesOf'. -/
def fnExactLakesOfUptoCard : Claim7 := { stood := { row := fnExactLakesOfUptoRow, standIns := [], harness := (true, "e42f6fca8849866b03de955c0aa85db7272092473fcd6270c5da6d5ad189bbc5"), looks := false }, kinds := [], alts := [], laidByText := true, laidKinds := [.data], laidTests := true, laidLooks := .later }
def FnExactLakesOfUptoCardSaid : Prop := Claim7.holds Tryd.pinned (.plain (OpenSpec.upto fnExactLakesOfSpec)) fnExactLakesOfUptoCard

/-- THE SECOND FORM's CARD OF 'laws.FnAroundOf'. -/
def fnAroundOfUptoCard : Claim7 := { stood := { row := fnAroundOfUptoRow, standIns := [], harness := (true, "e42f6fca8849866b03de955c0aa85db7272092473fcd6270c5da6d5ad189bbc5"), looks := false }, kinds := [], alts := [], laidByText := true, laidKinds := [.data], laidTests := true, laidLooks := .later }
def FnAroundOfUptoCardSaid : Prop := Claim7.holds Tryd.pinned (.plain (OpenSpec.upto fnAroundOfSpec)) fnAroundOfUptoCard

/-- THE SECOND FORM's CARD OF 'laws.FnOnEdge'. -/
def fnOnEdgeUptoCard : Claim7 := { stood := { row := fnOnEdgeUptoRow, standIns := [], harness := (true, "e42f6fca8849866b03de955c0aa85db7272092473fcd6270c5da6d5ad189bbc5"), looks := false }, kinds := [], alts := [], laidByText := true, laidKinds := [.data], laidTests := true, laidLooks := .later }
def FnOnEdgeUptoCardSaid : Prop := Claim7.holds Tryd.pinned (.plain (OpenSpec.upto fnOnEdgeSpec)) fnOnEdgeUptoCard

/-- THE SECOND FORM's CARD OF 'laws.FnExactAroundOf'. -/
def fnExactAroundOfUptoCard : Claim7 := { stood := { row := fnExactAroundOfUptoRow, standIns := [], harness := (true, "e42f6fca8849866b03de955c0aa85db7272092473fcd6270c5da6d5ad189bbc5"), looks := false }, kinds := [], alts := [], laidByText := true, laidKinds := [.data], laidTests := true, laidLooks := .later }
def FnExactAroundOfUptoCardSaid : Prop := Claim7.holds Tryd.pinned (.plain (OpenSpec.upto fnExactAroundOfSpec)) fnExactAroundOfUptoCard

/-- THE SECOND FORM's CARD OF 'laws.FnExactOnEdge'. -/
def fnExactOnEdgeUptoCard : Claim7 := { stood := { row := fnExactOnEdgeUptoRow, standIns := [], harness := (true, "e42f6fca8849866b03de955c0aa85db7272092473fcd6270c5da6d5ad189bbc5"), looks := false }, kinds := [], alts := [], laidByText := true, laidKinds := [.data], laidTests := true, laidLooks := .later }
def FnExactOnEdgeUptoCardSaid : Prop := Claim7.holds Tryd.pinned (.plain (OpenSpec.upto fnExactOnEdgeSpec)) fnExactOnEdgeUptoCard

/-- THE SECOND FORM's CARD OF 'laws.FnExactRimAt'. -/
def fnExactRimAtUptoCard : Claim7 := { stood := { row := fnExactRimAtUptoRow, standIns := [], harness := (true, "e42f6fca8849866b03de955c0aa85db7272092473fcd6270c5da6d5ad189bbc5"), looks := false }, kinds := [], alts := [], laidByText := true, laidKinds := [.data], laidTests := true, laidLooks := .later }
def FnExactRimAtUptoCardSaid : Prop := Claim7.holds Tryd.pinned (.plain (OpenSpec.upto fnExactRimAtSpec)) fnExactRimAtUptoCard
end Rows
end Go.Proofs.YtgecghngfonejaaDoor
