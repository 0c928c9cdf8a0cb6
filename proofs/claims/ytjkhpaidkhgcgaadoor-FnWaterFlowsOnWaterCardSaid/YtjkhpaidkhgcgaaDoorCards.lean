/-
  DERIVED. GIVEN WITH THE SEED: THE CARDS: each row of YtjkhpaidkhgcgaaDoorRows.lean that lists a variable, with what it lists TIED to the program's text (the seventh form; the later family's looks); each row that meets fmt, with fmt's text TOLD by the authors' own Lean function (tested against real Go, not proved from fmt's source: count such statements apart). THE CARD IS WHAT COUNTS. Prove the row's statement (the work); the ties are given (YtjkhpaidkhgcgaaDoorTie.lean); close each card by the builder's one call (the guide's Derived/Test/ToyasCard.lean, 'card_holds'). Laid BY PROGRAM, IN A SANDBOX (cutbox-door.mjs). By AI agents, Wed Nov 11 2026. No macro, syntax, notation, axiom, sorry.
-/
import Derived.Test.YtjkhpaidkhgcgaaDoorRows
import GoSem.ClaimSeven
namespace Go.Proofs.YtjkhpaidkhgcgaaDoor
namespace Rows

/-- THE TIED CARD OF 'laws.FnPeaksOf'. -/
def fnPeaksOfCard : Claim7 := { stood := { row := fnPeaksOfRow, standIns := [], harness := (true, "493488b344efd09389c4a94f7a144cbd088ddc6bd7f4c2f275e95f0c6138993c"), looks := false }, kinds := [], alts := [], laidByText := true, laidKinds := [.data], laidTests := true, laidLooks := .later }
def FnPeaksOfCardSaid : Prop := Claim7.holds Tryd.pinned (.plain (OpenSpec.ofChange fnPeaksOfSpec)) fnPeaksOfCard

/-- THE TIED CARD OF 'laws.FnPitsOf'. -/
def fnPitsOfCard : Claim7 := { stood := { row := fnPitsOfRow, standIns := [], harness := (true, "493488b344efd09389c4a94f7a144cbd088ddc6bd7f4c2f275e95f0c6138993c"), looks := false }, kinds := [], alts := [], laidByText := true, laidKinds := [.data], laidTests := true, laidLooks := .later }
def FnPitsOfCardSaid : Prop := Claim7.holds Tryd.pinned (.plain (OpenSpec.ofChange fnPitsOfSpec)) fnPitsOfCard

/-- THE TIED CARD OF 'laws.FnWaterOf'. -/
def fnWaterOfCard : Claim7 := { stood := { row := fnWaterOfRow, standIns := [], harness := (true, "493488b344efd09389c4a94f7a144cbd088ddc6bd7f4c2f275e95f0c6138993c"), looks := false }, kinds := [], alts := [], laidByText := true, laidKinds := [.data], laidTests := true, laidLooks := .later }
def FnWaterOfCardSaid : Prop := Claim7.holds Tryd.pinned (.plain (OpenSpec.ofChange fnWaterOfSpec)) fnWaterOfCard

/-- THE TIED CARD OF 'laws.FnLakesOf'. -/
def fnLakesOfCard : Claim7 := { stood := { row := fnLakesOfRow, standIns := [], harness := (true, "493488b344efd09389c4a94f7a144cbd088ddc6bd7f4c2f275e95f0c6138993c"), looks := false }, kinds := [], alts := [], laidByText := true, laidKinds := [.data], laidTests := true, laidLooks := .later }
def FnLakesOfCardSaid : Prop := Claim7.holds Tryd.pinned (.plain (OpenSpec.ofChange fnLakesOfSpec)) fnLakesOfCard

/-- THE TIED CARD OF 'laws.FnLakesHoldAll'. -/
def fnLakesHoldAllCard : Claim7 := { stood := { row := fnLakesHoldAllRow, standIns := [], harness := (true, "493488b344efd09389c4a94f7a144cbd088ddc6bd7f4c2f275e95f0c6138993c"), looks := false }, kinds := [], alts := [], laidByText := true, laidKinds := [.data], laidTests := true, laidLooks := .later }
def FnLakesHoldAllCardSaid : Prop := Claim7.holds Tryd.pinned (.plain (OpenSpec.ofChange fnLakesHoldAllSpec)) fnLakesHoldAllCard

/-- THE TIED CARD OF 'laws.FnWaterFlowsOnWater'. -/
def fnWaterFlowsOnWaterCard : Claim7 := { stood := { row := fnWaterFlowsOnWaterRow, standIns := [], harness := (true, "493488b344efd09389c4a94f7a144cbd088ddc6bd7f4c2f275e95f0c6138993c"), looks := false }, kinds := [], alts := [], laidByText := true, laidKinds := [.data], laidTests := true, laidLooks := .later }
def FnWaterFlowsOnWaterCardSaid : Prop := Claim7.holds Tryd.pinned (.plain (OpenSpec.ofChange fnWaterFlowsOnWaterSpec)) fnWaterFlowsOnWaterCard

/-- THE TIED CARD OF 'laws.FnHigherFillsHigher'. -/
def fnHigherFillsHigherCard : Claim7 := { stood := { row := fnHigherFillsHigherRow, standIns := [], harness := (true, "493488b344efd09389c4a94f7a144cbd088ddc6bd7f4c2f275e95f0c6138993c"), looks := false }, kinds := [], alts := [], laidByText := true, laidKinds := [.data], laidTests := true, laidLooks := .later }
def FnHigherFillsHigherCardSaid : Prop := Claim7.holds Tryd.pinned (.plain (OpenSpec.ofChange fnHigherFillsHigherSpec)) fnHigherFillsHigherCard

/-- THE TIED CARD OF 'laws.FnExactPeaksOf'. -/
def fnExactPeaksOfCard : Claim7 := { stood := { row := fnExactPeaksOfRow, standIns := [], harness := (true, "493488b344efd09389c4a94f7a144cbd088ddc6bd7f4c2f275e95f0c6138993c"), looks := false }, kinds := [], alts := [], laidByText := true, laidKinds := [.data], laidTests := true, laidLooks := .later }
def FnExactPeaksOfCardSaid : Prop := Claim7.holds Tryd.pinned (.plain (OpenSpec.ofChange fnExactPeaksOfSpec)) fnExactPeaksOfCard

/-- THE TIED CARD OF 'laws.FnExactPitsOf'. -/
def fnExactPitsOfCard : Claim7 := { stood := { row := fnExactPitsOfRow, standIns := [], harness := (true, "493488b344efd09389c4a94f7a144cbd088ddc6bd7f4c2f275e95f0c6138993c"), looks := false }, kinds := [], alts := [], laidByText := true, laidKinds := [.data], laidTests := true, laidLooks := .later }
def FnExactPitsOfCardSaid : Prop := Claim7.holds Tryd.pinned (.plain (OpenSpec.ofChange fnExactPitsOfSpec)) fnExactPitsOfCard

/-- THE TIED CARD OF 'laws.FnExactWaterOf'. -/
def fnExactWaterOfCard : Claim7 := { stood := { row := fnExactWaterOfRow, standIns := [], harness := (true, "493488b344efd09389c4a94f7a144cbd088ddc6bd7f4c2f275e95f0c6138993c"), looks := false }, kinds := [], alts := [], laidByText := true, laidKinds := [.data], laidTests := true, laidLooks := .later }
def FnExactWaterOfCardSaid : Prop := Claim7.holds Tryd.pinned (.plain (OpenSpec.ofChange fnExactWaterOfSpec)) fnExactWaterOfCard

/-- THE TIED CARD OF 'laws.FnExactLakesOf'. -/
def fnExactLakesOfCard : Claim7 := { stood := { row := fnExactLakesOfRow, standIns := [], harness := (true, "493488b344efd09389c4a94f7a144cbd088ddc6bd7f4c2f275e95f0c6138993c"), looks := false }, kinds := [], alts := [], laidByText := true, laidKinds := [.data], laidTests := true, laidLooks := .later }
def FnExactLakesOfCardSaid : Prop := Claim7.holds Tryd.pinned (.plain (OpenSpec.ofChange fnExactLakesOfSpec)) fnExactLakesOfCard

/-- THE SECOND FORM's CARD OF 'laws.FnPeaksOf'. -/
def fnPeaksOfUptoCard : Claim7 := { stood := { row := fnPeaksOfUptoRow, standIns := [], harness := (true, "493488b344efd09389c4a94f7a144cbd088ddc6bd7f4c2f275e95f0c6138993c"), looks := false }, kinds := [], alts := [], laidByText := true, laidKinds := [.data], laidTests := true, laidLooks := .later }
def FnPeaksOfUptoCardSaid : Prop := Claim7.holds Tryd.pinned (.plain (OpenSpec.upto fnPeaksOfSpec)) fnPeaksOfUptoCard

/-- THE SECOND FORM's CARD OF 'laws.FnPitsOf'. -/
def fnPitsOfUptoCard : Claim7 := { stood := { row := fnPitsOfUptoRow, standIns := [], harness := (true, "493488b344efd09389c4a94f7a144cbd088ddc6bd7f4c2f275e95f0c6138993c"), looks := false }, kinds := [], alts := [], laidByText := true, laidKinds := [.data], laidTests := true, laidLooks := .later }
def FnPitsOfUptoCardSaid : Prop := Claim7.holds Tryd.pinned (.plain (OpenSpec.upto fnPitsOfSpec)) fnPitsOfUptoCard

/-- THE SECOND FORM's CARD OF 'laws.FnWaterOf'. -/
def fnWaterOfUptoCard : Claim7 := { stood := { row := fnWaterOfUptoRow, standIns := [], harness := (true, "493488b344efd09389c4a94f7a144cbd088ddc6bd7f4c2f275e95f0c6138993c"), looks := false }, kinds := [], alts := [], laidByText := true, laidKinds := [.data], laidTests := true, laidLooks := .later }
def FnWaterOfUptoCardSaid : Prop := Claim7.holds Tryd.pinned (.plain (OpenSpec.upto fnWaterOfSpec)) fnWaterOfUptoCard

/-- THE SECOND FORM's CARD OF 'laws.FnLakesOf'. -/
def fnLakesOfUptoCard : Claim7 := { stood := { row := fnLakesOfUptoRow, standIns := [], harness := (true, "493488b344efd09389c4a94f7a144cbd088ddc6bd7f4c2f275e95f0c6138993c"), looks := false }, kinds := [], alts := [], laidByText := true, laidKinds := [.data], laidTests := true, laidLooks := .later }
def FnLakesOfUptoCardSaid : Prop := Claim7.holds Tryd.pinned (.plain (OpenSpec.upto fnLakesOfSpec)) fnLakesOfUptoCard

/-- THE SECOND FORM's CARD OF 'laws.FnLakesHoldAll'. -/
def fnLakesHoldAllUptoCard : Claim7 := { stood := { row := fnLakesHoldAllUptoRow, standIns := [], harness := (true, "493488b344efd09389c4a94f7a144cbd088ddc6bd7f4c2f275e95f0c6138993c"), looks := false }, kinds := [], alts := [], laidByText := true, laidKinds := [.data], laidTests := true, laidLooks := .later }
def FnLakesHoldAllUptoCardSaid : Prop := Claim7.holds Tryd.pinned (.plain (OpenSpec.upto fnLakesHoldAllSpec)) fnLakesHoldAllUptoCard

/-- THE SECOND FORM's CARD OF 'laws.FnWaterFlowsOnWater'. -/
def fnWaterFlowsOnWaterUptoCard : Claim7 := { stood := { row := fnWaterFlowsOnWaterUptoRow, standIns := [], harness := (true, "493488b344efd09389c4a94f7a144cbd088ddc6bd7f4c2f275e95f0c6138993c"), looks := false }, kinds := [], alts := [], laidByText := true, laidKinds := [.data], laidTests := true, laidLooks := .later }
def FnWaterFlowsOnWaterUptoCardSaid : Prop := Claim7.holds Tryd.pinned (.plain (OpenSpec.upto fnWaterFlowsOnWaterSpec)) fnWaterFlowsOnWaterUptoCard

/-- THE SECOND FORM's CARD OF 'laws.FnHigherFillsHigher'. -/
def fnHigherFillsHigherUptoCard : Claim7 := { stood := { row := fnHigherFillsHigherUptoRow, standIns := [], harness := (true, "493488b344efd09389c4a94f7a144cbd088ddc6bd7f4c2f275e95f0c6138993c"), looks := false }, kinds := [], alts := [], laidByText := true, laidKinds := [.data], laidTests := true, laidLooks := .later }
def FnHigherFillsHigherUptoCardSaid : Prop := Claim7.holds Tryd.pinned (.plain (OpenSpec.upto fnHigherFillsHigherSpec)) fnHigherFillsHigherUptoCard

/-- THE SECOND FORM's CARD OF 'laws.FnExactPeaksOf'. -/
def fnExactPeaksOfUptoCard : Claim7 := { stood := { row := fnExactPeaksOfUptoRow, standIns := [], harness := (true, "493488b344efd09389c4a94f7a144cbd088ddc6bd7f4c2f275e95f0c6138993c"), looks := false }, kinds := [], alts := [], laidByText := true, laidKinds := [.data], laidTests := true, laidLooks := .later }
def FnExactPeaksOfUptoCardSaid : Prop := Claim7.holds Tryd.pinned (.plain (OpenSpec.upto fnExactPeaksOfSpec)) fnExactPeaksOfUptoCard

/-- THE SECOND FORM's CARD OF 'laws.FnExactPitsOf'. -/
def fnExactPitsOfUptoCard : Claim7 := { stood := { row := fnExactPitsOfUptoRow, standIns := [], harness := (true, "493488b344efd09389c4a94f7a144cbd088ddc6bd7f4c2f275e95f0c6138993c"), looks := false }, kinds := [], alts := [], laidByText := true, laidKinds := [.data], laidTests := true, laidLooks := .later }
def FnExactPitsOfUptoCardSaid : Prop := Claim7.holds Tryd.pinned (.plain (OpenSpec.upto fnExactPitsOfSpec)) fnExactPitsOfUptoCard

/-- THE SECOND FORM's CARD OF 'laws.FnExactWaterOf'. -/
def fnExactWaterOfUptoCard : Claim7 := { stood := { row := fnExactWaterOfUptoRow, standIns := [], harness := (true, "493488b344efd09389c4a94f7a144cbd088ddc6bd7f4c2f275e95f0c6138993c"), looks := false }, kinds := [], alts := [], laidByText := true, laidKinds := [.data], laidTests := true, laidLooks := .later }
def FnExactWaterOfUptoCardSaid : Prop := Claim7.holds Tryd.pinned (.plain (OpenSpec.upto fnExactWaterOfSpec)) fnExactWaterOfUptoCard

/-- THE SECOND FORM's CARD OF 'laws.FnExactLakesOf'. -/
def fnExactLakesOfUptoCard : Claim7 := { stood := { row := fnExactLakesOfUptoRow, standIns := [], harness := (true, "493488b344efd09389c4a94f7a144cbd088ddc6bd7f4c2f275e95f0c6138993c"), looks := false }, kinds := [], alts := [], laidByText := true, laidKinds := [.data], laidTests := true, laidLooks := .later }
def FnExactLakesOfUptoCardSaid : Prop := Claim7.holds Tryd.pinned (.plain (OpenSpec.upto fnExactLakesOfSpec)) fnExactLakesOfUptoCard
end Rows
end Go.Proofs.YtjkhpaidkhgcgaaDoor
