/-
  DERIVED. GIVEN WITH THE SEED: THE CARDS: each row of YtlbnphbkcacfmaaDoorRows.lean that lists a variable, with what it lists TIED to the program's text (the seventh form; the later family's looks); each row that meets fmt, with fmt's text TOLD by the authors' own Lean function (tested against real Go, not proved from fmt's source: count such statements apart). THE CARD IS WHAT COUNTS. Prove the row's statement (the work); the ties are given (YtlbnphbkcacfmaaDoorTie.lean); close each card by the builder's one call (the guide's Derived/Test/ToyasCard.lean, 'card_holds'). Laid BY PROGRAM, IN A SANDBOX (cutbox-door.mjs). By AI agents, Wed Nov 11 2026. No macro, syntax, notation, axiom, sorry.
-/
import Derived.Test.YtlbnphbkcacfmaaDoorRows
import GoSem.ClaimSeven
namespace Go.Proofs.YtlbnphbkcacfmaaDoor
namespace Rows

/-- THE TIED CARD OF 'laws.FnDepthsOf'. -/
def fnDepthsOfCard : Claim7 := { stood := { row := fnDepthsOfRow, standIns := [], harness := (true, "2368f836050732844b06d0b0f1264618ddcb7c9bc1cae9a2e50d1f3e53fd6c6a"), looks := false }, kinds := [], alts := [], laidByText := true, laidKinds := [.data], laidTests := true, laidLooks := .later }
def FnDepthsOfCardSaid : Prop := Claim7.holds Tryd.pinned (.plain (OpenSpec.ofChange fnDepthsOfSpec)) fnDepthsOfCard

/-- THE TIED CARD OF 'laws.FnExactDepthsOf'. -/
def fnExactDepthsOfCard : Claim7 := { stood := { row := fnExactDepthsOfRow, standIns := [], harness := (true, "2368f836050732844b06d0b0f1264618ddcb7c9bc1cae9a2e50d1f3e53fd6c6a"), looks := false }, kinds := [], alts := [], laidByText := true, laidKinds := [.data], laidTests := true, laidLooks := .later }
def FnExactDepthsOfCardSaid : Prop := Claim7.holds Tryd.pinned (.plain (OpenSpec.ofChange fnExactDepthsOfSpec)) fnExactDepthsOfCard

/-- THE TIED CARD OF 'laws.FnHigherFillsHigher'. -/
def fnHigherFillsHigherCard : Claim7 := { stood := { row := fnHigherFillsHigherRow, standIns := [], harness := (true, "2368f836050732844b06d0b0f1264618ddcb7c9bc1cae9a2e50d1f3e53fd6c6a"), looks := false }, kinds := [], alts := [], laidByText := true, laidKinds := [.data], laidTests := true, laidLooks := .later }
def FnHigherFillsHigherCardSaid : Prop := Claim7.holds Tryd.pinned (.plain (OpenSpec.ofChange fnHigherFillsHigherSpec)) fnHigherFillsHigherCard

/-- THE TIED CARD OF 'laws.FnExactWaterOf'. -/
def fnExactWaterOfCard : Claim7 := { stood := { row := fnExactWaterOfRow, standIns := [], harness := (true, "2368f836050732844b06d0b0f1264618ddcb7c9bc1cae9a2e50d1f3e53fd6c6a"), looks := false }, kinds := [], alts := [], laidByText := true, laidKinds := [.data], laidTests := true, laidLooks := .later }
def FnExactWaterOfCardSaid : Prop := Claim7.holds Tryd.pinned (.plain (OpenSpec.ofChange fnExactWaterOfSpec)) fnExactWaterOfCard

/-- THE TIED CARD OF 'laws.FnExactLakesOf'. -/
def fnExactLakesOfCard : Claim7 := { stood := { row := fnExactLakesOfRow, standIns := [], harness := (true, "2368f836050732844b06d0b0f1264618ddcb7c9bc1cae9a2e50d1f3e53fd6c6a"), looks := false }, kinds := [], alts := [], laidByText := true, laidKinds := [.data], laidTests := true, laidLooks := .later }
def FnExactLakesOfCardSaid : Prop := Claim7.holds Tryd.pinned (.plain (OpenSpec.ofChange fnExactLakesOfSpec)) fnExactLakesOfCard

/-- THE TIED CARD OF 'laws.FnWaterOf'. -/
def fnWaterOfCard : Claim7 := { stood := { row := fnWaterOfRow, standIns := [], harness := (true, "2368f836050732844b06d0b0f1264618ddcb7c9bc1cae9a2e50d1f3e53fd6c6a"), looks := false }, kinds := [], alts := [], laidByText := true, laidKinds := [.data], laidTests := true, laidLooks := .later }
def FnWaterOfCardSaid : Prop := Claim7.holds Tryd.pinned (.plain (OpenSpec.ofChange fnWaterOfSpec)) fnWaterOfCard

/-- THE TIED CARD OF 'laws.FnLakesOf'. -/
def fnLakesOfCard : Claim7 := { stood := { row := fnLakesOfRow, standIns := [], harness := (true, "2368f836050732844b06d0b0f1264618ddcb7c9bc1cae9a2e50d1f3e53fd6c6a"), looks := false }, kinds := [], alts := [], laidByText := true, laidKinds := [.data], laidTests := true, laidLooks := .later }
def FnLakesOfCardSaid : Prop := Claim7.holds Tryd.pinned (.plain (OpenSpec.ofChange fnLakesOfSpec)) fnLakesOfCard

/-- THE TIED CARD OF 'laws.FnLakesHoldAll'. -/
def fnLakesHoldAllCard : Claim7 := { stood := { row := fnLakesHoldAllRow, standIns := [], harness := (true, "2368f836050732844b06d0b0f1264618ddcb7c9bc1cae9a2e50d1f3e53fd6c6a"), looks := false }, kinds := [], alts := [], laidByText := true, laidKinds := [.data], laidTests := true, laidLooks := .later }
def FnLakesHoldAllCardSaid : Prop := Claim7.holds Tryd.pinned (.plain (OpenSpec.ofChange fnLakesHoldAllSpec)) fnLakesHoldAllCard

/-- THE TIED CARD OF 'laws.FnFlowOf'. -/
def fnFlowOfCard : Claim7 := { stood := { row := fnFlowOfRow, standIns := [], harness := (true, "2368f836050732844b06d0b0f1264618ddcb7c9bc1cae9a2e50d1f3e53fd6c6a"), looks := false }, kinds := [], alts := [], laidByText := true, laidKinds := [.data], laidTests := true, laidLooks := .later }
def FnFlowOfCardSaid : Prop := Claim7.holds Tryd.pinned (.plain (OpenSpec.ofChange fnFlowOfSpec)) fnFlowOfCard

/-- THE TIED CARD OF 'laws.FnExactFlowOf'. -/
def fnExactFlowOfCard : Claim7 := { stood := { row := fnExactFlowOfRow, standIns := [], harness := (true, "2368f836050732844b06d0b0f1264618ddcb7c9bc1cae9a2e50d1f3e53fd6c6a"), looks := false }, kinds := [], alts := [], laidByText := true, laidKinds := [.data], laidTests := true, laidLooks := .later }
def FnExactFlowOfCardSaid : Prop := Claim7.holds Tryd.pinned (.plain (OpenSpec.ofChange fnExactFlowOfSpec)) fnExactFlowOfCard

/-- THE TIED CARD OF 'laws.FnExactSpanOf'. -/
def fnExactSpanOfCard : Claim7 := { stood := { row := fnExactSpanOfRow, standIns := [], harness := (true, "2368f836050732844b06d0b0f1264618ddcb7c9bc1cae9a2e50d1f3e53fd6c6a"), looks := false }, kinds := [], alts := [], laidByText := true, laidKinds := [.data], laidTests := true, laidLooks := .later }
def FnExactSpanOfCardSaid : Prop := Claim7.holds Tryd.pinned (.plain (OpenSpec.ofChange fnExactSpanOfSpec)) fnExactSpanOfCard

/-- THE SECOND FORM's CARD OF 'laws.FnDepthsOf'. -/
def fnDepthsOfUptoCard : Claim7 := { stood := { row := fnDepthsOfUptoRow, standIns := [], harness := (true, "2368f836050732844b06d0b0f1264618ddcb7c9bc1cae9a2e50d1f3e53fd6c6a"), looks := false }, kinds := [], alts := [], laidByText := true, laidKinds := [.data], laidTests := true, laidLooks := .later }
def FnDepthsOfUptoCardSaid : Prop := Claim7.holds Tryd.pinned (.plain (OpenSpec.upto fnDepthsOfSpec)) fnDepthsOfUptoCard

/-- THE SECOND FORM's CARD OF 'laws.FnExactDepthsOf'. -/
def fnExactDepthsOfUptoCard : Claim7 := { stood := { row := fnExactDepthsOfUptoRow, standIns := [], harness := (true, "2368f836050732844b06d0b0f1264618ddcb7c9bc1cae9a2e50d1f3e53fd6c6a"), looks := false }, kinds := [], alts := [], laidByText := true, laidKinds := [.data], laidTests := true, laidLooks := .later }
def FnExactDepthsOfUptoCardSaid : Prop := Claim7.holds Tryd.pinned (.plain (OpenSpec.upto fnExactDepthsOfSpec)) fnExactDepthsOfUptoCard

/-- THE SECOND FORM's CARD OF 'laws.FnHigherFillsHigher'. -/
def fnHigherFillsHigherUptoCard : Claim7 := { stood := { row := fnHigherFillsHigherUptoRow, standIns := [], harness := (true, "2368f836050732844b06d0b0f1264618ddcb7c9bc1cae9a2e50d1f3e53fd6c6a"), looks := false }, kinds := [], alts := [], laidByText := true, laidKinds := [.data], laidTests := true, laidLooks := .later }
def FnHigherFillsHigherUptoCardSaid : Prop := Claim7.holds Tryd.pinned (.plain (OpenSpec.upto fnHigherFillsHigherSpec)) fnHigherFillsHigherUptoCard

/-- THE SECOND FORM's CARD OF 'laws.FnExactWaterOf'. -/
def fnExactWaterOfUptoCard : Claim7 := { stood := { row := fnExactWaterOfUptoRow, standIns := [], harness := (true, "2368f836050732844b06d0b0f1264618ddcb7c9bc1cae9a2e50d1f3e53fd6c6a"), looks := false }, kinds := [], alts := [], laidByText := true, laidKinds := [.data], laidTests := true, laidLooks := .later }
def FnExactWaterOfUptoCardSaid : Prop := Claim7.holds Tryd.pinned (.plain (OpenSpec.upto fnExactWaterOfSpec)) fnExactWaterOfUptoCard

/-- THE SECOND FORM's CARD OF 'laws.FnExactLakesOf'. -/
def fnExactLakesOfUptoCard : Claim7 := { stood := { row := fnExactLakesOfUptoRow, standIns := [], harness := (true, "2368f836050732844b06d0b0f1264618ddcb7c9bc1cae9a2e50d1f3e53fd6c6a"), looks := false }, kinds := [], alts := [], laidByText := true, laidKinds := [.data], laidTests := true, laidLooks := .later }
def FnExactLakesOfUptoCardSaid : Prop := Claim7.holds Tryd.pinned (.plain (OpenSpec.upto fnExactLakesOfSpec)) fnExactLakesOfUptoCard

/-- THE SECOND FORM's CARD OF 'laws.FnWaterOf'. -/
def fnWaterOfUptoCard : Claim7 := { stood := { row := fnWaterOfUptoRow, standIns := [], harness := (true, "2368f836050732844b06d0b0f1264618ddcb7c9bc1cae9a2e50d1f3e53fd6c6a"), looks := false }, kinds := [], alts := [], laidByText := true, laidKinds := [.data], laidTests := true, laidLooks := .later }
def FnWaterOfUptoCardSaid : Prop := Claim7.holds Tryd.pinned (.plain (OpenSpec.upto fnWaterOfSpec)) fnWaterOfUptoCard

/-- THE SECOND FORM's CARD OF 'laws.FnLakesOf'. -/
def fnLakesOfUptoCard : Claim7 := { stood := { row := fnLakesOfUptoRow, standIns := [], harness := (true, "2368f836050732844b06d0b0f1264618ddcb7c9bc1cae9a2e50d1f3e53fd6c6a"), looks := false }, kinds := [], alts := [], laidByText := true, laidKinds := [.data], laidTests := true, laidLooks := .later }
def FnLakesOfUptoCardSaid : Prop := Claim7.holds Tryd.pinned (.plain (OpenSpec.upto fnLakesOfSpec)) fnLakesOfUptoCard

/-- THE SECOND FORM's CARD OF 'laws.FnLakesHoldAll'. -/
def fnLakesHoldAllUptoCard : Claim7 := { stood := { row := fnLakesHoldAllUptoRow, standIns := [], harness := (true, "2368f836050732844b06d0b0f1264618ddcb7c9bc1cae9a2e50d1f3e53fd6c6a"), looks := false }, kinds := [], alts := [], laidByText := true, laidKinds := [.data], laidTests := true, laidLooks := .later }
def FnLakesHoldAllUptoCardSaid : Prop := Claim7.holds Tryd.pinned (.plain (OpenSpec.upto fnLakesHoldAllSpec)) fnLakesHoldAllUptoCard

/-- THE SECOND FORM's CARD OF 'laws.FnFlowOf'. -/
def fnFlowOfUptoCard : Claim7 := { stood := { row := fnFlowOfUptoRow, standIns := [], harness := (true, "2368f836050732844b06d0b0f1264618ddcb7c9bc1cae9a2e50d1f3e53fd6c6a"), looks := false }, kinds := [], alts := [], laidByText := true, laidKinds := [.data], laidTests := true, laidLooks := .later }
def FnFlowOfUptoCardSaid : Prop := Claim7.holds Tryd.pinned (.plain (OpenSpec.upto fnFlowOfSpec)) fnFlowOfUptoCard

/-- THE SECOND FORM's CARD OF 'laws.FnExactFlowOf'. -/
def fnExactFlowOfUptoCard : Claim7 := { stood := { row := fnExactFlowOfUptoRow, standIns := [], harness := (true, "2368f836050732844b06d0b0f1264618ddcb7c9bc1cae9a2e50d1f3e53fd6c6a"), looks := false }, kinds := [], alts := [], laidByText := true, laidKinds := [.data], laidTests := true, laidLooks := .later }
def FnExactFlowOfUptoCardSaid : Prop := Claim7.holds Tryd.pinned (.plain (OpenSpec.upto fnExactFlowOfSpec)) fnExactFlowOfUptoCard

/-- THE SECOND FORM's CARD OF 'laws.FnExactSpanOf'. -/
def fnExactSpanOfUptoCard : Claim7 := { stood := { row := fnExactSpanOfUptoRow, standIns := [], harness := (true, "2368f836050732844b06d0b0f1264618ddcb7c9bc1cae9a2e50d1f3e53fd6c6a"), looks := false }, kinds := [], alts := [], laidByText := true, laidKinds := [.data], laidTests := true, laidLooks := .later }
def FnExactSpanOfUptoCardSaid : Prop := Claim7.holds Tryd.pinned (.plain (OpenSpec.upto fnExactSpanOfSpec)) fnExactSpanOfUptoCard
end Rows
end Go.Proofs.YtlbnphbkcacfmaaDoor
