/-
  DERIVED. GIVEN WITH THE SEED: THE CARDS: each row of YtlfoimjohdaofaaDoorRows.lean that lists a variable, with what it lists TIED to the program's text (the seventh form; the later family's looks); each row that meets fmt, with fmt's text TOLD by the authors' own Lean function (tested against real Go, not proved from fmt's source: count such statements apart). THE CARD IS WHAT COUNTS. Prove the row's statement (the work); the ties are given (YtlfoimjohdaofaaDoorTie.lean); close each card by the builder's one call (the guide's Derived/Test/ToyasCard.lean, 'card_holds'). Laid BY PROGRAM, IN A SANDBOX (cutbox-door.mjs). By AI agents, Wed Nov 11 2026. No macro, syntax, notation, axiom, sorry.
-/
import Derived.Test.YtlfoimjohdaofaaDoorRows
import GoSem.ClaimSeven
namespace Go.Proofs.YtlfoimjohdaofaaDoor
namespace Rows

/-- THE TIED CARD OF 'laws.FnQuadOf'. -/
def fnQuadOfCard : Claim7 := { stood := { row := fnQuadOfRow, standIns := [], harness := (true, "0f4a9428c0401e8ed6419eb0f4be900b3c39a8107b2b2ab7a112a4dfccda6371"), looks := true }, kinds := [], alts := [], laidByText := true, laidKinds := [.data, .data, .data, .handle], laidTests := true, laidLooks := .later }
def FnQuadOfCardSaid : Prop := Claim7.holds Tryd.pinned (.plain (OpenSpec.ofChange fnQuadOfSpec)) fnQuadOfCard

/-- THE TIED CARD OF 'laws.FnReadQuad'. -/
def fnReadQuadCard : Claim7 := { stood := { row := fnReadQuadRow, standIns := [], harness := (true, "0f4a9428c0401e8ed6419eb0f4be900b3c39a8107b2b2ab7a112a4dfccda6371"), looks := true }, kinds := [], alts := [], laidByText := true, laidKinds := [.data, .data, .data, .handle], laidTests := true, laidLooks := .later }
def FnReadQuadCardSaid : Prop := Claim7.holds Tryd.pinned (.plain (OpenSpec.ofChange fnReadQuadSpec)) fnReadQuadCard

/-- THE TIED CARD OF 'laws.FnExactReadQuad'. -/
def fnExactReadQuadCard : Claim7 := { stood := { row := fnExactReadQuadRow, standIns := [], harness := (true, "0f4a9428c0401e8ed6419eb0f4be900b3c39a8107b2b2ab7a112a4dfccda6371"), looks := true }, kinds := [], alts := [], laidByText := true, laidKinds := [.data, .data, .data, .handle], laidTests := true, laidLooks := .later }
def FnExactReadQuadCardSaid : Prop := Claim7.holds Tryd.pinned (.plain (OpenSpec.ofChange fnExactReadQuadSpec)) fnExactReadQuadCard

/-- THE SECOND FORM's CARD OF 'laws.FnQuadOf'. -/
def fnQuadOfUptoCard : Claim7 := { stood := { row := fnQuadOfUptoRow, standIns := [], harness := (true, "0f4a9428c0401e8ed6419eb0f4be900b3c39a8107b2b2ab7a112a4dfccda6371"), looks := true }, kinds := [], alts := [], laidByText := true, laidKinds := [.data, .data, .data, .handle], laidTests := true, laidLooks := .later }
def FnQuadOfUptoCardSaid : Prop := Claim7.holds Tryd.pinned (.plain (OpenSpec.upto fnQuadOfSpec)) fnQuadOfUptoCard

/-- THE SECOND FORM's CARD OF 'laws.FnReadQuad'. -/
def fnReadQuadUptoCard : Claim7 := { stood := { row := fnReadQuadUptoRow, standIns := [], harness := (true, "0f4a9428c0401e8ed6419eb0f4be900b3c39a8107b2b2ab7a112a4dfccda6371"), looks := true }, kinds := [], alts := [], laidByText := true, laidKinds := [.data, .data, .data, .handle], laidTests := true, laidLooks := .later }
def FnReadQuadUptoCardSaid : Prop := Claim7.holds Tryd.pinned (.plain (OpenSpec.upto fnReadQuadSpec)) fnReadQuadUptoCard

/-- THE SECOND FORM's CARD OF 'laws.FnExactReadQuad'. -/
def fnExactReadQuadUptoCard : Claim7 := { stood := { row := fnExactReadQuadUptoRow, standIns := [], harness := (true, "0f4a9428c0401e8ed6419eb0f4be900b3c39a8107b2b2ab7a112a4dfccda6371"), looks := true }, kinds := [], alts := [], laidByText := true, laidKinds := [.data, .data, .data, .handle], laidTests := true, laidLooks := .later }
def FnExactReadQuadUptoCardSaid : Prop := Claim7.holds Tryd.pinned (.plain (OpenSpec.upto fnExactReadQuadSpec)) fnExactReadQuadUptoCard
end Rows
end Go.Proofs.YtlfoimjohdaofaaDoor
