/-
  DERIVED. GIVEN WITH THE SEED: THE CARDS: each row of YtkeeonjbkfgeeaaDoorRows.lean that lists a variable, with what it lists TIED to the program's text (the seventh form; the later family's looks); each row that meets fmt, with fmt's text TOLD by the authors' own Lean function (tested against real Go, not proved from fmt's source: count such statements apart). THE CARD IS WHAT COUNTS. Prove the row's statement (the work); the ties are given (YtkeeonjbkfgeeaaDoorTie.lean); close each card by the builder's one call (the guide's Derived/Test/ToyasCard.lean, 'card_holds'). Laid BY PROGRAM, IN A SANDBOX (cutbox-door.mjs). By AI agents, Wed Nov 11 2026. No macro, syntax, notation, axiom, sorry.
-/
import Derived.Test.YtkeeonjbkfgeeaaDoorRows
import GoSem.ClaimSeven
namespace Go.Proofs.YtkeeonjbkfgeeaaDoor
namespace Rows

/-- THE TIED CARD OF 'laws.FnQuadOf'. -/
def fnQuadOfCard : Claim7 := { stood := { row := fnQuadOfRow, standIns := [], harness := (true, "56fb39f978a2f35d5f0782d11e6e7df4d50a67f6d9d66021676ff973430ad8b5"), looks := true }, kinds := [], alts := [], laidByText := true, laidKinds := [.data, .data, .data, .handle], laidTests := true, laidLooks := .later }
def FnQuadOfCardSaid : Prop := Claim7.holds Tryd.pinned (.plain (OpenSpec.ofChange fnQuadOfSpec)) fnQuadOfCard

/-- THE TIED CARD OF 'laws.FnReadQuad'. -/
def fnReadQuadCard : Claim7 := { stood := { row := fnReadQuadRow, standIns := [], harness := (true, "56fb39f978a2f35d5f0782d11e6e7df4d50a67f6d9d66021676ff973430ad8b5"), looks := true }, kinds := [], alts := [], laidByText := true, laidKinds := [.data, .data, .data, .handle], laidTests := true, laidLooks := .later }
def FnReadQuadCardSaid : Prop := Claim7.holds Tryd.pinned (.plain (OpenSpec.ofChange fnReadQuadSpec)) fnReadQuadCard

/-- THE TIED CARD OF 'laws.FnExactQuadOf'. -/
def fnExactQuadOfCard : Claim7 := { stood := { row := fnExactQuadOfRow, standIns := [], harness := (true, "56fb39f978a2f35d5f0782d11e6e7df4d50a67f6d9d66021676ff973430ad8b5"), looks := true }, kinds := [], alts := [], laidByText := true, laidKinds := [.data, .data, .data], laidTests := true, laidLooks := .later }
def FnExactQuadOfCardSaid : Prop := Claim7.holds Tryd.pinned (.plain (OpenSpec.ofChange fnExactQuadOfSpec)) fnExactQuadOfCard

/-- THE TIED CARD OF 'laws.FnExactReadQuad'. -/
def fnExactReadQuadCard : Claim7 := { stood := { row := fnExactReadQuadRow, standIns := [], harness := (true, "56fb39f978a2f35d5f0782d11e6e7df4d50a67f6d9d66021676ff973430ad8b5"), looks := true }, kinds := [], alts := [], laidByText := true, laidKinds := [.data, .data, .data, .handle], laidTests := true, laidLooks := .later }
def FnExactReadQuadCardSaid : Prop := Claim7.holds Tryd.pinned (.plain (OpenSpec.ofChange fnExactReadQuadSpec)) fnExactReadQuadCard

/-- THE SECOND FORM's CARD OF 'laws.FnQuadOf'. -/
def fnQuadOfUptoCard : Claim7 := { stood := { row := fnQuadOfUptoRow, standIns := [], harness := (true, "56fb39f978a2f35d5f0782d11e6e7df4d50a67f6d9d66021676ff973430ad8b5"), looks := true }, kinds := [], alts := [], laidByText := true, laidKinds := [.data, .data, .data, .handle], laidTests := true, laidLooks := .later }
def FnQuadOfUptoCardSaid : Prop := Claim7.holds Tryd.pinned (.plain (OpenSpec.upto fnQuadOfSpec)) fnQuadOfUptoCard

/-- THE SECOND FORM's CARD OF 'laws.FnReadQuad'. -/
def fnReadQuadUptoCard : Claim7 := { stood := { row := fnReadQuadUptoRow, standIns := [], harness := (true, "56fb39f978a2f35d5f0782d11e6e7df4d50a67f6d9d66021676ff973430ad8b5"), looks := true }, kinds := [], alts := [], laidByText := true, laidKinds := [.data, .data, .data, .handle], laidTests := true, laidLooks := .later }
def FnReadQuadUptoCardSaid : Prop := Claim7.holds Tryd.pinned (.plain (OpenSpec.upto fnReadQuadSpec)) fnReadQuadUptoCard

/-- THE SECOND FORM's CARD OF 'laws.FnExactQuadOf'. -/
def fnExactQuadOfUptoCard : Claim7 := { stood := { row := fnExactQuadOfUptoRow, standIns := [], harness := (true, "56fb39f978a2f35d5f0782d11e6e7df4d50a67f6d9d66021676ff973430ad8b5"), looks := true }, kinds := [], alts := [], laidByText := true, laidKinds := [.data, .data, .data], laidTests := true, laidLooks := .later }
def FnExactQuadOfUptoCardSaid : Prop := Claim7.holds Tryd.pinned (.plain (OpenSpec.upto fnExactQuadOfSpec)) fnExactQuadOfUptoCard

/-- THE SECOND FORM's CARD OF 'laws.FnExactReadQuad'. -/
def fnExactReadQuadUptoCard : Claim7 := { stood := { row := fnExactReadQuadUptoRow, standIns := [], harness := (true, "56fb39f978a2f35d5f0782d11e6e7df4d50a67f6d9d66021676ff973430ad8b5"), looks := true }, kinds := [], alts := [], laidByText := true, laidKinds := [.data, .data, .data, .handle], laidTests := true, laidLooks := .later }
def FnExactReadQuadUptoCardSaid : Prop := Claim7.holds Tryd.pinned (.plain (OpenSpec.upto fnExactReadQuadSpec)) fnExactReadQuadUptoCard
end Rows
end Go.Proofs.YtkeeonjbkfgeeaaDoor
