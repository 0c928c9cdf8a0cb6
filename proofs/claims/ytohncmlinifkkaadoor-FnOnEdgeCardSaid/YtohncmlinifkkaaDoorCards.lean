/-
  DERIVED. GIVEN WITH THE SEED: THE CARDS: each row of YtohncmlinifkkaaDoorRows.lean that lists a variable, with what it lists TIED to the program's text (the seventh form; the later family's looks); each row that meets fmt, with fmt's text TOLD by the authors' own Lean function (tested against real Go, not proved from fmt's source: count such statements apart). THE CARD IS WHAT COUNTS. Prove the row's statement (the work); the ties are given (YtohncmlinifkkaaDoorTie.lean); close each card by the builder's one call (the guide's Derived/Test/ToyasCard.lean, 'card_holds'). Laid BY PROGRAM, IN A SANDBOX (cutbox-door.mjs). By AI agents, Wed Nov 11 2026. No macro, syntax, notation, axiom, sorry.
-/
import Derived.Test.YtohncmlinifkkaaDoorRows
import GoSem.ClaimSeven
namespace Go.Proofs.YtohncmlinifkkaaDoor
namespace Rows

/-- THE TIED CARD OF 'laws.FnOnEdge'. -/
def fnOnEdgeCard : Claim7 := { stood := { row := fnOnEdgeRow, standIns := [], harness := (true, "78da33cd20460dd4224ae6f3fefe6e3495d51e245a680ac53f2c66ce6b5f63d4"), looks := false }, kinds := [], alts := [], laidByText := true, laidKinds := [.data], laidTests := true, laidLooks := .later }
def FnOnEdgeCardSaid : Prop := Claim7.holds Tryd.pinned (.plain (OpenSpec.ofChange fnOnEdgeSpec)) fnOnEdgeCard

/-- THE TIED CARD OF 'laws.FnExactOnEdge'. -/
def fnExactOnEdgeCard : Claim7 := { stood := { row := fnExactOnEdgeRow, standIns := [], harness := (true, "78da33cd20460dd4224ae6f3fefe6e3495d51e245a680ac53f2c66ce6b5f63d4"), looks := false }, kinds := [], alts := [], laidByText := true, laidKinds := [.data], laidTests := true, laidLooks := .later }
def FnExactOnEdgeCardSaid : Prop := Claim7.holds Tryd.pinned (.plain (OpenSpec.ofChange fnExactOnEdgeSpec)) fnExactOnEdgeCard

/-- THE SECOND FORM's CARD OF 'laws.FnOnEdge'. -/
def fnOnEdgeUptoCard : Claim7 := { stood := { row := fnOnEdgeUptoRow, standIns := [], harness := (true, "78da33cd20460dd4224ae6f3fefe6e3495d51e245a680ac53f2c66ce6b5f63d4"), looks := false }, kinds := [], alts := [], laidByText := true, laidKinds := [.data], laidTests := true, laidLooks := .later }
def FnOnEdgeUptoCardSaid : Prop := Claim7.holds Tryd.pinned (.plain (OpenSpec.upto fnOnEdgeSpec)) fnOnEdgeUptoCard

/-- THE SECOND FORM's CARD OF 'laws.FnExactOnEdge'. -/
def fnExactOnEdgeUptoCard : Claim7 := { stood := { row := fnExactOnEdgeUptoRow, standIns := [], harness := (true, "78da33cd20460dd4224ae6f3fefe6e3495d51e245a680ac53f2c66ce6b5f63d4"), looks := false }, kinds := [], alts := [], laidByText := true, laidKinds := [.data], laidTests := true, laidLooks := .later }
def FnExactOnEdgeUptoCardSaid : Prop := Claim7.holds Tryd.pinned (.plain (OpenSpec.upto fnExactOnEdgeSpec)) fnExactOnEdgeUptoCard
end Rows
end Go.Proofs.YtohncmlinifkkaaDoor
