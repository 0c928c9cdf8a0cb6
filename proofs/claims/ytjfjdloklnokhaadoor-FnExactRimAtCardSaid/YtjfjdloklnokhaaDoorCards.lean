/-
  DERIVED. GIVEN WITH THE SEED: THE CARDS: each row of YtjfjdloklnokhaaDoorRows.lean that lists a variable, with what it lists TIED to the program's text (the seventh form; the later family's looks); each row that meets fmt, with fmt's text TOLD by the authors' own Lean function (tested against real Go, not proved from fmt's source: count such statements apart). THE CARD IS WHAT COUNTS. Prove the row's statement (the work); the ties are given (YtjfjdloklnokhaaDoorTie.lean); close each card by the builder's one call (the guide's Derived/Test/ToyasCard.lean, 'card_holds'). Laid BY PROGRAM, IN A SANDBOX (cutbox-door.mjs). By AI agents, Wed Nov 11 2026. No macro, syntax, notation, axiom, sorry.
-/
import Derived.Test.YtjfjdloklnokhaaDoorRows
import GoSem.ClaimSeven
namespace Go.Proofs.YtjfjdloklnokhaaDoor
namespace Rows

/-- THE TIED CARD OF 'laws.FnAroundOf'. -/
def fnAroundOfCard : Claim7 := { stood := { row := fnAroundOfRow, standIns := [], harness := (true, "a278472014d0b7cb6b61b4ad09ca012bf69c20c3270eee1fcc9204475f1a931e"), looks := false }, kinds := [], alts := [], laidByText := true, laidKinds := [.data], laidTests := true, laidLooks := .later }
def FnAroundOfCardSaid : Prop := Claim7.holds Tryd.pinned (.plain (OpenSpec.ofChange fnAroundOfSpec)) fnAroundOfCard

/-- THE TIED CARD OF 'laws.FnOnEdge'. -/
def fnOnEdgeCard : Claim7 := { stood := { row := fnOnEdgeRow, standIns := [], harness := (true, "a278472014d0b7cb6b61b4ad09ca012bf69c20c3270eee1fcc9204475f1a931e"), looks := false }, kinds := [], alts := [], laidByText := true, laidKinds := [.data], laidTests := true, laidLooks := .later }
def FnOnEdgeCardSaid : Prop := Claim7.holds Tryd.pinned (.plain (OpenSpec.ofChange fnOnEdgeSpec)) fnOnEdgeCard

/-- THE TIED CARD OF 'laws.FnRimAt'. -/
def fnRimAtCard : Claim7 := { stood := { row := fnRimAtRow, standIns := [], harness := (true, "a278472014d0b7cb6b61b4ad09ca012bf69c20c3270eee1fcc9204475f1a931e"), looks := false }, kinds := [], alts := [], laidByText := true, laidKinds := [.data], laidTests := true, laidLooks := .later }
def FnRimAtCardSaid : Prop := Claim7.holds Tryd.pinned (.plain (OpenSpec.ofChange fnRimAtSpec)) fnRimAtCard

/-- THE TIED CARD OF 'laws.FnExactAroundOf'. -/
def fnExactAroundOfCard : Claim7 := { stood := { row := fnExactAroundOfRow, standIns := [], harness := (true, "a278472014d0b7cb6b61b4ad09ca012bf69c20c3270eee1fcc9204475f1a931e"), looks := false }, kinds := [], alts := [], laidByText := true, laidKinds := [.data], laidTests := true, laidLooks := .later }
def FnExactAroundOfCardSaid : Prop := Claim7.holds Tryd.pinned (.plain (OpenSpec.ofChange fnExactAroundOfSpec)) fnExactAroundOfCard

/-- THE TIED CARD OF 'laws.FnExactOnEdge'. -/
def fnExactOnEdgeCard : Claim7 := { stood := { row := fnExactOnEdgeRow, standIns := [], harness := (true, "a278472014d0b7cb6b61b4ad09ca012bf69c20c3270eee1fcc9204475f1a931e"), looks := false }, kinds := [], alts := [], laidByText := true, laidKinds := [.data], laidTests := true, laidLooks := .later }
def FnExactOnEdgeCardSaid : Prop := Claim7.holds Tryd.pinned (.plain (OpenSpec.ofChange fnExactOnEdgeSpec)) fnExactOnEdgeCard

/-- THE TIED CARD OF 'laws.FnExactRimAt'. -/
def fnExactRimAtCard : Claim7 := { stood := { row := fnExactRimAtRow, standIns := [], harness := (true, "a278472014d0b7cb6b61b4ad09ca012bf69c20c3270eee1fcc9204475f1a931e"), looks := false }, kinds := [], alts := [], laidByText := true, laidKinds := [.data], laidTests := true, laidLooks := .later }
def FnExactRimAtCardSaid : Prop := Claim7.holds Tryd.pinned (.plain (OpenSpec.ofChange fnExactRimAtSpec)) fnExactRimAtCard

/-- THE SECOND FORM's CARD OF 'laws.FnAroundOf'. -/
def fnAroundOfUptoCard : Claim7 := { stood := { row := fnAroundOfUptoRow, standIns := [], harness := (true, "a278472014d0b7cb6b61b4ad09ca012bf69c20c3270eee1fcc9204475f1a931e"), looks := false }, kinds := [], alts := [], laidByText := true, laidKinds := [.data], laidTests := true, laidLooks := .later }
def FnAroundOfUptoCardSaid : Prop := Claim7.holds Tryd.pinned (.plain (OpenSpec.upto fnAroundOfSpec)) fnAroundOfUptoCard

/-- THE SECOND FORM's CARD OF 'laws.FnOnEdge'. -/
def fnOnEdgeUptoCard : Claim7 := { stood := { row := fnOnEdgeUptoRow, standIns := [], harness := (true, "a278472014d0b7cb6b61b4ad09ca012bf69c20c3270eee1fcc9204475f1a931e"), looks := false }, kinds := [], alts := [], laidByText := true, laidKinds := [.data], laidTests := true, laidLooks := .later }
def FnOnEdgeUptoCardSaid : Prop := Claim7.holds Tryd.pinned (.plain (OpenSpec.upto fnOnEdgeSpec)) fnOnEdgeUptoCard

/-- THE SECOND FORM's CARD OF 'laws.FnRimAt'. -/
def fnRimAtUptoCard : Claim7 := { stood := { row := fnRimAtUptoRow, standIns := [], harness := (true, "a278472014d0b7cb6b61b4ad09ca012bf69c20c3270eee1fcc9204475f1a931e"), looks := false }, kinds := [], alts := [], laidByText := true, laidKinds := [.data], laidTests := true, laidLooks := .later }
def FnRimAtUptoCardSaid : Prop := Claim7.holds Tryd.pinned (.plain (OpenSpec.upto fnRimAtSpec)) fnRimAtUptoCard

/-- THE SECOND FORM's CARD OF 'laws.FnExactAroundOf'. -/
def fnExactAroundOfUptoCard : Claim7 := { stood := { row := fnExactAroundOfUptoRow, standIns := [], harness := (true, "a278472014d0b7cb6b61b4ad09ca012bf69c20c3270eee1fcc9204475f1a931e"), looks := false }, kinds := [], alts := [], laidByText := true, laidKinds := [.data], laidTests := true, laidLooks := .later }
def FnExactAroundOfUptoCardSaid : Prop := Claim7.holds Tryd.pinned (.plain (OpenSpec.upto fnExactAroundOfSpec)) fnExactAroundOfUptoCard

/-- THE SECOND FORM's CARD OF 'laws.FnExactOnEdge'. -/
def fnExactOnEdgeUptoCard : Claim7 := { stood := { row := fnExactOnEdgeUptoRow, standIns := [], harness := (true, "a278472014d0b7cb6b61b4ad09ca012bf69c20c3270eee1fcc9204475f1a931e"), looks := false }, kinds := [], alts := [], laidByText := true, laidKinds := [.data], laidTests := true, laidLooks := .later }
def FnExactOnEdgeUptoCardSaid : Prop := Claim7.holds Tryd.pinned (.plain (OpenSpec.upto fnExactOnEdgeSpec)) fnExactOnEdgeUptoCard

/-- THE SECOND FORM's CARD OF 'laws.FnExactRimAt'. -/
def fnExactRimAtUptoCard : Claim7 := { stood := { row := fnExactRimAtUptoRow, standIns := [], harness := (true, "a278472014d0b7cb6b61b4ad09ca012bf69c20c3270eee1fcc9204475f1a931e"), looks := false }, kinds := [], alts := [], laidByText := true, laidKinds := [.data], laidTests := true, laidLooks := .later }
def FnExactRimAtUptoCardSaid : Prop := Claim7.holds Tryd.pinned (.plain (OpenSpec.upto fnExactRimAtSpec)) fnExactRimAtUptoCard
end Rows
end Go.Proofs.YtjfjdloklnokhaaDoor
