/-
  DERIVED. GIVEN WITH THE SEED: THE CARDS: each row of YtekhjjcgkmnmlaaDoorRows.lean that lists a variable, with what it lists TIED to the program's text (the seventh form; the later family's looks); each row that meets fmt, with fmt's text TOLD by the authors' own Lean function (tested against real Go, not proved from fmt's source: count such statements apart). THE CARD IS WHAT COUNTS. Prove the row's statement (the work); the ties are given (YtekhjjcgkmnmlaaDoorTie.lean); close each card by the builder's one call (the guide's Derived/Test/ToyasCard.lean, 'card_holds'). Laid BY PROGRAM, IN A SANDBOX (cutbox-door.mjs). By AI agents, Wed Nov 11 2026. No macro, syntax, notation, axiom, sorry.
-/
import Derived.Test.YtekhjjcgkmnmlaaDoorRows
import GoSem.ClaimSeven
namespace Go.Proofs.YtekhjjcgkmnmlaaDoor
namespace Rows

/-- THE TIED CARD OF 'laws.FnAreasOf'. -/
def fnAreasOfCard : Claim7 := { stood := { row := fnAreasOfRow, standIns := [], harness := (true, "965d8e39d403633633310348910f9f2e4b6c86fae1fee4da325f88a060cc0857"), looks := false }, kinds := [], alts := [], laidByText := true, laidKinds := [.data], laidTests := true, laidLooks := .later }
def FnAreasOfCardSaid : Prop := Claim7.holds Tryd.pinned (.plain (OpenSpec.ofChange fnAreasOfSpec)) fnAreasOfCard

/-- THE TIED CARD OF 'laws.FnBasinsOf'. -/
def fnBasinsOfCard : Claim7 := { stood := { row := fnBasinsOfRow, standIns := [], harness := (true, "965d8e39d403633633310348910f9f2e4b6c86fae1fee4da325f88a060cc0857"), looks := false }, kinds := [], alts := [], laidByText := true, laidKinds := [.data], laidTests := true, laidLooks := .later }
def FnBasinsOfCardSaid : Prop := Claim7.holds Tryd.pinned (.plain (OpenSpec.ofChange fnBasinsOfSpec)) fnBasinsOfCard

/-- THE TIED CARD OF 'laws.FnLongestOf'. -/
def fnLongestOfCard : Claim7 := { stood := { row := fnLongestOfRow, standIns := [], harness := (true, "965d8e39d403633633310348910f9f2e4b6c86fae1fee4da325f88a060cc0857"), looks := false }, kinds := [], alts := [], laidByText := true, laidKinds := [.data], laidTests := true, laidLooks := .later }
def FnLongestOfCardSaid : Prop := Claim7.holds Tryd.pinned (.plain (OpenSpec.ofChange fnLongestOfSpec)) fnLongestOfCard

/-- THE TIED CARD OF 'laws.FnStreamOrders'. -/
def fnStreamOrdersCard : Claim7 := { stood := { row := fnStreamOrdersRow, standIns := [], harness := (true, "965d8e39d403633633310348910f9f2e4b6c86fae1fee4da325f88a060cc0857"), looks := false }, kinds := [], alts := [], laidByText := true, laidKinds := [.data], laidTests := true, laidLooks := .later }
def FnStreamOrdersCardSaid : Prop := Claim7.holds Tryd.pinned (.plain (OpenSpec.ofChange fnStreamOrdersSpec)) fnStreamOrdersCard

/-- THE TIED CARD OF 'laws.FnSpringsOf'. -/
def fnSpringsOfCard : Claim7 := { stood := { row := fnSpringsOfRow, standIns := [], harness := (true, "965d8e39d403633633310348910f9f2e4b6c86fae1fee4da325f88a060cc0857"), looks := false }, kinds := [], alts := [], laidByText := true, laidKinds := [.data], laidTests := true, laidLooks := .later }
def FnSpringsOfCardSaid : Prop := Claim7.holds Tryd.pinned (.plain (OpenSpec.ofChange fnSpringsOfSpec)) fnSpringsOfCard

/-- THE TIED CARD OF 'laws.FnBasinsAreOutlets'. -/
def fnBasinsAreOutletsCard : Claim7 := { stood := { row := fnBasinsAreOutletsRow, standIns := [], harness := (true, "965d8e39d403633633310348910f9f2e4b6c86fae1fee4da325f88a060cc0857"), looks := false }, kinds := [], alts := [], laidByText := true, laidKinds := [.data], laidTests := true, laidLooks := .later }
def FnBasinsAreOutletsCardSaid : Prop := Claim7.holds Tryd.pinned (.plain (OpenSpec.ofChange fnBasinsAreOutletsSpec)) fnBasinsAreOutletsCard

/-- THE TIED CARD OF 'laws.FnExactAreasOf'. -/
def fnExactAreasOfCard : Claim7 := { stood := { row := fnExactAreasOfRow, standIns := [], harness := (true, "965d8e39d403633633310348910f9f2e4b6c86fae1fee4da325f88a060cc0857"), looks := false }, kinds := [], alts := [], laidByText := true, laidKinds := [.data], laidTests := true, laidLooks := .later }
def FnExactAreasOfCardSaid : Prop := Claim7.holds Tryd.pinned (.plain (OpenSpec.ofChange fnExactAreasOfSpec)) fnExactAreasOfCard

/-- THE TIED CARD OF 'laws.FnExactBasinsOf'. -/
def fnExactBasinsOfCard : Claim7 := { stood := { row := fnExactBasinsOfRow, standIns := [], harness := (true, "965d8e39d403633633310348910f9f2e4b6c86fae1fee4da325f88a060cc0857"), looks := false }, kinds := [], alts := [], laidByText := true, laidKinds := [.data], laidTests := true, laidLooks := .later }
def FnExactBasinsOfCardSaid : Prop := Claim7.holds Tryd.pinned (.plain (OpenSpec.ofChange fnExactBasinsOfSpec)) fnExactBasinsOfCard

/-- THE TIED CARD OF 'laws.FnExactLongestOf'. -/
def fnExactLongestOfCard : Claim7 := { stood := { row := fnExactLongestOfRow, standIns := [], harness := (true, "965d8e39d403633633310348910f9f2e4b6c86fae1fee4da325f88a060cc0857"), looks := false }, kinds := [], alts := [], laidByText := true, laidKinds := [.data], laidTests := true, laidLooks := .later }
def FnExactLongestOfCardSaid : Prop := Claim7.holds Tryd.pinned (.plain (OpenSpec.ofChange fnExactLongestOfSpec)) fnExactLongestOfCard

/-- THE TIED CARD OF 'laws.FnExactStreamOrders'. -/
def fnExactStreamOrdersCard : Claim7 := { stood := { row := fnExactStreamOrdersRow, standIns := [], harness := (true, "965d8e39d403633633310348910f9f2e4b6c86fae1fee4da325f88a060cc0857"), looks := false }, kinds := [], alts := [], laidByText := true, laidKinds := [.data], laidTests := true, laidLooks := .later }
def FnExactStreamOrdersCardSaid : Prop := Claim7.holds Tryd.pinned (.plain (OpenSpec.ofChange fnExactStreamOrdersSpec)) fnExactStreamOrdersCard

/-- THE TIED CARD OF 'laws.FnExactSpringsOf'. -/
def fnExactSpringsOfCard : Claim7 := { stood := { row := fnExactSpringsOfRow, standIns := [], harness := (true, "965d8e39d403633633310348910f9f2e4b6c86fae1fee4da325f88a060cc0857"), looks := false }, kinds := [], alts := [], laidByText := true, laidKinds := [.data], laidTests := true, laidLooks := .later }
def FnExactSpringsOfCardSaid : Prop := Claim7.holds Tryd.pinned (.plain (OpenSpec.ofChange fnExactSpringsOfSpec)) fnExactSpringsOfCard

/-- THE SECOND FORM's CARD OF 'laws.FnAreasOf'. -/
def fnAreasOfUptoCard : Claim7 := { stood := { row := fnAreasOfUptoRow, standIns := [], harness := (true, "965d8e39d403633633310348910f9f2e4b6c86fae1fee4da325f88a060cc0857"), looks := false }, kinds := [], alts := [], laidByText := true, laidKinds := [.data], laidTests := true, laidLooks := .later }
def FnAreasOfUptoCardSaid : Prop := Claim7.holds Tryd.pinned (.plain (OpenSpec.upto fnAreasOfSpec)) fnAreasOfUptoCard

/-- THE SECOND FORM's CARD OF 'laws.FnBasinsOf'. -/
def fnBasinsOfUptoCard : Claim7 := { stood := { row := fnBasinsOfUptoRow, standIns := [], harness := (true, "965d8e39d403633633310348910f9f2e4b6c86fae1fee4da325f88a060cc0857"), looks := false }, kinds := [], alts := [], laidByText := true, laidKinds := [.data], laidTests := true, laidLooks := .later }
def FnBasinsOfUptoCardSaid : Prop := Claim7.holds Tryd.pinned (.plain (OpenSpec.upto fnBasinsOfSpec)) fnBasinsOfUptoCard

/-- THE SECOND FORM's CARD OF 'laws.FnLongestOf'. -/
def fnLongestOfUptoCard : Claim7 := { stood := { row := fnLongestOfUptoRow, standIns := [], harness := (true, "965d8e39d403633633310348910f9f2e4b6c86fae1fee4da325f88a060cc0857"), looks := false }, kinds := [], alts := [], laidByText := true, laidKinds := [.data], laidTests := true, laidLooks := .later }
def FnLongestOfUptoCardSaid : Prop := Claim7.holds Tryd.pinned (.plain (OpenSpec.upto fnLongestOfSpec)) fnLongestOfUptoCard

/-- THE SECOND FORM's CARD OF 'laws.FnStreamOrders'. -/
def fnStreamOrdersUptoCard : Claim7 := { stood := { row := fnStreamOrdersUptoRow, standIns := [], harness := (true, "965d8e39d403633633310348910f9f2e4b6c86fae1fee4da325f88a060cc0857"), looks := false }, kinds := [], alts := [], laidByText := true, laidKinds := [.data], laidTests := true, laidLooks := .later }
def FnStreamOrdersUptoCardSaid : Prop := Claim7.holds Tryd.pinned (.plain (OpenSpec.upto fnStreamOrdersSpec)) fnStreamOrdersUptoCard

/-- THE SECOND FORM's CARD OF 'laws.FnSpringsOf'. -/
def fnSpringsOfUptoCard : Claim7 := { stood := { row := fnSpringsOfUptoRow, standIns := [], harness := (true, "965d8e39d403633633310348910f9f2e4b6c86fae1fee4da325f88a060cc0857"), looks := false }, kinds := [], alts := [], laidByText := true, laidKinds := [.data], laidTests := true, laidLooks := .later }
def FnSpringsOfUptoCardSaid : Prop := Claim7.holds Tryd.pinned (.plain (OpenSpec.upto fnSpringsOfSpec)) fnSpringsOfUptoCard

/-- THE SECOND FORM's CARD OF 'laws.FnBasinsAreOutlets'. -/
def fnBasinsAreOutletsUptoCard : Claim7 := { stood := { row := fnBasinsAreOutletsUptoRow, standIns := [], harness := (true, "965d8e39d403633633310348910f9f2e4b6c86fae1fee4da325f88a060cc0857"), looks := false }, kinds := [], alts := [], laidByText := true, laidKinds := [.data], laidTests := true, laidLooks := .later }
def FnBasinsAreOutletsUptoCardSaid : Prop := Claim7.holds Tryd.pinned (.plain (OpenSpec.upto fnBasinsAreOutletsSpec)) fnBasinsAreOutletsUptoCard

/-- THE SECOND FORM's CARD OF 'laws.FnExactAreasOf'. -/
def fnExactAreasOfUptoCard : Claim7 := { stood := { row := fnExactAreasOfUptoRow, standIns := [], harness := (true, "965d8e39d403633633310348910f9f2e4b6c86fae1fee4da325f88a060cc0857"), looks := false }, kinds := [], alts := [], laidByText := true, laidKinds := [.data], laidTests := true, laidLooks := .later }
def FnExactAreasOfUptoCardSaid : Prop := Claim7.holds Tryd.pinned (.plain (OpenSpec.upto fnExactAreasOfSpec)) fnExactAreasOfUptoCard

/-- THE SECOND FORM's CARD OF 'laws.FnExactBasinsOf'. -/
def fnExactBasinsOfUptoCard : Claim7 := { stood := { row := fnExactBasinsOfUptoRow, standIns := [], harness := (true, "965d8e39d403633633310348910f9f2e4b6c86fae1fee4da325f88a060cc0857"), looks := false }, kinds := [], alts := [], laidByText := true, laidKinds := [.data], laidTests := true, laidLooks := .later }
def FnExactBasinsOfUptoCardSaid : Prop := Claim7.holds Tryd.pinned (.plain (OpenSpec.upto fnExactBasinsOfSpec)) fnExactBasinsOfUptoCard

/-- THE SECOND FORM's CARD OF 'laws.FnExactLongestOf'. -/
def fnExactLongestOfUptoCard : Claim7 := { stood := { row := fnExactLongestOfUptoRow, standIns := [], harness := (true, "965d8e39d403633633310348910f9f2e4b6c86fae1fee4da325f88a060cc0857"), looks := false }, kinds := [], alts := [], laidByText := true, laidKinds := [.data], laidTests := true, laidLooks := .later }
def FnExactLongestOfUptoCardSaid : Prop := Claim7.holds Tryd.pinned (.plain (OpenSpec.upto fnExactLongestOfSpec)) fnExactLongestOfUptoCard

/-- THE SECOND FORM's CARD OF 'laws.FnExactStreamOrders'. -/
def fnExactStreamOrdersUptoCard : Claim7 := { stood := { row := fnExactStreamOrdersUptoRow, standIns := [], harness := (true, "965d8e39d403633633310348910f9f2e4b6c86fae1fee4da325f88a060cc0857"), looks := false }, kinds := [], alts := [], laidByText := true, laidKinds := [.data], laidTests := true, laidLooks := .later }
def FnExactStreamOrdersUptoCardSaid : Prop := Claim7.holds Tryd.pinned (.plain (OpenSpec.upto fnExactStreamOrdersSpec)) fnExactStreamOrdersUptoCard

/-- THE SECOND FORM's CARD OF 'laws.FnExactSpringsOf'. -/
def fnExactSpringsOfUptoCard : Claim7 := { stood := { row := fnExactSpringsOfUptoRow, standIns := [], harness := (true, "965d8e39d403633633310348910f9f2e4b6c86fae1fee4da325f88a060cc0857"), looks := false }, kinds := [], alts := [], laidByText := true, laidKinds := [.data], laidTests := true, laidLooks := .later }
def FnExactSpringsOfUptoCardSaid : Prop := Claim7.holds Tryd.pinned (.plain (OpenSpec.upto fnExactSpringsOfSpec)) fnExactSpringsOfUptoCard
end Rows
end Go.Proofs.YtekhjjcgkmnmlaaDoor
