/-
  DERIVED. GIVEN WITH THE SEED: THE CARDS: each row of YtaeenedjmakelaaDoorRows.lean that lists a variable, with what it lists TIED to the program's text (the seventh form; the later family's looks); each row that meets fmt, with fmt's text TOLD by the authors' own Lean function (tested against real Go, not proved from fmt's source: count such statements apart). THE CARD IS WHAT COUNTS. Prove the row's statement (the work); the ties are given (YtaeenedjmakelaaDoorTie.lean); close each card by the builder's one call (the guide's Derived/Test/ToyasCard.lean, 'card_holds'). Laid BY PROGRAM, IN A SANDBOX (cutbox-door.mjs). By AI agents, Wed Nov 11 2026. No macro, syntax, notation, axiom, sorry.
-/
import Derived.Test.YtaeenedjmakelaaDoorRows
import GoSem.ClaimSeven
namespace Go.Proofs.YtaeenedjmakelaaDoor
namespace Rows

/-- THE TIED CARD OF 'laws.FnExactGuardsOf'. -/
def fnExactGuardsOfCard : Claim7 := { stood := { row := fnExactGuardsOfRow, standIns := [], harness := (true, "414e4726f9187200e47fcc20b22e335db09ce23d26e4f30ffb888657565c531e"), looks := false }, kinds := [], alts := [], laidByText := true, laidKinds := [.data, .data], laidTests := true, laidLooks := .later }
def FnExactGuardsOfCardSaid : Prop := Claim7.holds Tryd.pinned (.plain (OpenSpec.ofChange fnExactGuardsOfSpec)) fnExactGuardsOfCard

/-- THE TIED CARD OF 'laws.FnGuardsOf'. -/
def fnGuardsOfCard : Claim7 := { stood := { row := fnGuardsOfRow, standIns := [], harness := (true, "414e4726f9187200e47fcc20b22e335db09ce23d26e4f30ffb888657565c531e"), looks := false }, kinds := [], alts := [], laidByText := true, laidKinds := [.data, .data], laidTests := true, laidLooks := .later }
def FnGuardsOfCardSaid : Prop := Claim7.holds Tryd.pinned (.plain (OpenSpec.ofChange fnGuardsOfSpec)) fnGuardsOfCard

/-- THE TIED CARD OF 'laws.FnExactMergesOf'. -/
def fnExactMergesOfCard : Claim7 := { stood := { row := fnExactMergesOfRow, standIns := [], harness := (true, "414e4726f9187200e47fcc20b22e335db09ce23d26e4f30ffb888657565c531e"), looks := false }, kinds := [], alts := [], laidByText := true, laidKinds := [.data], laidTests := true, laidLooks := .later }
def FnExactMergesOfCardSaid : Prop := Claim7.holds Tryd.pinned (.plain (OpenSpec.ofChange fnExactMergesOfSpec)) fnExactMergesOfCard

/-- THE TIED CARD OF 'laws.FnMergesOf'. -/
def fnMergesOfCard : Claim7 := { stood := { row := fnMergesOfRow, standIns := [], harness := (true, "414e4726f9187200e47fcc20b22e335db09ce23d26e4f30ffb888657565c531e"), looks := false }, kinds := [], alts := [], laidByText := true, laidKinds := [.data], laidTests := true, laidLooks := .later }
def FnMergesOfCardSaid : Prop := Claim7.holds Tryd.pinned (.plain (OpenSpec.ofChange fnMergesOfSpec)) fnMergesOfCard

/-- THE TIED CARD OF 'laws.FnExactSpanOf'. -/
def fnExactSpanOfCard : Claim7 := { stood := { row := fnExactSpanOfRow, standIns := [], harness := (true, "414e4726f9187200e47fcc20b22e335db09ce23d26e4f30ffb888657565c531e"), looks := false }, kinds := [], alts := [], laidByText := true, laidKinds := [.data], laidTests := true, laidLooks := .later }
def FnExactSpanOfCardSaid : Prop := Claim7.holds Tryd.pinned (.plain (OpenSpec.ofChange fnExactSpanOfSpec)) fnExactSpanOfCard

/-- THE TIED CARD OF 'laws.FnSpanOf'. -/
def fnSpanOfCard : Claim7 := { stood := { row := fnSpanOfRow, standIns := [], harness := (true, "414e4726f9187200e47fcc20b22e335db09ce23d26e4f30ffb888657565c531e"), looks := false }, kinds := [], alts := [], laidByText := true, laidKinds := [.data], laidTests := true, laidLooks := .later }
def FnSpanOfCardSaid : Prop := Claim7.holds Tryd.pinned (.plain (OpenSpec.ofChange fnSpanOfSpec)) fnSpanOfCard

/-- THE TIED CARD OF 'laws.FnLandsAt'. -/
def fnLandsAtCard : Claim7 := { stood := { row := fnLandsAtRow, standIns := [], harness := (true, "414e4726f9187200e47fcc20b22e335db09ce23d26e4f30ffb888657565c531e"), looks := false }, kinds := [], alts := [], laidByText := true, laidKinds := [.data, .data], laidTests := true, laidLooks := .later }
def FnLandsAtCardSaid : Prop := Claim7.holds Tryd.pinned (.plain (OpenSpec.ofChange fnLandsAtSpec)) fnLandsAtCard

/-- THE SECOND FORM's CARD OF 'laws.FnExactGuardsOf'. -/
def fnExactGuardsOfUptoCard : Claim7 := { stood := { row := fnExactGuardsOfUptoRow, standIns := [], harness := (true, "414e4726f9187200e47fcc20b22e335db09ce23d26e4f30ffb888657565c531e"), looks := false }, kinds := [], alts := [], laidByText := true, laidKinds := [.data, .data], laidTests := true, laidLooks := .later }
def FnExactGuardsOfUptoCardSaid : Prop := Claim7.holds Tryd.pinned (.plain (OpenSpec.upto fnExactGuardsOfSpec)) fnExactGuardsOfUptoCard

/-- THE SECOND FORM's CARD OF 'laws.FnGuardsOf'. -/
def fnGuardsOfUptoCard : Claim7 := { stood := { row := fnGuardsOfUptoRow, standIns := [], harness := (true, "414e4726f9187200e47fcc20b22e335db09ce23d26e4f30ffb888657565c531e"), looks := false }, kinds := [], alts := [], laidByText := true, laidKinds := [.data, .data], laidTests := true, laidLooks := .later }
def FnGuardsOfUptoCardSaid : Prop := Claim7.holds Tryd.pinned (.plain (OpenSpec.upto fnGuardsOfSpec)) fnGuardsOfUptoCard

/-- THE SECOND FORM's CARD OF 'laws.FnExactMergesOf'. -/
def fnExactMergesOfUptoCard : Claim7 := { stood := { row := fnExactMergesOfUptoRow, standIns := [], harness := (true, "414e4726f9187200e47fcc20b22e335db09ce23d26e4f30ffb888657565c531e"), looks := false }, kinds := [], alts := [], laidByText := true, laidKinds := [.data], laidTests := true, laidLooks := .later }
def FnExactMergesOfUptoCardSaid : Prop := Claim7.holds Tryd.pinned (.plain (OpenSpec.upto fnExactMergesOfSpec)) fnExactMergesOfUptoCard

/-- THE SECOND FORM's CARD OF 'laws.FnMergesOf'. -/
def fnMergesOfUptoCard : Claim7 := { stood := { row := fnMergesOfUptoRow, standIns := [], harness := (true, "414e4726f9187200e47fcc20b22e335db09ce23d26e4f30ffb888657565c531e"), looks := false }, kinds := [], alts := [], laidByText := true, laidKinds := [.data], laidTests := true, laidLooks := .later }
def FnMergesOfUptoCardSaid : Prop := Claim7.holds Tryd.pinned (.plain (OpenSpec.upto fnMergesOfSpec)) fnMergesOfUptoCard

/-- THE SECOND FORM's CARD OF 'laws.FnExactSpanOf'. -/
def fnExactSpanOfUptoCard : Claim7 := { stood := { row := fnExactSpanOfUptoRow, standIns := [], harness := (true, "414e4726f9187200e47fcc20b22e335db09ce23d26e4f30ffb888657565c531e"), looks := false }, kinds := [], alts := [], laidByText := true, laidKinds := [.data], laidTests := true, laidLooks := .later }
def FnExactSpanOfUptoCardSaid : Prop := Claim7.holds Tryd.pinned (.plain (OpenSpec.upto fnExactSpanOfSpec)) fnExactSpanOfUptoCard

/-- THE SECOND FORM's CARD OF 'laws.FnSpanOf'. -/
def fnSpanOfUptoCard : Claim7 := { stood := { row := fnSpanOfUptoRow, standIns := [], harness := (true, "414e4726f9187200e47fcc20b22e335db09ce23d26e4f30ffb888657565c531e"), looks := false }, kinds := [], alts := [], laidByText := true, laidKinds := [.data], laidTests := true, laidLooks := .later }
def FnSpanOfUptoCardSaid : Prop := Claim7.holds Tryd.pinned (.plain (OpenSpec.upto fnSpanOfSpec)) fnSpanOfUptoCard

/-- THE SECOND FORM's CARD OF 'laws.FnLandsAt'. -/
def fnLandsAtUptoCard : Claim7 := { stood := { row := fnLandsAtUptoRow, standIns := [], harness := (true, "414e4726f9187200e47fcc20b22e335db09ce23d26e4f30ffb888657565c531e"), looks := false }, kinds := [], alts := [], laidByText := true, laidKinds := [.data, .data], laidTests := true, laidLooks := .later }
def FnLandsAtUptoCardSaid : Prop := Claim7.holds Tryd.pinned (.plain (OpenSpec.upto fnLandsAtSpec)) fnLandsAtUptoCard
end Rows
end Go.Proofs.YtaeenedjmakelaaDoor
