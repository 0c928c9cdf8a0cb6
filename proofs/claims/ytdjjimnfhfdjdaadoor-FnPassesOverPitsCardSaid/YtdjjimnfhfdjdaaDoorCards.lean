/-
  DERIVED. GIVEN WITH THE SEED: THE CARDS: each row of YtdjjimnfhfdjdaaDoorRows.lean that lists a variable, with what it lists TIED to the program's text (the seventh form; the later family's looks); each row that meets fmt, with fmt's text TOLD by the authors' own Lean function (tested against real Go, not proved from fmt's source: count such statements apart). THE CARD IS WHAT COUNTS. Prove the row's statement (the work); the ties are given (YtdjjimnfhfdjdaaDoorTie.lean); close each card by the builder's one call (the guide's Derived/Test/ToyasCard.lean, 'card_holds'). Laid BY PROGRAM, IN A SANDBOX (cutbox-door.mjs). By AI agents, Wed Nov 11 2026. No macro, syntax, notation, axiom, sorry.
-/
import Derived.Test.YtdjjimnfhfdjdaaDoorRows
import GoSem.ClaimSeven
namespace Go.Proofs.YtdjjimnfhfdjdaaDoor
namespace Rows

/-- THE TIED CARD OF 'laws.FnPeaksOf'. -/
def fnPeaksOfCard : Claim7 := { stood := { row := fnPeaksOfRow, standIns := [], harness := (true, "d0077aa25fc5df399e22bb9fc939884ab552965aac0074861d1d0653fa70539a"), looks := false }, kinds := [], alts := [], laidByText := true, laidKinds := [.data], laidTests := true, laidLooks := .later }
def FnPeaksOfCardSaid : Prop := Claim7.holds Tryd.pinned (.plain (OpenSpec.ofChange fnPeaksOfSpec)) fnPeaksOfCard

/-- THE TIED CARD OF 'laws.FnPitsOf'. -/
def fnPitsOfCard : Claim7 := { stood := { row := fnPitsOfRow, standIns := [], harness := (true, "d0077aa25fc5df399e22bb9fc939884ab552965aac0074861d1d0653fa70539a"), looks := false }, kinds := [], alts := [], laidByText := true, laidKinds := [.data], laidTests := true, laidLooks := .later }
def FnPitsOfCardSaid : Prop := Claim7.holds Tryd.pinned (.plain (OpenSpec.ofChange fnPitsOfSpec)) fnPitsOfCard

/-- THE TIED CARD OF 'laws.FnExactPeaksOf'. -/
def fnExactPeaksOfCard : Claim7 := { stood := { row := fnExactPeaksOfRow, standIns := [], harness := (true, "d0077aa25fc5df399e22bb9fc939884ab552965aac0074861d1d0653fa70539a"), looks := false }, kinds := [], alts := [], laidByText := true, laidKinds := [.data], laidTests := true, laidLooks := .later }
def FnExactPeaksOfCardSaid : Prop := Claim7.holds Tryd.pinned (.plain (OpenSpec.ofChange fnExactPeaksOfSpec)) fnExactPeaksOfCard

/-- THE TIED CARD OF 'laws.FnExactPitsOf'. -/
def fnExactPitsOfCard : Claim7 := { stood := { row := fnExactPitsOfRow, standIns := [], harness := (true, "d0077aa25fc5df399e22bb9fc939884ab552965aac0074861d1d0653fa70539a"), looks := false }, kinds := [], alts := [], laidByText := true, laidKinds := [.data], laidTests := true, laidLooks := .later }
def FnExactPitsOfCardSaid : Prop := Claim7.holds Tryd.pinned (.plain (OpenSpec.ofChange fnExactPitsOfSpec)) fnExactPitsOfCard

/-- THE TIED CARD OF 'laws.FnKeepsOf'. -/
def fnKeepsOfCard : Claim7 := { stood := { row := fnKeepsOfRow, standIns := [], harness := (true, "d0077aa25fc5df399e22bb9fc939884ab552965aac0074861d1d0653fa70539a"), looks := false }, kinds := [], alts := [], laidByText := true, laidKinds := [.data], laidTests := true, laidLooks := .later }
def FnKeepsOfCardSaid : Prop := Claim7.holds Tryd.pinned (.plain (OpenSpec.ofChange fnKeepsOfSpec)) fnKeepsOfCard

/-- THE TIED CARD OF 'laws.FnStandsOf'. -/
def fnStandsOfCard : Claim7 := { stood := { row := fnStandsOfRow, standIns := [], harness := (true, "d0077aa25fc5df399e22bb9fc939884ab552965aac0074861d1d0653fa70539a"), looks := false }, kinds := [], alts := [], laidByText := true, laidKinds := [.data], laidTests := true, laidLooks := .later }
def FnStandsOfCardSaid : Prop := Claim7.holds Tryd.pinned (.plain (OpenSpec.ofChange fnStandsOfSpec)) fnStandsOfCard

/-- THE TIED CARD OF 'laws.FnPassesOverPits'. -/
def fnPassesOverPitsCard : Claim7 := { stood := { row := fnPassesOverPitsRow, standIns := [], harness := (true, "d0077aa25fc5df399e22bb9fc939884ab552965aac0074861d1d0653fa70539a"), looks := false }, kinds := [], alts := [], laidByText := true, laidKinds := [.data], laidTests := true, laidLooks := .later }
def FnPassesOverPitsCardSaid : Prop := Claim7.holds Tryd.pinned (.plain (OpenSpec.ofChange fnPassesOverPitsSpec)) fnPassesOverPitsCard

/-- THE TIED CARD OF 'laws.FnExactKeepsOf'. -/
def fnExactKeepsOfCard : Claim7 := { stood := { row := fnExactKeepsOfRow, standIns := [], harness := (true, "d0077aa25fc5df399e22bb9fc939884ab552965aac0074861d1d0653fa70539a"), looks := false }, kinds := [], alts := [], laidByText := true, laidKinds := [.data], laidTests := true, laidLooks := .later }
def FnExactKeepsOfCardSaid : Prop := Claim7.holds Tryd.pinned (.plain (OpenSpec.ofChange fnExactKeepsOfSpec)) fnExactKeepsOfCard

/-- THE TIED CARD OF 'laws.FnExactStandsOf'. -/
def fnExactStandsOfCard : Claim7 := { stood := { row := fnExactStandsOfRow, standIns := [], harness := (true, "d0077aa25fc5df399e22bb9fc939884ab552965aac0074861d1d0653fa70539a"), looks := false }, kinds := [], alts := [], laidByText := true, laidKinds := [.data], laidTests := true, laidLooks := .later }
def FnExactStandsOfCardSaid : Prop := Claim7.holds Tryd.pinned (.plain (OpenSpec.ofChange fnExactStandsOfSpec)) fnExactStandsOfCard

/-- THE SECOND FORM's CARD OF 'laws.FnPeaksOf'. -/
def fnPeaksOfUptoCard : Claim7 := { stood := { row := fnPeaksOfUptoRow, standIns := [], harness := (true, "d0077aa25fc5df399e22bb9fc939884ab552965aac0074861d1d0653fa70539a"), looks := false }, kinds := [], alts := [], laidByText := true, laidKinds := [.data], laidTests := true, laidLooks := .later }
def FnPeaksOfUptoCardSaid : Prop := Claim7.holds Tryd.pinned (.plain (OpenSpec.upto fnPeaksOfSpec)) fnPeaksOfUptoCard

/-- THE SECOND FORM's CARD OF 'laws.FnPitsOf'. -/
def fnPitsOfUptoCard : Claim7 := { stood := { row := fnPitsOfUptoRow, standIns := [], harness := (true, "d0077aa25fc5df399e22bb9fc939884ab552965aac0074861d1d0653fa70539a"), looks := false }, kinds := [], alts := [], laidByText := true, laidKinds := [.data], laidTests := true, laidLooks := .later }
def FnPitsOfUptoCardSaid : Prop := Claim7.holds Tryd.pinned (.plain (OpenSpec.upto fnPitsOfSpec)) fnPitsOfUptoCard

/-- THE SECOND FORM's CARD OF 'laws.FnExactPeaksOf'. -/
def fnExactPeaksOfUptoCard : Claim7 := { stood := { row := fnExactPeaksOfUptoRow, standIns := [], harness := (true, "d0077aa25fc5df399e22bb9fc939884ab552965aac0074861d1d0653fa70539a"), looks := false }, kinds := [], alts := [], laidByText := true, laidKinds := [.data], laidTests := true, laidLooks := .later }
def FnExactPeaksOfUptoCardSaid : Prop := Claim7.holds Tryd.pinned (.plain (OpenSpec.upto fnExactPeaksOfSpec)) fnExactPeaksOfUptoCard

/-- THE SECOND FORM's CARD OF 'laws.FnExactPitsOf'. -/
def fnExactPitsOfUptoCard : Claim7 := { stood := { row := fnExactPitsOfUptoRow, standIns := [], harness := (true, "d0077aa25fc5df399e22bb9fc939884ab552965aac0074861d1d0653fa70539a"), looks := false }, kinds := [], alts := [], laidByText := true, laidKinds := [.data], laidTests := true, laidLooks := .later }
def FnExactPitsOfUptoCardSaid : Prop := Claim7.holds Tryd.pinned (.plain (OpenSpec.upto fnExactPitsOfSpec)) fnExactPitsOfUptoCard

/-- THE SECOND FORM's CARD OF 'laws.FnKeepsOf'. -/
def fnKeepsOfUptoCard : Claim7 := { stood := { row := fnKeepsOfUptoRow, standIns := [], harness := (true, "d0077aa25fc5df399e22bb9fc939884ab552965aac0074861d1d0653fa70539a"), looks := false }, kinds := [], alts := [], laidByText := true, laidKinds := [.data], laidTests := true, laidLooks := .later }
def FnKeepsOfUptoCardSaid : Prop := Claim7.holds Tryd.pinned (.plain (OpenSpec.upto fnKeepsOfSpec)) fnKeepsOfUptoCard

/-- THE SECOND FORM's CARD OF 'laws.FnStandsOf'. -/
def fnStandsOfUptoCard : Claim7 := { stood := { row := fnStandsOfUptoRow, standIns := [], harness := (true, "d0077aa25fc5df399e22bb9fc939884ab552965aac0074861d1d0653fa70539a"), looks := false }, kinds := [], alts := [], laidByText := true, laidKinds := [.data], laidTests := true, laidLooks := .later }
def FnStandsOfUptoCardSaid : Prop := Claim7.holds Tryd.pinned (.plain (OpenSpec.upto fnStandsOfSpec)) fnStandsOfUptoCard

/-- THE SECOND FORM's CARD OF 'laws.FnPassesOverPits'. -/
def fnPassesOverPitsUptoCard : Claim7 := { stood := { row := fnPassesOverPitsUptoRow, standIns := [], harness := (true, "d0077aa25fc5df399e22bb9fc939884ab552965aac0074861d1d0653fa70539a"), looks := false }, kinds := [], alts := [], laidByText := true, laidKinds := [.data], laidTests := true, laidLooks := .later }
def FnPassesOverPitsUptoCardSaid : Prop := Claim7.holds Tryd.pinned (.plain (OpenSpec.upto fnPassesOverPitsSpec)) fnPassesOverPitsUptoCard

/-- THE SECOND FORM's CARD OF 'laws.FnExactKeepsOf'. -/
def fnExactKeepsOfUptoCard : Claim7 := { stood := { row := fnExactKeepsOfUptoRow, standIns := [], harness := (true, "d0077aa25fc5df399e22bb9fc939884ab552965aac0074861d1d0653fa70539a"), looks := false }, kinds := [], alts := [], laidByText := true, laidKinds := [.data], laidTests := true, laidLooks := .later }
def FnExactKeepsOfUptoCardSaid : Prop := Claim7.holds Tryd.pinned (.plain (OpenSpec.upto fnExactKeepsOfSpec)) fnExactKeepsOfUptoCard

/-- THE SECOND FORM's CARD OF 'laws.FnExactStandsOf'. -/
def fnExactStandsOfUptoCard : Claim7 := { stood := { row := fnExactStandsOfUptoRow, standIns := [], harness := (true, "d0077aa25fc5df399e22bb9fc939884ab552965aac0074861d1d0653fa70539a"), looks := false }, kinds := [], alts := [], laidByText := true, laidKinds := [.data], laidTests := true, laidLooks := .later }
def FnExactStandsOfUptoCardSaid : Prop := Claim7.holds Tryd.pinned (.plain (OpenSpec.upto fnExactStandsOfSpec)) fnExactStandsOfUptoCard
end Rows
end Go.Proofs.YtdjjimnfhfdjdaaDoor
