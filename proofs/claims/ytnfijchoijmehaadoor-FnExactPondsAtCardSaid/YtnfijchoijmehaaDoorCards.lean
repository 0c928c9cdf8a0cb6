/-
  DERIVED. GIVEN WITH THE SEED: THE CARDS: each row of YtnfijchoijmehaaDoorRows.lean that lists a variable, with what it lists TIED to the program's text (the seventh form; the later family's looks); each row that meets fmt, with fmt's text TOLD by the authors' own Lean function (tested against real Go, not proved from fmt's source: count such statements apart). THE CARD IS WHAT COUNTS. Prove the row's statement (the work); the ties are given (YtnfijchoijmehaaDoorTie.lean); close each card by the builder's one call (the guide's Derived/Test/ToyasCard.lean, 'card_holds'). Laid BY PROGRAM, IN A SANDBOX (cutbox-door.mjs). By AI agents, Wed Nov 11 2026. No macro, syntax, notation, axiom, sorry.
-/
import Derived.Test.YtnfijchoijmehaaDoorRows
import GoSem.ClaimSeven
namespace Go.Proofs.YtnfijchoijmehaaDoor
namespace Rows

/-- THE TIED CARD OF 'laws.FnExactLandsAt'. -/
def fnExactLandsAtCard : Claim7 := { stood := { row := fnExactLandsAtRow, standIns := [], harness := (true, "b8db0cdb7116a36c393d1c7dca0e1986641b77a822cf1da0a9dd02c460307223"), looks := false }, kinds := [], alts := [], laidByText := true, laidKinds := [.data], laidTests := true, laidLooks := .later }
def FnExactLandsAtCardSaid : Prop := Claim7.holds Tryd.pinned (.plain (OpenSpec.ofChange fnExactLandsAtSpec)) fnExactLandsAtCard

/-- THE TIED CARD OF 'laws.FnExactPondsAt'. -/
def fnExactPondsAtCard : Claim7 := { stood := { row := fnExactPondsAtRow, standIns := [], harness := (true, "b8db0cdb7116a36c393d1c7dca0e1986641b77a822cf1da0a9dd02c460307223"), looks := false }, kinds := [], alts := [], laidByText := true, laidKinds := [.data, .data], laidTests := true, laidLooks := .later }
def FnExactPondsAtCardSaid : Prop := Claim7.holds Tryd.pinned (.plain (OpenSpec.ofChange fnExactPondsAtSpec)) fnExactPondsAtCard

/-- THE TIED CARD OF 'laws.FnExactHolesAt'. -/
def fnExactHolesAtCard : Claim7 := { stood := { row := fnExactHolesAtRow, standIns := [], harness := (true, "b8db0cdb7116a36c393d1c7dca0e1986641b77a822cf1da0a9dd02c460307223"), looks := false }, kinds := [], alts := [], laidByText := true, laidKinds := [.data, .data], laidTests := true, laidLooks := .later }
def FnExactHolesAtCardSaid : Prop := Claim7.holds Tryd.pinned (.plain (OpenSpec.ofChange fnExactHolesAtSpec)) fnExactHolesAtCard

/-- THE SECOND FORM's CARD OF 'laws.FnExactLandsAt'. -/
def fnExactLandsAtUptoCard : Claim7 := { stood := { row := fnExactLandsAtUptoRow, standIns := [], harness := (true, "b8db0cdb7116a36c393d1c7dca0e1986641b77a822cf1da0a9dd02c460307223"), looks := false }, kinds := [], alts := [], laidByText := true, laidKinds := [.data], laidTests := true, laidLooks := .later }
def FnExactLandsAtUptoCardSaid : Prop := Claim7.holds Tryd.pinned (.plain (OpenSpec.upto fnExactLandsAtSpec)) fnExactLandsAtUptoCard

/-- THE SECOND FORM's CARD OF 'laws.FnExactPondsAt'. -/
def fnExactPondsAtUptoCard : Claim7 := { stood := { row := fnExactPondsAtUptoRow, standIns := [], harness := (true, "b8db0cdb7116a36c393d1c7dca0e1986641b77a822cf1da0a9dd02c460307223"), looks := false }, kinds := [], alts := [], laidByText := true, laidKinds := [.data, .data], laidTests := true, laidLooks := .later }
def FnExactPondsAtUptoCardSaid : Prop := Claim7.holds Tryd.pinned (.plain (OpenSpec.upto fnExactPondsAtSpec)) fnExactPondsAtUptoCard

/-- THE SECOND FORM's CARD OF 'laws.FnExactHolesAt'. -/
def fnExactHolesAtUptoCard : Claim7 := { stood := { row := fnExactHolesAtUptoRow, standIns := [], harness := (true, "b8db0cdb7116a36c393d1c7dca0e1986641b77a822cf1da0a9dd02c460307223"), looks := false }, kinds := [], alts := [], laidByText := true, laidKinds := [.data, .data], laidTests := true, laidLooks := .later }
def FnExactHolesAtUptoCardSaid : Prop := Claim7.holds Tryd.pinned (.plain (OpenSpec.upto fnExactHolesAtSpec)) fnExactHolesAtUptoCard
end Rows
end Go.Proofs.YtnfijchoijmehaaDoor
