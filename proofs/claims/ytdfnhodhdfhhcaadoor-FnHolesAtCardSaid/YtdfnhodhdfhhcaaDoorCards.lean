/-
  DERIVED. GIVEN WITH THE SEED: THE CARDS: each row of YtdfnhodhdfhhcaaDoorRows.lean that lists a variable, with what it lists TIED to the program's text (the seventh form; the later family's looks); each row that meets fmt, with fmt's text TOLD by the authors' own Lean function (tested against real Go, not proved from fmt's source: count such statements apart). THE CARD IS WHAT COUNTS. Prove the row's statement (the work); the ties are given (YtdfnhodhdfhhcaaDoorTie.lean); close each card by the builder's one call (the guide's Derived/Test/ToyasCard.lean, 'card_holds'). Laid BY PROGRAM, IN A SANDBOX (cutbox-door.mjs). By AI agents, Wed Nov 11 2026. No macro, syntax, notation, axiom, sorry.
-/
import Derived.Test.YtdfnhodhdfhhcaaDoorRows
import GoSem.ClaimSeven
namespace Go.Proofs.YtdfnhodhdfhhcaaDoor
namespace Rows

/-- THE TIED CARD OF 'laws.FnRimAt'. -/
def fnRimAtCard : Claim7 := { stood := { row := fnRimAtRow, standIns := [], harness := (true, "07470eed5c67dfd2a5d3edecae43f97870398ef3689f862415729682f8a8a45e"), looks := false }, kinds := [], alts := [], laidByText := true, laidKinds := [.data], laidTests := true, laidLooks := .later }
def FnRimAtCardSaid : Prop := Claim7.holds Tryd.pinned (.plain (OpenSpec.ofChange fnRimAtSpec)) fnRimAtCard

/-- THE TIED CARD OF 'laws.FnSidesOfAll'. -/
def fnSidesOfAllCard : Claim7 := { stood := { row := fnSidesOfAllRow, standIns := [], harness := (true, "07470eed5c67dfd2a5d3edecae43f97870398ef3689f862415729682f8a8a45e"), looks := false }, kinds := [], alts := [], laidByText := true, laidKinds := [.data], laidTests := true, laidLooks := .later }
def FnSidesOfAllCardSaid : Prop := Claim7.holds Tryd.pinned (.plain (OpenSpec.ofChange fnSidesOfAllSpec)) fnSidesOfAllCard

/-- THE TIED CARD OF 'laws.FnLandsAt'. -/
def fnLandsAtCard : Claim7 := { stood := { row := fnLandsAtRow, standIns := [], harness := (true, "07470eed5c67dfd2a5d3edecae43f97870398ef3689f862415729682f8a8a45e"), looks := false }, kinds := [], alts := [], laidByText := true, laidKinds := [.data, .data], laidTests := true, laidLooks := .later }
def FnLandsAtCardSaid : Prop := Claim7.holds Tryd.pinned (.plain (OpenSpec.ofChange fnLandsAtSpec)) fnLandsAtCard

/-- THE TIED CARD OF 'laws.FnPondsAt'. -/
def fnPondsAtCard : Claim7 := { stood := { row := fnPondsAtRow, standIns := [], harness := (true, "07470eed5c67dfd2a5d3edecae43f97870398ef3689f862415729682f8a8a45e"), looks := false }, kinds := [], alts := [], laidByText := true, laidKinds := [.data, .data], laidTests := true, laidLooks := .later }
def FnPondsAtCardSaid : Prop := Claim7.holds Tryd.pinned (.plain (OpenSpec.ofChange fnPondsAtSpec)) fnPondsAtCard

/-- THE TIED CARD OF 'laws.FnHolesAt'. -/
def fnHolesAtCard : Claim7 := { stood := { row := fnHolesAtRow, standIns := [], harness := (true, "07470eed5c67dfd2a5d3edecae43f97870398ef3689f862415729682f8a8a45e"), looks := false }, kinds := [], alts := [], laidByText := true, laidKinds := [.data, .data], laidTests := true, laidLooks := .later }
def FnHolesAtCardSaid : Prop := Claim7.holds Tryd.pinned (.plain (OpenSpec.ofChange fnHolesAtSpec)) fnHolesAtCard

/-- THE TIED CARD OF 'laws.FnExactHolesAt'. -/
def fnExactHolesAtCard : Claim7 := { stood := { row := fnExactHolesAtRow, standIns := [], harness := (true, "07470eed5c67dfd2a5d3edecae43f97870398ef3689f862415729682f8a8a45e"), looks := false }, kinds := [], alts := [], laidByText := true, laidKinds := [.data, .data], laidTests := true, laidLooks := .later }
def FnExactHolesAtCardSaid : Prop := Claim7.holds Tryd.pinned (.plain (OpenSpec.ofChange fnExactHolesAtSpec)) fnExactHolesAtCard

/-- THE TIED CARD OF 'laws.FnLandsArePeaks'. -/
def fnLandsArePeaksCard : Claim7 := { stood := { row := fnLandsArePeaksRow, standIns := [], harness := (true, "07470eed5c67dfd2a5d3edecae43f97870398ef3689f862415729682f8a8a45e"), looks := false }, kinds := [], alts := [], laidByText := true, laidKinds := [.data], laidTests := true, laidLooks := .later }
def FnLandsArePeaksCardSaid : Prop := Claim7.holds Tryd.pinned (.plain (OpenSpec.ofChange fnLandsArePeaksSpec)) fnLandsArePeaksCard

/-- THE SECOND FORM's CARD OF 'laws.FnRimAt'. -/
def fnRimAtUptoCard : Claim7 := { stood := { row := fnRimAtUptoRow, standIns := [], harness := (true, "07470eed5c67dfd2a5d3edecae43f97870398ef3689f862415729682f8a8a45e"), looks := false }, kinds := [], alts := [], laidByText := true, laidKinds := [.data], laidTests := true, laidLooks := .later }
def FnRimAtUptoCardSaid : Prop := Claim7.holds Tryd.pinned (.plain (OpenSpec.upto fnRimAtSpec)) fnRimAtUptoCard

/-- THE SECOND FORM's CARD OF 'laws.FnSidesOfAll'. -/
def fnSidesOfAllUptoCard : Claim7 := { stood := { row := fnSidesOfAllUptoRow, standIns := [], harness := (true, "07470eed5c67dfd2a5d3edecae43f97870398ef3689f862415729682f8a8a45e"), looks := false }, kinds := [], alts := [], laidByText := true, laidKinds := [.data], laidTests := true, laidLooks := .later }
def FnSidesOfAllUptoCardSaid : Prop := Claim7.holds Tryd.pinned (.plain (OpenSpec.upto fnSidesOfAllSpec)) fnSidesOfAllUptoCard

/-- THE SECOND FORM's CARD OF 'laws.FnLandsAt'. -/
def fnLandsAtUptoCard : Claim7 := { stood := { row := fnLandsAtUptoRow, standIns := [], harness := (true, "07470eed5c67dfd2a5d3edecae43f97870398ef3689f862415729682f8a8a45e"), looks := false }, kinds := [], alts := [], laidByText := true, laidKinds := [.data, .data], laidTests := true, laidLooks := .later }
def FnLandsAtUptoCardSaid : Prop := Claim7.holds Tryd.pinned (.plain (OpenSpec.upto fnLandsAtSpec)) fnLandsAtUptoCard

/-- THE SECOND FORM's CARD OF 'laws.FnPondsAt'. -/
def fnPondsAtUptoCard : Claim7 := { stood := { row := fnPondsAtUptoRow, standIns := [], harness := (true, "07470eed5c67dfd2a5d3edecae43f97870398ef3689f862415729682f8a8a45e"), looks := false }, kinds := [], alts := [], laidByText := true, laidKinds := [.data, .data], laidTests := true, laidLooks := .later }
def FnPondsAtUptoCardSaid : Prop := Claim7.holds Tryd.pinned (.plain (OpenSpec.upto fnPondsAtSpec)) fnPondsAtUptoCard

/-- THE SECOND FORM's CARD OF 'laws.FnHolesAt'. -/
def fnHolesAtUptoCard : Claim7 := { stood := { row := fnHolesAtUptoRow, standIns := [], harness := (true, "07470eed5c67dfd2a5d3edecae43f97870398ef3689f862415729682f8a8a45e"), looks := false }, kinds := [], alts := [], laidByText := true, laidKinds := [.data, .data], laidTests := true, laidLooks := .later }
def FnHolesAtUptoCardSaid : Prop := Claim7.holds Tryd.pinned (.plain (OpenSpec.upto fnHolesAtSpec)) fnHolesAtUptoCard

/-- THE SECOND FORM's CARD OF 'laws.FnExactHolesAt'. -/
def fnExactHolesAtUptoCard : Claim7 := { stood := { row := fnExactHolesAtUptoRow, standIns := [], harness := (true, "07470eed5c67dfd2a5d3edecae43f97870398ef3689f862415729682f8a8a45e"), looks := false }, kinds := [], alts := [], laidByText := true, laidKinds := [.data, .data], laidTests := true, laidLooks := .later }
def FnExactHolesAtUptoCardSaid : Prop := Claim7.holds Tryd.pinned (.plain (OpenSpec.upto fnExactHolesAtSpec)) fnExactHolesAtUptoCard

/-- THE SECOND FORM's CARD OF 'laws.FnLandsArePeaks'. -/
def fnLandsArePeaksUptoCard : Claim7 := { stood := { row := fnLandsArePeaksUptoRow, standIns := [], harness := (true, "07470eed5c67dfd2a5d3edecae43f97870398ef3689f862415729682f8a8a45e"), looks := false }, kinds := [], alts := [], laidByText := true, laidKinds := [.data], laidTests := true, laidLooks := .later }
def FnLandsArePeaksUptoCardSaid : Prop := Claim7.holds Tryd.pinned (.plain (OpenSpec.upto fnLandsArePeaksSpec)) fnLandsArePeaksUptoCard
end Rows
end Go.Proofs.YtdfnhodhdfhhcaaDoor
