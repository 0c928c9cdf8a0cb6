/-
  DERIVED. GIVEN WITH THE SEED: THE CARDS: each row of YtihbccknajhcbaaDoorRows.lean that lists a variable, with what it lists TIED to the program's text (the seventh form; the later family's looks); each row that meets fmt, with fmt's text TOLD by the authors' own Lean function (tested against real Go, not proved from fmt's source: count such statements apart). THE CARD IS WHAT COUNTS. Prove the row's statement (the work); the ties are given (YtihbccknajhcbaaDoorTie.lean); close each card by the builder's one call (the guide's Derived/Test/ToyasCard.lean, 'card_holds'). Laid BY PROGRAM, IN A SANDBOX (cutbox-door.mjs). By AI agents, Wed Nov 11 2026. No macro, syntax, notation, axiom, sorry.
-/
import Derived.Test.YtihbccknajhcbaaDoorRows
import GoSem.ClaimSeven
namespace Go.Proofs.YtihbccknajhcbaaDoor
namespace Rows

/-- THE TIED CARD OF 'laws.FnWayOf'. -/
def fnWayOfCard : Claim7 := { stood := { row := fnWayOfRow, standIns := [], harness := (true, "fd3232db29b82696ef4503985b7a4c1c7736cf7d706825fe8b1e08d43bb3d460"), looks := false }, kinds := [], alts := [], laidByText := true, laidKinds := [.data], laidTests := true, laidLooks := .later }
def FnWayOfCardSaid : Prop := Claim7.holds Tryd.pinned (.plain (OpenSpec.ofChange fnWayOfSpec)) fnWayOfCard

/-- THE TIED CARD OF 'laws.FnWaysBack'. -/
def fnWaysBackCard : Claim7 := { stood := { row := fnWaysBackRow, standIns := [], harness := (true, "fd3232db29b82696ef4503985b7a4c1c7736cf7d706825fe8b1e08d43bb3d460"), looks := false }, kinds := [], alts := [], laidByText := true, laidKinds := [.data], laidTests := true, laidLooks := .later }
def FnWaysBackCardSaid : Prop := Claim7.holds Tryd.pinned (.plain (OpenSpec.ofChange fnWaysBackSpec)) fnWaysBackCard

/-- THE SECOND FORM's CARD OF 'laws.FnWayOf'. -/
def fnWayOfUptoCard : Claim7 := { stood := { row := fnWayOfUptoRow, standIns := [], harness := (true, "fd3232db29b82696ef4503985b7a4c1c7736cf7d706825fe8b1e08d43bb3d460"), looks := false }, kinds := [], alts := [], laidByText := true, laidKinds := [.data], laidTests := true, laidLooks := .later }
def FnWayOfUptoCardSaid : Prop := Claim7.holds Tryd.pinned (.plain (OpenSpec.upto fnWayOfSpec)) fnWayOfUptoCard

/-- THE SECOND FORM's CARD OF 'laws.FnWaysBack'. -/
def fnWaysBackUptoCard : Claim7 := { stood := { row := fnWaysBackUptoRow, standIns := [], harness := (true, "fd3232db29b82696ef4503985b7a4c1c7736cf7d706825fe8b1e08d43bb3d460"), looks := false }, kinds := [], alts := [], laidByText := true, laidKinds := [.data], laidTests := true, laidLooks := .later }
def FnWaysBackUptoCardSaid : Prop := Claim7.holds Tryd.pinned (.plain (OpenSpec.upto fnWaysBackSpec)) fnWaysBackUptoCard
end Rows
end Go.Proofs.YtihbccknajhcbaaDoor
