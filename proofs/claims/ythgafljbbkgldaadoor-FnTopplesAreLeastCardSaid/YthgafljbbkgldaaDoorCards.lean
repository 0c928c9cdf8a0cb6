/-
  DERIVED. GIVEN WITH THE SEED: THE CARDS: each row of YthgafljbbkgldaaDoorRows.lean that lists a variable, with what it lists TIED to the program's text (the seventh form; the later family's looks); each row that meets fmt, with fmt's text TOLD by the authors' own Lean function (tested against real Go, not proved from fmt's source: count such statements apart). THE CARD IS WHAT COUNTS. Prove the row's statement (the work); the ties are given (YthgafljbbkgldaaDoorTie.lean); close each card by the builder's one call (the guide's Derived/Test/ToyasCard.lean, 'card_holds'). Laid BY PROGRAM, IN A SANDBOX (cutbox-door.mjs). By AI agents, Wed Nov 11 2026. No macro, syntax, notation, axiom, sorry.
-/
import Derived.Test.YthgafljbbkgldaaDoorRows
import GoSem.ClaimSeven
namespace Go.Proofs.YthgafljbbkgldaaDoor
namespace Rows

/-- THE TIED CARD OF 'laws.FnCalmFirst'. -/
def fnCalmFirstCard : Claim7 := { stood := { row := fnCalmFirstRow, standIns := [], harness := (true, "97988c83557e886773cc472dd1b955ded060bd1ffee2c4637d90d53897f95964"), looks := true }, kinds := [], alts := [], laidByText := true, laidKinds := [.data], laidTests := true, laidLooks := .later }
def FnCalmFirstCardSaid : Prop := Claim7.holds Tryd.pinned (.plain (OpenSpec.ofChange fnCalmFirstSpec)) fnCalmFirstCard

/-- THE TIED CARD OF 'laws.FnCalmLast'. -/
def fnCalmLastCard : Claim7 := { stood := { row := fnCalmLastRow, standIns := [], harness := (true, "97988c83557e886773cc472dd1b955ded060bd1ffee2c4637d90d53897f95964"), looks := true }, kinds := [], alts := [], laidByText := true, laidKinds := [.data], laidTests := true, laidLooks := .later }
def FnCalmLastCardSaid : Prop := Claim7.holds Tryd.pinned (.plain (OpenSpec.ofChange fnCalmLastSpec)) fnCalmLastCard

/-- THE TIED CARD OF 'laws.FnTopplesOf'. -/
def fnTopplesOfCard : Claim7 := { stood := { row := fnTopplesOfRow, standIns := [], harness := (true, "97988c83557e886773cc472dd1b955ded060bd1ffee2c4637d90d53897f95964"), looks := true }, kinds := [], alts := [], laidByText := true, laidKinds := [.data], laidTests := true, laidLooks := .later }
def FnTopplesOfCardSaid : Prop := Claim7.holds Tryd.pinned (.plain (OpenSpec.ofChange fnTopplesOfSpec)) fnTopplesOfCard

/-- THE TIED CARD OF 'laws.FnAddSand'. -/
def fnAddSandCard : Claim7 := { stood := { row := fnAddSandRow, standIns := [], harness := (true, "97988c83557e886773cc472dd1b955ded060bd1ffee2c4637d90d53897f95964"), looks := true }, kinds := [], alts := [], laidByText := true, laidKinds := [.data], laidTests := true, laidLooks := .later }
def FnAddSandCardSaid : Prop := Claim7.holds Tryd.pinned (.plain (OpenSpec.ofChange fnAddSandSpec)) fnAddSandCard

/-- THE TIED CARD OF 'laws.FnBurns'. -/
def fnBurnsCard : Claim7 := { stood := { row := fnBurnsRow, standIns := [], harness := (true, "97988c83557e886773cc472dd1b955ded060bd1ffee2c4637d90d53897f95964"), looks := true }, kinds := [], alts := [], laidByText := true, laidKinds := [.data], laidTests := true, laidLooks := .later }
def FnBurnsCardSaid : Prop := Claim7.holds Tryd.pinned (.plain (OpenSpec.ofChange fnBurnsSpec)) fnBurnsCard

/-- THE TIED CARD OF 'laws.FnZeroSand'. -/
def fnZeroSandCard : Claim7 := { stood := { row := fnZeroSandRow, standIns := [], harness := (true, "97988c83557e886773cc472dd1b955ded060bd1ffee2c4637d90d53897f95964"), looks := true }, kinds := [], alts := [], laidByText := true, laidKinds := [.data], laidTests := true, laidLooks := .later }
def FnZeroSandCardSaid : Prop := Claim7.holds Tryd.pinned (.plain (OpenSpec.ofChange fnZeroSandSpec)) fnZeroSandCard

/-- THE TIED CARD OF 'laws.FnSandIsAGroup'. -/
def fnSandIsAGroupCard : Claim7 := { stood := { row := fnSandIsAGroupRow, standIns := [], harness := (true, "97988c83557e886773cc472dd1b955ded060bd1ffee2c4637d90d53897f95964"), looks := true }, kinds := [], alts := [], laidByText := true, laidKinds := [.data], laidTests := true, laidLooks := .later }
def FnSandIsAGroupCardSaid : Prop := Claim7.holds Tryd.pinned (.plain (OpenSpec.ofChange fnSandIsAGroupSpec)) fnSandIsAGroupCard

/-- THE TIED CARD OF 'laws.FnTopplesAreLeast'. -/
def fnTopplesAreLeastCard : Claim7 := { stood := { row := fnTopplesAreLeastRow, standIns := [], harness := (true, "97988c83557e886773cc472dd1b955ded060bd1ffee2c4637d90d53897f95964"), looks := true }, kinds := [], alts := [], laidByText := true, laidKinds := [.data], laidTests := true, laidLooks := .later }
def FnTopplesAreLeastCardSaid : Prop := Claim7.holds Tryd.pinned (.plain (OpenSpec.ofChange fnTopplesAreLeastSpec)) fnTopplesAreLeastCard

/-- THE TIED CARD OF 'laws.FnExactCalmFirst'. -/
def fnExactCalmFirstCard : Claim7 := { stood := { row := fnExactCalmFirstRow, standIns := [], harness := (true, "97988c83557e886773cc472dd1b955ded060bd1ffee2c4637d90d53897f95964"), looks := true }, kinds := [], alts := [], laidByText := true, laidKinds := [.data], laidTests := true, laidLooks := .later }
def FnExactCalmFirstCardSaid : Prop := Claim7.holds Tryd.pinned (.plain (OpenSpec.ofChange fnExactCalmFirstSpec)) fnExactCalmFirstCard

/-- THE TIED CARD OF 'laws.FnExactCalmLast'. -/
def fnExactCalmLastCard : Claim7 := { stood := { row := fnExactCalmLastRow, standIns := [], harness := (true, "97988c83557e886773cc472dd1b955ded060bd1ffee2c4637d90d53897f95964"), looks := true }, kinds := [], alts := [], laidByText := true, laidKinds := [.data], laidTests := true, laidLooks := .later }
def FnExactCalmLastCardSaid : Prop := Claim7.holds Tryd.pinned (.plain (OpenSpec.ofChange fnExactCalmLastSpec)) fnExactCalmLastCard

/-- THE TIED CARD OF 'laws.FnExactTopplesOf'. -/
def fnExactTopplesOfCard : Claim7 := { stood := { row := fnExactTopplesOfRow, standIns := [], harness := (true, "97988c83557e886773cc472dd1b955ded060bd1ffee2c4637d90d53897f95964"), looks := true }, kinds := [], alts := [], laidByText := true, laidKinds := [.data], laidTests := true, laidLooks := .later }
def FnExactTopplesOfCardSaid : Prop := Claim7.holds Tryd.pinned (.plain (OpenSpec.ofChange fnExactTopplesOfSpec)) fnExactTopplesOfCard

/-- THE TIED CARD OF 'laws.FnExactAddSand'. -/
def fnExactAddSandCard : Claim7 := { stood := { row := fnExactAddSandRow, standIns := [], harness := (true, "97988c83557e886773cc472dd1b955ded060bd1ffee2c4637d90d53897f95964"), looks := true }, kinds := [], alts := [], laidByText := true, laidKinds := [.data], laidTests := true, laidLooks := .later }
def FnExactAddSandCardSaid : Prop := Claim7.holds Tryd.pinned (.plain (OpenSpec.ofChange fnExactAddSandSpec)) fnExactAddSandCard

/-- THE TIED CARD OF 'laws.FnExactBurns'. -/
def fnExactBurnsCard : Claim7 := { stood := { row := fnExactBurnsRow, standIns := [], harness := (true, "97988c83557e886773cc472dd1b955ded060bd1ffee2c4637d90d53897f95964"), looks := true }, kinds := [], alts := [], laidByText := true, laidKinds := [.data], laidTests := true, laidLooks := .later }
def FnExactBurnsCardSaid : Prop := Claim7.holds Tryd.pinned (.plain (OpenSpec.ofChange fnExactBurnsSpec)) fnExactBurnsCard

/-- THE TIED CARD OF 'laws.FnExactZeroSand'. -/
def fnExactZeroSandCard : Claim7 := { stood := { row := fnExactZeroSandRow, standIns := [], harness := (true, "97988c83557e886773cc472dd1b955ded060bd1ffee2c4637d90d53897f95964"), looks := true }, kinds := [], alts := [], laidByText := true, laidKinds := [.data], laidTests := true, laidLooks := .later }
def FnExactZeroSandCardSaid : Prop := Claim7.holds Tryd.pinned (.plain (OpenSpec.ofChange fnExactZeroSandSpec)) fnExactZeroSandCard

/-- THE SECOND FORM's CARD OF 'laws.FnCalmFirst'. -/
def fnCalmFirstUptoCard : Claim7 := { stood := { row := fnCalmFirstUptoRow, standIns := [], harness := (true, "97988c83557e886773cc472dd1b955ded060bd1ffee2c4637d90d53897f95964"), looks := true }, kinds := [], alts := [], laidByText := true, laidKinds := [.data], laidTests := true, laidLooks := .later }
def FnCalmFirstUptoCardSaid : Prop := Claim7.holds Tryd.pinned (.plain (OpenSpec.upto fnCalmFirstSpec)) fnCalmFirstUptoCard

/-- THE SECOND FORM's CARD OF 'laws.FnCalmLast'. -/
def fnCalmLastUptoCard : Claim7 := { stood := { row := fnCalmLastUptoRow, standIns := [], harness := (true, "97988c83557e886773cc472dd1b955ded060bd1ffee2c4637d90d53897f95964"), looks := true }, kinds := [], alts := [], laidByText := true, laidKinds := [.data], laidTests := true, laidLooks := .later }
def FnCalmLastUptoCardSaid : Prop := Claim7.holds Tryd.pinned (.plain (OpenSpec.upto fnCalmLastSpec)) fnCalmLastUptoCard

/-- THE SECOND FORM's CARD OF 'laws.FnTopplesOf'. -/
def fnTopplesOfUptoCard : Claim7 := { stood := { row := fnTopplesOfUptoRow, standIns := [], harness := (true, "97988c83557e886773cc472dd1b955ded060bd1ffee2c4637d90d53897f95964"), looks := true }, kinds := [], alts := [], laidByText := true, laidKinds := [.data], laidTests := true, laidLooks := .later }
def FnTopplesOfUptoCardSaid : Prop := Claim7.holds Tryd.pinned (.plain (OpenSpec.upto fnTopplesOfSpec)) fnTopplesOfUptoCard

/-- THE SECOND FORM's CARD OF 'laws.FnAddSand'. -/
def fnAddSandUptoCard : Claim7 := { stood := { row := fnAddSandUptoRow, standIns := [], harness := (true, "97988c83557e886773cc472dd1b955ded060bd1ffee2c4637d90d53897f95964"), looks := true }, kinds := [], alts := [], laidByText := true, laidKinds := [.data], laidTests := true, laidLooks := .later }
def FnAddSandUptoCardSaid : Prop := Claim7.holds Tryd.pinned (.plain (OpenSpec.upto fnAddSandSpec)) fnAddSandUptoCard

/-- THE SECOND FORM's CARD OF 'laws.FnBurns'. -/
def fnBurnsUptoCard : Claim7 := { stood := { row := fnBurnsUptoRow, standIns := [], harness := (true, "97988c83557e886773cc472dd1b955ded060bd1ffee2c4637d90d53897f95964"), looks := true }, kinds := [], alts := [], laidByText := true, laidKinds := [.data], laidTests := true, laidLooks := .later }
def FnBurnsUptoCardSaid : Prop := Claim7.holds Tryd.pinned (.plain (OpenSpec.upto fnBurnsSpec)) fnBurnsUptoCard

/-- THE SECOND FORM's CARD OF 'laws.FnZeroSand'. -/
def fnZeroSandUptoCard : Claim7 := { stood := { row := fnZeroSandUptoRow, standIns := [], harness := (true, "97988c83557e886773cc472dd1b955ded060bd1ffee2c4637d90d53897f95964"), looks := true }, kinds := [], alts := [], laidByText := true, laidKinds := [.data], laidTests := true, laidLooks := .later }
def FnZeroSandUptoCardSaid : Prop := Claim7.holds Tryd.pinned (.plain (OpenSpec.upto fnZeroSandSpec)) fnZeroSandUptoCard

/-- THE SECOND FORM's CARD OF 'laws.FnSandIsAGroup'. -/
def fnSandIsAGroupUptoCard : Claim7 := { stood := { row := fnSandIsAGroupUptoRow, standIns := [], harness := (true, "97988c83557e886773cc472dd1b955ded060bd1ffee2c4637d90d53897f95964"), looks := true }, kinds := [], alts := [], laidByText := true, laidKinds := [.data], laidTests := true, laidLooks := .later }
def FnSandIsAGroupUptoCardSaid : Prop := Claim7.holds Tryd.pinned (.plain (OpenSpec.upto fnSandIsAGroupSpec)) fnSandIsAGroupUptoCard

/-- THE SECOND FORM's CARD OF 'laws.FnTopplesAreLeast'. -/
def fnTopplesAreLeastUptoCard : Claim7 := { stood := { row := fnTopplesAreLeastUptoRow, standIns := [], harness := (true, "97988c83557e886773cc472dd1b955ded060bd1ffee2c4637d90d53897f95964"), looks := true }, kinds := [], alts := [], laidByText := true, laidKinds := [.data], laidTests := true, laidLooks := .later }
def FnTopplesAreLeastUptoCardSaid : Prop := Claim7.holds Tryd.pinned (.plain (OpenSpec.upto fnTopplesAreLeastSpec)) fnTopplesAreLeastUptoCard

/-- THE SECOND FORM's CARD OF 'laws.FnExactCalmFirst'. -/
def fnExactCalmFirstUptoCard : Claim7 := { stood := { row := fnExactCalmFirstUptoRow, standIns := [], harness := (true, "97988c83557e886773cc472dd1b955ded060bd1ffee2c4637d90d53897f95964"), looks := true }, kinds := [], alts := [], laidByText := true, laidKinds := [.data], laidTests := true, laidLooks := .later }
def FnExactCalmFirstUptoCardSaid : Prop := Claim7.holds Tryd.pinned (.plain (OpenSpec.upto fnExactCalmFirstSpec)) fnExactCalmFirstUptoCard

/-- THE SECOND FORM's CARD OF 'laws.FnExactCalmLast'. -/
def fnExactCalmLastUptoCard : Claim7 := { stood := { row := fnExactCalmLastUptoRow, standIns := [], harness := (true, "97988c83557e886773cc472dd1b955ded060bd1ffee2c4637d90d53897f95964"), looks := true }, kinds := [], alts := [], laidByText := true, laidKinds := [.data], laidTests := true, laidLooks := .later }
def FnExactCalmLastUptoCardSaid : Prop := Claim7.holds Tryd.pinned (.plain (OpenSpec.upto fnExactCalmLastSpec)) fnExactCalmLastUptoCard

/-- THE SECOND FORM's CARD OF 'laws.FnExactTopplesOf'. -/
def fnExactTopplesOfUptoCard : Claim7 := { stood := { row := fnExactTopplesOfUptoRow, standIns := [], harness := (true, "97988c83557e886773cc472dd1b955ded060bd1ffee2c4637d90d53897f95964"), looks := true }, kinds := [], alts := [], laidByText := true, laidKinds := [.data], laidTests := true, laidLooks := .later }
def FnExactTopplesOfUptoCardSaid : Prop := Claim7.holds Tryd.pinned (.plain (OpenSpec.upto fnExactTopplesOfSpec)) fnExactTopplesOfUptoCard

/-- THE SECOND FORM's CARD OF 'laws.FnExactAddSand'. -/
def fnExactAddSandUptoCard : Claim7 := { stood := { row := fnExactAddSandUptoRow, standIns := [], harness := (true, "97988c83557e886773cc472dd1b955ded060bd1ffee2c4637d90d53897f95964"), looks := true }, kinds := [], alts := [], laidByText := true, laidKinds := [.data], laidTests := true, laidLooks := .later }
def FnExactAddSandUptoCardSaid : Prop := Claim7.holds Tryd.pinned (.plain (OpenSpec.upto fnExactAddSandSpec)) fnExactAddSandUptoCard

/-- THE SECOND FORM's CARD OF 'laws.FnExactBurns'. -/
def fnExactBurnsUptoCard : Claim7 := { stood := { row := fnExactBurnsUptoRow, standIns := [], harness := (true, "97988c83557e886773cc472dd1b955ded060bd1ffee2c4637d90d53897f95964"), looks := true }, kinds := [], alts := [], laidByText := true, laidKinds := [.data], laidTests := true, laidLooks := .later }
def FnExactBurnsUptoCardSaid : Prop := Claim7.holds Tryd.pinned (.plain (OpenSpec.upto fnExactBurnsSpec)) fnExactBurnsUptoCard

/-- THE SECOND FORM's CARD OF 'laws.FnExactZeroSand'. -/
def fnExactZeroSandUptoCard : Claim7 := { stood := { row := fnExactZeroSandUptoRow, standIns := [], harness := (true, "97988c83557e886773cc472dd1b955ded060bd1ffee2c4637d90d53897f95964"), looks := true }, kinds := [], alts := [], laidByText := true, laidKinds := [.data], laidTests := true, laidLooks := .later }
def FnExactZeroSandUptoCardSaid : Prop := Claim7.holds Tryd.pinned (.plain (OpenSpec.upto fnExactZeroSandSpec)) fnExactZeroSandUptoCard
end Rows
end Go.Proofs.YthgafljbbkgldaaDoor
