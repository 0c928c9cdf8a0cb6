/-
  DERIVED. GIVEN WITH THE SEED: THE CARDS: each row of YthlanmnjkonbjaaDoorRows.lean that lists a variable, with what it lists TIED to the program's text (the seventh form; the later family's looks); each row that meets fmt, with fmt's text TOLD by the authors' own Lean function (tested against real Go, not proved from fmt's source: count such statements apart). THE CARD IS WHAT COUNTS. Prove the row's statement (the work); the ties are given (YthlanmnjkonbjaaDoorTie.lean); close each card by the builder's one call (the guide's Derived/Test/ToyasCard.lean, 'card_holds'). Laid BY PROGRAM, IN A SANDBOX (cutbox-door.mjs). By AI agents, Wed Nov 11 2026. No macro, syntax, notation, axiom, sorry.
-/
import Derived.Test.YthlanmnjkonbjaaDoorRows
import GoSem.ClaimSeven
namespace Go.Proofs.YthlanmnjkonbjaaDoor
namespace Rows

/-- THE TIED CARD OF 'laws.FnFillByQueue'. -/
def fnFillByQueueCard : Claim7 := { stood := { row := fnFillByQueueRow, standIns := [], harness := (true, "c561177b91334dce7079f955b01d15dfef484a23cf1a1f7a25f56221cc4e7833"), looks := false }, kinds := [], alts := [], laidByText := true, laidKinds := [.data], laidTests := true, laidLooks := .later }
def FnFillByQueueCardSaid : Prop := Claim7.holds Tryd.pinned (.plain (OpenSpec.ofChange fnFillByQueueSpec)) fnFillByQueueCard

/-- THE TIED CARD OF 'laws.FnExactFillByQueue'. -/
def fnExactFillByQueueCard : Claim7 := { stood := { row := fnExactFillByQueueRow, standIns := [], harness := (true, "c561177b91334dce7079f955b01d15dfef484a23cf1a1f7a25f56221cc4e7833"), looks := false }, kinds := [], alts := [], laidByText := true, laidKinds := [.data], laidTests := true, laidLooks := .later }
def FnExactFillByQueueCardSaid : Prop := Claim7.holds Tryd.pinned (.plain (OpenSpec.ofChange fnExactFillByQueueSpec)) fnExactFillByQueueCard

/-- THE TIED CARD OF 'laws.FnSpillOf'. -/
def fnSpillOfCard : Claim7 := { stood := { row := fnSpillOfRow, standIns := [], harness := (true, "c561177b91334dce7079f955b01d15dfef484a23cf1a1f7a25f56221cc4e7833"), looks := false }, kinds := [], alts := [], laidByText := true, laidKinds := [.data], laidTests := true, laidLooks := .later }
def FnSpillOfCardSaid : Prop := Claim7.holds Tryd.pinned (.plain (OpenSpec.ofChange fnSpillOfSpec)) fnSpillOfCard

/-- THE TIED CARD OF 'laws.FnPassBetween'. -/
def fnPassBetweenCard : Claim7 := { stood := { row := fnPassBetweenRow, standIns := [], harness := (true, "c561177b91334dce7079f955b01d15dfef484a23cf1a1f7a25f56221cc4e7833"), looks := false }, kinds := [], alts := [], laidByText := true, laidKinds := [.data], laidTests := true, laidLooks := .later }
def FnPassBetweenCardSaid : Prop := Claim7.holds Tryd.pinned (.plain (OpenSpec.ofChange fnPassBetweenSpec)) fnPassBetweenCard

/-- THE TIED CARD OF 'laws.FnKeepsOf'. -/
def fnKeepsOfCard : Claim7 := { stood := { row := fnKeepsOfRow, standIns := [], harness := (true, "c561177b91334dce7079f955b01d15dfef484a23cf1a1f7a25f56221cc4e7833"), looks := false }, kinds := [], alts := [], laidByText := true, laidKinds := [.data], laidTests := true, laidLooks := .later }
def FnKeepsOfCardSaid : Prop := Claim7.holds Tryd.pinned (.plain (OpenSpec.ofChange fnKeepsOfSpec)) fnKeepsOfCard

/-- THE TIED CARD OF 'laws.FnStandsOf'. -/
def fnStandsOfCard : Claim7 := { stood := { row := fnStandsOfRow, standIns := [], harness := (true, "c561177b91334dce7079f955b01d15dfef484a23cf1a1f7a25f56221cc4e7833"), looks := false }, kinds := [], alts := [], laidByText := true, laidKinds := [.data], laidTests := true, laidLooks := .later }
def FnStandsOfCardSaid : Prop := Claim7.holds Tryd.pinned (.plain (OpenSpec.ofChange fnStandsOfSpec)) fnStandsOfCard

/-- THE TIED CARD OF 'laws.FnPassesOverPits'. -/
def fnPassesOverPitsCard : Claim7 := { stood := { row := fnPassesOverPitsRow, standIns := [], harness := (true, "c561177b91334dce7079f955b01d15dfef484a23cf1a1f7a25f56221cc4e7833"), looks := false }, kinds := [], alts := [], laidByText := true, laidKinds := [.data], laidTests := true, laidLooks := .later }
def FnPassesOverPitsCardSaid : Prop := Claim7.holds Tryd.pinned (.plain (OpenSpec.ofChange fnPassesOverPitsSpec)) fnPassesOverPitsCard

/-- THE TIED CARD OF 'laws.FnMergesOf'. -/
def fnMergesOfCard : Claim7 := { stood := { row := fnMergesOfRow, standIns := [], harness := (true, "c561177b91334dce7079f955b01d15dfef484a23cf1a1f7a25f56221cc4e7833"), looks := false }, kinds := [], alts := [], laidByText := true, laidKinds := [.data], laidTests := true, laidLooks := .later }
def FnMergesOfCardSaid : Prop := Claim7.holds Tryd.pinned (.plain (OpenSpec.ofChange fnMergesOfSpec)) fnMergesOfCard

/-- THE TIED CARD OF 'laws.FnExactPassBetween'. -/
def fnExactPassBetweenCard : Claim7 := { stood := { row := fnExactPassBetweenRow, standIns := [], harness := (true, "c561177b91334dce7079f955b01d15dfef484a23cf1a1f7a25f56221cc4e7833"), looks := false }, kinds := [], alts := [], laidByText := true, laidKinds := [.data], laidTests := true, laidLooks := .later }
def FnExactPassBetweenCardSaid : Prop := Claim7.holds Tryd.pinned (.plain (OpenSpec.ofChange fnExactPassBetweenSpec)) fnExactPassBetweenCard

/-- THE TIED CARD OF 'laws.FnExactKeepsOf'. -/
def fnExactKeepsOfCard : Claim7 := { stood := { row := fnExactKeepsOfRow, standIns := [], harness := (true, "c561177b91334dce7079f955b01d15dfef484a23cf1a1f7a25f56221cc4e7833"), looks := false }, kinds := [], alts := [], laidByText := true, laidKinds := [.data], laidTests := true, laidLooks := .later }
def FnExactKeepsOfCardSaid : Prop := Claim7.holds Tryd.pinned (.plain (OpenSpec.ofChange fnExactKeepsOfSpec)) fnExactKeepsOfCard

/-- THE TIED CARD OF 'laws.FnExactStandsOf'. -/
def fnExactStandsOfCard : Claim7 := { stood := { row := fnExactStandsOfRow, standIns := [], harness := (true, "c561177b91334dce7079f955b01d15dfef484a23cf1a1f7a25f56221cc4e7833"), looks := false }, kinds := [], alts := [], laidByText := true, laidKinds := [.data], laidTests := true, laidLooks := .later }
def FnExactStandsOfCardSaid : Prop := Claim7.holds Tryd.pinned (.plain (OpenSpec.ofChange fnExactStandsOfSpec)) fnExactStandsOfCard

/-- THE TIED CARD OF 'laws.FnExactMergesOf'. -/
def fnExactMergesOfCard : Claim7 := { stood := { row := fnExactMergesOfRow, standIns := [], harness := (true, "c561177b91334dce7079f955b01d15dfef484a23cf1a1f7a25f56221cc4e7833"), looks := false }, kinds := [], alts := [], laidByText := true, laidKinds := [.data], laidTests := true, laidLooks := .later }
def FnExactMergesOfCardSaid : Prop := Claim7.holds Tryd.pinned (.plain (OpenSpec.ofChange fnExactMergesOfSpec)) fnExactMergesOfCard

/-- THE SECOND FORM's CARD OF 'laws.FnFillByQueue'. -/
def fnFillByQueueUptoCard : Claim7 := { stood := { row := fnFillByQueueUptoRow, standIns := [], harness := (true, "c561177b91334dce7079f955b01d15dfef484a23cf1a1f7a25f56221cc4e7833"), looks := false }, kinds := [], alts := [], laidByText := true, laidKinds := [.data], laidTests := true, laidLooks := .later }
def FnFillByQueueUptoCardSaid : Prop := Claim7.holds Tryd.pinned (.plain (OpenSpec.upto fnFillByQueueSpec)) fnFillByQueueUptoCard

/-- THE SECOND FORM's CARD OF 'laws.FnExactFillByQueue'. -/
def fnExactFillByQueueUptoCard : Claim7 := { stood := { row := fnExactFillByQueueUptoRow, standIns := [], harness := (true, "c561177b91334dce7079f955b01d15dfef484a23cf1a1f7a25f56221cc4e7833"), looks := false }, kinds := [], alts := [], laidByText := true, laidKinds := [.data], laidTests := true, laidLooks := .later }
def FnExactFillByQueueUptoCardSaid : Prop := Claim7.holds Tryd.pinned (.plain (OpenSpec.upto fnExactFillByQueueSpec)) fnExactFillByQueueUptoCard

/-- THE SECOND FORM's CARD OF 'laws.FnSpillOf'. -/
def fnSpillOfUptoCard : Claim7 := { stood := { row := fnSpillOfUptoRow, standIns := [], harness := (true, "c561177b91334dce7079f955b01d15dfef484a23cf1a1f7a25f56221cc4e7833"), looks := false }, kinds := [], alts := [], laidByText := true, laidKinds := [.data], laidTests := true, laidLooks := .later }
def FnSpillOfUptoCardSaid : Prop := Claim7.holds Tryd.pinned (.plain (OpenSpec.upto fnSpillOfSpec)) fnSpillOfUptoCard

/-- THE SECOND FORM's CARD OF 'laws.FnPassBetween'. -/
def fnPassBetweenUptoCard : Claim7 := { stood := { row := fnPassBetweenUptoRow, standIns := [], harness := (true, "c561177b91334dce7079f955b01d15dfef484a23cf1a1f7a25f56221cc4e7833"), looks := false }, kinds := [], alts := [], laidByText := true, laidKinds := [.data], laidTests := true, laidLooks := .later }
def FnPassBetweenUptoCardSaid : Prop := Claim7.holds Tryd.pinned (.plain (OpenSpec.upto fnPassBetweenSpec)) fnPassBetweenUptoCard

/-- THE SECOND FORM's CARD OF 'laws.FnKeepsOf'. -/
def fnKeepsOfUptoCard : Claim7 := { stood := { row := fnKeepsOfUptoRow, standIns := [], harness := (true, "c561177b91334dce7079f955b01d15dfef484a23cf1a1f7a25f56221cc4e7833"), looks := false }, kinds := [], alts := [], laidByText := true, laidKinds := [.data], laidTests := true, laidLooks := .later }
def FnKeepsOfUptoCardSaid : Prop := Claim7.holds Tryd.pinned (.plain (OpenSpec.upto fnKeepsOfSpec)) fnKeepsOfUptoCard

/-- THE SECOND FORM's CARD OF 'laws.FnStandsOf'. -/
def fnStandsOfUptoCard : Claim7 := { stood := { row := fnStandsOfUptoRow, standIns := [], harness := (true, "c561177b91334dce7079f955b01d15dfef484a23cf1a1f7a25f56221cc4e7833"), looks := false }, kinds := [], alts := [], laidByText := true, laidKinds := [.data], laidTests := true, laidLooks := .later }
def FnStandsOfUptoCardSaid : Prop := Claim7.holds Tryd.pinned (.plain (OpenSpec.upto fnStandsOfSpec)) fnStandsOfUptoCard

/-- THE SECOND FORM's CARD OF 'laws.FnPassesOverPits'. -/
def fnPassesOverPitsUptoCard : Claim7 := { stood := { row := fnPassesOverPitsUptoRow, standIns := [], harness := (true, "c561177b91334dce7079f955b01d15dfef484a23cf1a1f7a25f56221cc4e7833"), looks := false }, kinds := [], alts := [], laidByText := true, laidKinds := [.data], laidTests := true, laidLooks := .later }
def FnPassesOverPitsUptoCardSaid : Prop := Claim7.holds Tryd.pinned (.plain (OpenSpec.upto fnPassesOverPitsSpec)) fnPassesOverPitsUptoCard

/-- THE SECOND FORM's CARD OF 'laws.FnMergesOf'. -/
def fnMergesOfUptoCard : Claim7 := { stood := { row := fnMergesOfUptoRow, standIns := [], harness := (true, "c561177b91334dce7079f955b01d15dfef484a23cf1a1f7a25f56221cc4e7833"), looks := false }, kinds := [], alts := [], laidByText := true, laidKinds := [.data], laidTests := true, laidLooks := .later }
def FnMergesOfUptoCardSaid : Prop := Claim7.holds Tryd.pinned (.plain (OpenSpec.upto fnMergesOfSpec)) fnMergesOfUptoCard

/-- THE SECOND FORM's CARD OF 'laws.FnExactPassBetween'. -/
def fnExactPassBetweenUptoCard : Claim7 := { stood := { row := fnExactPassBetweenUptoRow, standIns := [], harness := (true, "c561177b91334dce7079f955b01d15dfef484a23cf1a1f7a25f56221cc4e7833"), looks := false }, kinds := [], alts := [], laidByText := true, laidKinds := [.data], laidTests := true, laidLooks := .later }
def FnExactPassBetweenUptoCardSaid : Prop := Claim7.holds Tryd.pinned (.plain (OpenSpec.upto fnExactPassBetweenSpec)) fnExactPassBetweenUptoCard

/-- THE SECOND FORM's CARD OF 'laws.FnExactKeepsOf'. -/
def fnExactKeepsOfUptoCard : Claim7 := { stood := { row := fnExactKeepsOfUptoRow, standIns := [], harness := (true, "c561177b91334dce7079f955b01d15dfef484a23cf1a1f7a25f56221cc4e7833"), looks := false }, kinds := [], alts := [], laidByText := true, laidKinds := [.data], laidTests := true, laidLooks := .later }
def FnExactKeepsOfUptoCardSaid : Prop := Claim7.holds Tryd.pinned (.plain (OpenSpec.upto fnExactKeepsOfSpec)) fnExactKeepsOfUptoCard

/-- THE SECOND FORM's CARD OF 'laws.FnExactStandsOf'. -/
def fnExactStandsOfUptoCard : Claim7 := { stood := { row := fnExactStandsOfUptoRow, standIns := [], harness := (true, "c561177b91334dce7079f955b01d15dfef484a23cf1a1f7a25f56221cc4e7833"), looks := false }, kinds := [], alts := [], laidByText := true, laidKinds := [.data], laidTests := true, laidLooks := .later }
def FnExactStandsOfUptoCardSaid : Prop := Claim7.holds Tryd.pinned (.plain (OpenSpec.upto fnExactStandsOfSpec)) fnExactStandsOfUptoCard

/-- THE SECOND FORM's CARD OF 'laws.FnExactMergesOf'. -/
def fnExactMergesOfUptoCard : Claim7 := { stood := { row := fnExactMergesOfUptoRow, standIns := [], harness := (true, "c561177b91334dce7079f955b01d15dfef484a23cf1a1f7a25f56221cc4e7833"), looks := false }, kinds := [], alts := [], laidByText := true, laidKinds := [.data], laidTests := true, laidLooks := .later }
def FnExactMergesOfUptoCardSaid : Prop := Claim7.holds Tryd.pinned (.plain (OpenSpec.upto fnExactMergesOfSpec)) fnExactMergesOfUptoCard
end Rows
end Go.Proofs.YthlanmnjkonbjaaDoor
