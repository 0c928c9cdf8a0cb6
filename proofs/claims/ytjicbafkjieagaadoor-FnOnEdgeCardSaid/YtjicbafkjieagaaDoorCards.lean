/-
  DERIVED. GIVEN WITH THE SEED: THE CARDS: each row of YtjicbafkjieagaaDoorRows.lean that lists a variable, with what it lists TIED to the program's text (the seventh form; the later family's looks); each row that meets fmt, with fmt's text TOLD by the authors' own Lean function (tested against real Go, not proved from fmt's source: count such statements apart). THE CARD IS WHAT COUNTS. Prove the row's statement (the work); the ties are given (YtjicbafkjieagaaDoorTie.lean); close each card by the builder's one call (the guide's Derived/Test/ToyasCard.lean, 'card_holds'). Laid BY PROGRAM, IN A SANDBOX (cutbox-door.mjs). By AI agents, Wed Nov 11 2026. No macro, syntax, notation, axiom, sorry.
-/
import Derived.Test.YtjicbafkjieagaaDoorRows
import GoSem.ClaimSeven
namespace Go.Proofs.YtjicbafkjieagaaDoor
namespace Rows

/-- THE TIED CARD OF 'laws.FnAroundOf'. -/
def fnAroundOfCard : Claim7 := { stood := { row := fnAroundOfRow, standIns := [], harness := (true, "d0d57e2a47fbf3396894727ad1bc7c6e33c3acf2f4cec09cfa9cd6addfac52f2"), looks := false }, kinds := [], alts := [], laidByText := true, laidKinds := [.data], laidTests := true, laidLooks := .later }
def FnAroundOfCardSaid : Prop := Claim7.holds Tryd.pinned (.plain (OpenSpec.ofChange fnAroundOfSpec)) fnAroundOfCard

/-- THE TIED CARD OF 'laws.FnOnEdge'. -/
def fnOnEdgeCard : Claim7 := { stood := { row := fnOnEdgeRow, standIns := [], harness := (true, "d0d57e2a47fbf3396894727ad1bc7c6e33c3acf2f4cec09cfa9cd6addfac52f2"), looks := false }, kinds := [], alts := [], laidByText := true, laidKinds := [.data], laidTests := true, laidLooks := .later }
def FnOnEdgeCardSaid : Prop := Claim7.holds Tryd.pinned (.plain (OpenSpec.ofChange fnOnEdgeSpec)) fnOnEdgeCard

/-- THE TIED CARD OF 'laws.FnFlatsOf'. -/
def fnFlatsOfCard : Claim7 := { stood := { row := fnFlatsOfRow, standIns := [], harness := (true, "d0d57e2a47fbf3396894727ad1bc7c6e33c3acf2f4cec09cfa9cd6addfac52f2"), looks := false }, kinds := [], alts := [], laidByText := true, laidKinds := [.data], laidTests := true, laidLooks := .later }
def FnFlatsOfCardSaid : Prop := Claim7.holds Tryd.pinned (.plain (OpenSpec.ofChange fnFlatsOfSpec)) fnFlatsOfCard

/-- THE TIED CARD OF 'laws.FnPeaksOf'. -/
def fnPeaksOfCard : Claim7 := { stood := { row := fnPeaksOfRow, standIns := [], harness := (true, "d0d57e2a47fbf3396894727ad1bc7c6e33c3acf2f4cec09cfa9cd6addfac52f2"), looks := false }, kinds := [], alts := [], laidByText := true, laidKinds := [.data], laidTests := true, laidLooks := .later }
def FnPeaksOfCardSaid : Prop := Claim7.holds Tryd.pinned (.plain (OpenSpec.ofChange fnPeaksOfSpec)) fnPeaksOfCard

/-- THE TIED CARD OF 'laws.FnPitsOf'. -/
def fnPitsOfCard : Claim7 := { stood := { row := fnPitsOfRow, standIns := [], harness := (true, "d0d57e2a47fbf3396894727ad1bc7c6e33c3acf2f4cec09cfa9cd6addfac52f2"), looks := false }, kinds := [], alts := [], laidByText := true, laidKinds := [.data], laidTests := true, laidLooks := .later }
def FnPitsOfCardSaid : Prop := Claim7.holds Tryd.pinned (.plain (OpenSpec.ofChange fnPitsOfSpec)) fnPitsOfCard

/-- THE TIED CARD OF 'laws.FnExactAroundOf'. -/
def fnExactAroundOfCard : Claim7 := { stood := { row := fnExactAroundOfRow, standIns := [], harness := (true, "d0d57e2a47fbf3396894727ad1bc7c6e33c3acf2f4cec09cfa9cd6addfac52f2"), looks := false }, kinds := [], alts := [], laidByText := true, laidKinds := [.data], laidTests := true, laidLooks := .later }
def FnExactAroundOfCardSaid : Prop := Claim7.holds Tryd.pinned (.plain (OpenSpec.ofChange fnExactAroundOfSpec)) fnExactAroundOfCard

/-- THE TIED CARD OF 'laws.FnExactOnEdge'. -/
def fnExactOnEdgeCard : Claim7 := { stood := { row := fnExactOnEdgeRow, standIns := [], harness := (true, "d0d57e2a47fbf3396894727ad1bc7c6e33c3acf2f4cec09cfa9cd6addfac52f2"), looks := false }, kinds := [], alts := [], laidByText := true, laidKinds := [.data], laidTests := true, laidLooks := .later }
def FnExactOnEdgeCardSaid : Prop := Claim7.holds Tryd.pinned (.plain (OpenSpec.ofChange fnExactOnEdgeSpec)) fnExactOnEdgeCard

/-- THE TIED CARD OF 'laws.FnExactFlatsOf'. -/
def fnExactFlatsOfCard : Claim7 := { stood := { row := fnExactFlatsOfRow, standIns := [], harness := (true, "d0d57e2a47fbf3396894727ad1bc7c6e33c3acf2f4cec09cfa9cd6addfac52f2"), looks := false }, kinds := [], alts := [], laidByText := true, laidKinds := [.data], laidTests := true, laidLooks := .later }
def FnExactFlatsOfCardSaid : Prop := Claim7.holds Tryd.pinned (.plain (OpenSpec.ofChange fnExactFlatsOfSpec)) fnExactFlatsOfCard

/-- THE TIED CARD OF 'laws.FnExactPeaksOf'. -/
def fnExactPeaksOfCard : Claim7 := { stood := { row := fnExactPeaksOfRow, standIns := [], harness := (true, "d0d57e2a47fbf3396894727ad1bc7c6e33c3acf2f4cec09cfa9cd6addfac52f2"), looks := false }, kinds := [], alts := [], laidByText := true, laidKinds := [.data], laidTests := true, laidLooks := .later }
def FnExactPeaksOfCardSaid : Prop := Claim7.holds Tryd.pinned (.plain (OpenSpec.ofChange fnExactPeaksOfSpec)) fnExactPeaksOfCard

/-- THE TIED CARD OF 'laws.FnExactPitsOf'. -/
def fnExactPitsOfCard : Claim7 := { stood := { row := fnExactPitsOfRow, standIns := [], harness := (true, "d0d57e2a47fbf3396894727ad1bc7c6e33c3acf2f4cec09cfa9cd6addfac52f2"), looks := false }, kinds := [], alts := [], laidByText := true, laidKinds := [.data], laidTests := true, laidLooks := .later }
def FnExactPitsOfCardSaid : Prop := Claim7.holds Tryd.pinned (.plain (OpenSpec.ofChange fnExactPitsOfSpec)) fnExactPitsOfCard

/-- THE SECOND FORM's CARD OF 'laws.FnAroundOf'. -/
def fnAroundOfUptoCard : Claim7 := { stood := { row := fnAroundOfUptoRow, standIns := [], harness := (true, "d0d57e2a47fbf3396894727ad1bc7c6e33c3acf2f4cec09cfa9cd6addfac52f2"), looks := false }, kinds := [], alts := [], laidByText := true, laidKinds := [.data], laidTests := true, laidLooks := .later }
def FnAroundOfUptoCardSaid : Prop := Claim7.holds Tryd.pinned (.plain (OpenSpec.upto fnAroundOfSpec)) fnAroundOfUptoCard

/-- THE SECOND FORM's CARD OF 'laws.FnOnEdge'. -/
def fnOnEdgeUptoCard : Claim7 := { stood := { row := fnOnEdgeUptoRow, standIns := [], harness := (true, "d0d57e2a47fbf3396894727ad1bc7c6e33c3acf2f4cec09cfa9cd6addfac52f2"), looks := false }, kinds := [], alts := [], laidByText := true, laidKinds := [.data], laidTests := true, laidLooks := .later }
def FnOnEdgeUptoCardSaid : Prop := Claim7.holds Tryd.pinned (.plain (OpenSpec.upto fnOnEdgeSpec)) fnOnEdgeUptoCard

/-- THE SECOND FORM's CARD OF 'laws.FnFlatsOf'. -/
def fnFlatsOfUptoCard : Claim7 := { stood := { row := fnFlatsOfUptoRow, standIns := [], harness := (true, "d0d57e2a47fbf3396894727ad1bc7c6e33c3acf2f4cec09cfa9cd6addfac52f2"), looks := false }, kinds := [], alts := [], laidByText := true, laidKinds := [.data], laidTests := true, laidLooks := .later }
def FnFlatsOfUptoCardSaid : Prop := Claim7.holds Tryd.pinned (.plain (OpenSpec.upto fnFlatsOfSpec)) fnFlatsOfUptoCard

/-- THE SECOND FORM's CARD OF 'laws.FnPeaksOf'. -/
def fnPeaksOfUptoCard : Claim7 := { stood := { row := fnPeaksOfUptoRow, standIns := [], harness := (true, "d0d57e2a47fbf3396894727ad1bc7c6e33c3acf2f4cec09cfa9cd6addfac52f2"), looks := false }, kinds := [], alts := [], laidByText := true, laidKinds := [.data], laidTests := true, laidLooks := .later }
def FnPeaksOfUptoCardSaid : Prop := Claim7.holds Tryd.pinned (.plain (OpenSpec.upto fnPeaksOfSpec)) fnPeaksOfUptoCard

/-- THE SECOND FORM's CARD OF 'laws.FnPitsOf'. -/
def fnPitsOfUptoCard : Claim7 := { stood := { row := fnPitsOfUptoRow, standIns := [], harness := (true, "d0d57e2a47fbf3396894727ad1bc7c6e33c3acf2f4cec09cfa9cd6addfac52f2"), looks := false }, kinds := [], alts := [], laidByText := true, laidKinds := [.data], laidTests := true, laidLooks := .later }
def FnPitsOfUptoCardSaid : Prop := Claim7.holds Tryd.pinned (.plain (OpenSpec.upto fnPitsOfSpec)) fnPitsOfUptoCard

/-- THE SECOND FORM's CARD OF 'laws.FnExactAroundOf'. -/
def fnExactAroundOfUptoCard : Claim7 := { stood := { row := fnExactAroundOfUptoRow, standIns := [], harness := (true, "d0d57e2a47fbf3396894727ad1bc7c6e33c3acf2f4cec09cfa9cd6addfac52f2"), looks := false }, kinds := [], alts := [], laidByText := true, laidKinds := [.data], laidTests := true, laidLooks := .later }
def FnExactAroundOfUptoCardSaid : Prop := Claim7.holds Tryd.pinned (.plain (OpenSpec.upto fnExactAroundOfSpec)) fnExactAroundOfUptoCard

/-- THE SECOND FORM's CARD OF 'laws.FnExactOnEdge'. -/
def fnExactOnEdgeUptoCard : Claim7 := { stood := { row := fnExactOnEdgeUptoRow, standIns := [], harness := (true, "d0d57e2a47fbf3396894727ad1bc7c6e33c3acf2f4cec09cfa9cd6addfac52f2"), looks := false }, kinds := [], alts := [], laidByText := true, laidKinds := [.data], laidTests := true, laidLooks := .later }
def FnExactOnEdgeUptoCardSaid : Prop := Claim7.holds Tryd.pinned (.plain (OpenSpec.upto fnExactOnEdgeSpec)) fnExactOnEdgeUptoCard

/-- THE SECOND FORM's CARD OF 'laws.FnExactFlatsOf'. -/
def fnExactFlatsOfUptoCard : Claim7 := { stood := { row := fnExactFlatsOfUptoRow, standIns := [], harness := (true, "d0d57e2a47fbf3396894727ad1bc7c6e33c3acf2f4cec09cfa9cd6addfac52f2"), looks := false }, kinds := [], alts := [], laidByText := true, laidKinds := [.data], laidTests := true, laidLooks := .later }
def FnExactFlatsOfUptoCardSaid : Prop := Claim7.holds Tryd.pinned (.plain (OpenSpec.upto fnExactFlatsOfSpec)) fnExactFlatsOfUptoCard

/-- THE SECOND FORM's CARD OF 'laws.FnExactPeaksOf'. -/
def fnExactPeaksOfUptoCard : Claim7 := { stood := { row := fnExactPeaksOfUptoRow, standIns := [], harness := (true, "d0d57e2a47fbf3396894727ad1bc7c6e33c3acf2f4cec09cfa9cd6addfac52f2"), looks := false }, kinds := [], alts := [], laidByText := true, laidKinds := [.data], laidTests := true, laidLooks := .later }
def FnExactPeaksOfUptoCardSaid : Prop := Claim7.holds Tryd.pinned (.plain (OpenSpec.upto fnExactPeaksOfSpec)) fnExactPeaksOfUptoCard

/-- THE SECOND FORM's CARD OF 'laws.FnExactPitsOf'. -/
def fnExactPitsOfUptoCard : Claim7 := { stood := { row := fnExactPitsOfUptoRow, standIns := [], harness := (true, "d0d57e2a47fbf3396894727ad1bc7c6e33c3acf2f4cec09cfa9cd6addfac52f2"), looks := false }, kinds := [], alts := [], laidByText := true, laidKinds := [.data], laidTests := true, laidLooks := .later }
def FnExactPitsOfUptoCardSaid : Prop := Claim7.holds Tryd.pinned (.plain (OpenSpec.upto fnExactPitsOfSpec)) fnExactPitsOfUptoCard
end Rows
end Go.Proofs.YtjicbafkjieagaaDoor
