/-
  DERIVED. GIVEN WITH THE SEED: THE CARDS: each row of YtkhgcfchaogccaaDoorRows.lean that lists a variable, with what it lists TIED to the program's text (the seventh form; the later family's looks); each row that meets fmt, with fmt's text TOLD by the authors' own Lean function (tested against real Go, not proved from fmt's source: count such statements apart). THE CARD IS WHAT COUNTS. Prove the row's statement (the work); the ties are given (YtkhgcfchaogccaaDoorTie.lean); close each card by the builder's one call (the guide's Derived/Test/ToyasCard.lean, 'card_holds'). Laid BY PROGRAM, IN A SANDBOX (cutbox-door.mjs). By AI agents, Wed Nov 11 2026. No macro, syntax, notation, axiom, sorry.
-/
import Derived.Test.YtkhgcfchaogccaaDoorRows
import GoSem.ClaimSeven
namespace Go.Proofs.YtkhgcfchaogccaaDoor
namespace Rows

/-- THE TIED CARD OF 'laws.FnPondAt'. -/
def fnPondAtCard : Claim7 := { stood := { row := fnPondAtRow, standIns := [], harness := (true, "afa6d1dd0d9dcd1fe0121128fe6dc118f1c0fbcf72ca377b338b27bb16c50330"), looks := false }, kinds := [], alts := [], laidByText := true, laidKinds := [.data], laidTests := true, laidLooks := .later }
def FnPondAtCardSaid : Prop := Claim7.holds Tryd.pinned (.plain (OpenSpec.ofChange fnPondAtSpec)) fnPondAtCard

/-- THE TIED CARD OF 'laws.FnLevelFor'. -/
def fnLevelForCard : Claim7 := { stood := { row := fnLevelForRow, standIns := [], harness := (true, "afa6d1dd0d9dcd1fe0121128fe6dc118f1c0fbcf72ca377b338b27bb16c50330"), looks := false }, kinds := [], alts := [], laidByText := true, laidKinds := [.data], laidTests := true, laidLooks := .later }
def FnLevelForCardSaid : Prop := Claim7.holds Tryd.pinned (.plain (OpenSpec.ofChange fnLevelForSpec)) fnLevelForCard

/-- THE TIED CARD OF 'laws.FnLevelsFillPonds'. -/
def fnLevelsFillPondsCard : Claim7 := { stood := { row := fnLevelsFillPondsRow, standIns := [], harness := (true, "afa6d1dd0d9dcd1fe0121128fe6dc118f1c0fbcf72ca377b338b27bb16c50330"), looks := false }, kinds := [], alts := [], laidByText := true, laidKinds := [.data], laidTests := true, laidLooks := .later }
def FnLevelsFillPondsCardSaid : Prop := Claim7.holds Tryd.pinned (.plain (OpenSpec.ofChange fnLevelsFillPondsSpec)) fnLevelsFillPondsCard

/-- THE TIED CARD OF 'laws.FnExactPondAt'. -/
def fnExactPondAtCard : Claim7 := { stood := { row := fnExactPondAtRow, standIns := [], harness := (true, "afa6d1dd0d9dcd1fe0121128fe6dc118f1c0fbcf72ca377b338b27bb16c50330"), looks := false }, kinds := [], alts := [], laidByText := true, laidKinds := [.data], laidTests := true, laidLooks := .later }
def FnExactPondAtCardSaid : Prop := Claim7.holds Tryd.pinned (.plain (OpenSpec.ofChange fnExactPondAtSpec)) fnExactPondAtCard

/-- THE TIED CARD OF 'laws.FnExactLevelFor'. -/
def fnExactLevelForCard : Claim7 := { stood := { row := fnExactLevelForRow, standIns := [], harness := (true, "afa6d1dd0d9dcd1fe0121128fe6dc118f1c0fbcf72ca377b338b27bb16c50330"), looks := false }, kinds := [], alts := [], laidByText := true, laidKinds := [.data], laidTests := true, laidLooks := .later }
def FnExactLevelForCardSaid : Prop := Claim7.holds Tryd.pinned (.plain (OpenSpec.ofChange fnExactLevelForSpec)) fnExactLevelForCard

/-- THE TIED CARD OF 'laws.FnPassBetween'. -/
def fnPassBetweenCard : Claim7 := { stood := { row := fnPassBetweenRow, standIns := [], harness := (true, "afa6d1dd0d9dcd1fe0121128fe6dc118f1c0fbcf72ca377b338b27bb16c50330"), looks := false }, kinds := [], alts := [], laidByText := true, laidKinds := [.data], laidTests := true, laidLooks := .later }
def FnPassBetweenCardSaid : Prop := Claim7.holds Tryd.pinned (.plain (OpenSpec.ofChange fnPassBetweenSpec)) fnPassBetweenCard

/-- THE TIED CARD OF 'laws.FnExactPassBetween'. -/
def fnExactPassBetweenCard : Claim7 := { stood := { row := fnExactPassBetweenRow, standIns := [], harness := (true, "afa6d1dd0d9dcd1fe0121128fe6dc118f1c0fbcf72ca377b338b27bb16c50330"), looks := false }, kinds := [], alts := [], laidByText := true, laidKinds := [.data], laidTests := true, laidLooks := .later }
def FnExactPassBetweenCardSaid : Prop := Claim7.holds Tryd.pinned (.plain (OpenSpec.ofChange fnExactPassBetweenSpec)) fnExactPassBetweenCard

/-- THE SECOND FORM's CARD OF 'laws.FnPondAt'. -/
def fnPondAtUptoCard : Claim7 := { stood := { row := fnPondAtUptoRow, standIns := [], harness := (true, "afa6d1dd0d9dcd1fe0121128fe6dc118f1c0fbcf72ca377b338b27bb16c50330"), looks := false }, kinds := [], alts := [], laidByText := true, laidKinds := [.data], laidTests := true, laidLooks := .later }
def FnPondAtUptoCardSaid : Prop := Claim7.holds Tryd.pinned (.plain (OpenSpec.upto fnPondAtSpec)) fnPondAtUptoCard

/-- THE SECOND FORM's CARD OF 'laws.FnLevelFor'. -/
def fnLevelForUptoCard : Claim7 := { stood := { row := fnLevelForUptoRow, standIns := [], harness := (true, "afa6d1dd0d9dcd1fe0121128fe6dc118f1c0fbcf72ca377b338b27bb16c50330"), looks := false }, kinds := [], alts := [], laidByText := true, laidKinds := [.data], laidTests := true, laidLooks := .later }
def FnLevelForUptoCardSaid : Prop := Claim7.holds Tryd.pinned (.plain (OpenSpec.upto fnLevelForSpec)) fnLevelForUptoCard

/-- THE SECOND FORM's CARD OF 'laws.FnLevelsFillPonds'. -/
def fnLevelsFillPondsUptoCard : Claim7 := { stood := { row := fnLevelsFillPondsUptoRow, standIns := [], harness := (true, "afa6d1dd0d9dcd1fe0121128fe6dc118f1c0fbcf72ca377b338b27bb16c50330"), looks := false }, kinds := [], alts := [], laidByText := true, laidKinds := [.data], laidTests := true, laidLooks := .later }
def FnLevelsFillPondsUptoCardSaid : Prop := Claim7.holds Tryd.pinned (.plain (OpenSpec.upto fnLevelsFillPondsSpec)) fnLevelsFillPondsUptoCard

/-- THE SECOND FORM's CARD OF 'laws.FnExactPondAt'. -/
def fnExactPondAtUptoCard : Claim7 := { stood := { row := fnExactPondAtUptoRow, standIns := [], harness := (true, "afa6d1dd0d9dcd1fe0121128fe6dc118f1c0fbcf72ca377b338b27bb16c50330"), looks := false }, kinds := [], alts := [], laidByText := true, laidKinds := [.data], laidTests := true, laidLooks := .later }
def FnExactPondAtUptoCardSaid : Prop := Claim7.holds Tryd.pinned (.plain (OpenSpec.upto fnExactPondAtSpec)) fnExactPondAtUptoCard

/-- THE SECOND FORM's CARD OF 'laws.FnExactLevelFor'. -/
def fnExactLevelForUptoCard : Claim7 := { stood := { row := fnExactLevelForUptoRow, standIns := [], harness := (true, "afa6d1dd0d9dcd1fe0121128fe6dc118f1c0fbcf72ca377b338b27bb16c50330"), looks := false }, kinds := [], alts := [], laidByText := true, laidKinds := [.data], laidTests := true, laidLooks := .later }
def FnExactLevelForUptoCardSaid : Prop := Claim7.holds Tryd.pinned (.plain (OpenSpec.upto fnExactLevelForSpec)) fnExactLevelForUptoCard

/-- THE SECOND FORM's CARD OF 'laws.FnPassBetween'. -/
def fnPassBetweenUptoCard : Claim7 := { stood := { row := fnPassBetweenUptoRow, standIns := [], harness := (true, "afa6d1dd0d9dcd1fe0121128fe6dc118f1c0fbcf72ca377b338b27bb16c50330"), looks := false }, kinds := [], alts := [], laidByText := true, laidKinds := [.data], laidTests := true, laidLooks := .later }
def FnPassBetweenUptoCardSaid : Prop := Claim7.holds Tryd.pinned (.plain (OpenSpec.upto fnPassBetweenSpec)) fnPassBetweenUptoCard

/-- THE SECOND FORM's CARD OF 'laws.FnExactPassBetween'. -/
def fnExactPassBetweenUptoCard : Claim7 := { stood := { row := fnExactPassBetweenUptoRow, standIns := [], harness := (true, "afa6d1dd0d9dcd1fe0121128fe6dc118f1c0fbcf72ca377b338b27bb16c50330"), looks := false }, kinds := [], alts := [], laidByText := true, laidKinds := [.data], laidTests := true, laidLooks := .later }
def FnExactPassBetweenUptoCardSaid : Prop := Claim7.holds Tryd.pinned (.plain (OpenSpec.upto fnExactPassBetweenSpec)) fnExactPassBetweenUptoCard
end Rows
end Go.Proofs.YtkhgcfchaogccaaDoor
