/-
  No cell of these rows narrows 'for every input' (looked for: loops, veiled, ifaces, maps, wideKeys, modest, calm, conditions, laid).
  DERIVED. THE GIVEN ROWS OF THIS SEAT. 9 by the template 'for every input the law returns true; each argument reads behind the call as it read before'; 0 by the template 'total and deterministic' (their statements: YtenmokccbpkinaaTotals.lean).
  GIVEN WITH THE SEED: the statements are not yours to turn. If you find one false, say at which input.
  Laid BY PROGRAM, IN A SANDBOX (cutbox-rows.mjs): the forced cells as the released guide's own fill.sh prints them over the translation 97c410dc20d09c4c… (all of the seat's roots in one cut). By AI agents, Wed Nov 11 2026. No macro, syntax, notation, axiom, sorry.
-/
import Derived.Test.YtenmokccbpkinaaChecked
import GoSem.Claim
import GoSem.ClaimJoined
import GoSem.ClaimMapViews
import Derived.JoinedTies
import Derived.KernelRfl
namespace Go.Proofs.Ytenmokccbpkinaa
/- THE CELL 'sum', in the pinned program and in every row, IS THE sha256 OF THE DUMP (.gsa) THAT YtenmokccbpkinaaProg.lean LOADS. Nothing in Lean hashes anything: it is a label: what it is worth is what the hold of that sum in a sandbox is worth. -/
noncomputable def Try.pinned : Pinned := { name := "ytenmokccbpkinaa", sum := "97c410dc20d09c4ccd6afec52a5ba09817f54d73c433457e36c30d60444267e3", checked := Try.checked }
namespace Rows
def none {H : Type} : Left H := { results := [], args := [] }

/-- 'laws.FnEarthCost': WHATEVER THE INPUT: true; the input reads as it did. -/
def fnEarthCostSpec : ChangeSpec := { name := "fnEarthCost", fn := fun _ => fun
  | [d] => { results := [.lit (.bool true)], args := [d] }
  | _ => none }
def fnEarthCostRow : OpenClaim := { program := "ytenmokccbpkinaa", sum := "97c410dc20d09c4ccd6afec52a5ba09817f54d73c433457e36c30d60444267e3", func := "loop.example/wateronheights/laws.FnEarthCost", spec := "fnEarthCost", unfollowed := true, recurses := true, apart := false }
def FnEarthCostSaid : Prop := fnEarthCostRow.holds Try.pinned (OpenSpec.ofChange fnEarthCostSpec)

/-- ITS FALSE NEIGHBOUR: 'it returns false'. Refute it at one input. -/
def fnEarthCostWrong : ChangeSpec := { name := "fnEarthCost", fn := fun _ => fun
  | [d] => { results := [.lit (.bool false)], args := [d] }
  | _ => none }
def FnEarthCostWrongFalsely : Prop := fnEarthCostRow.holds Try.pinned (OpenSpec.ofChange fnEarthCostWrong)

/-- 'laws.FnEarthMoves': WHATEVER THE INPUT: true; the input reads as it did. -/
def fnEarthMovesSpec : ChangeSpec := { name := "fnEarthMoves", fn := fun _ => fun
  | [d] => { results := [.lit (.bool true)], args := [d] }
  | _ => none }
def fnEarthMovesRow : OpenClaim := { program := "ytenmokccbpkinaa", sum := "97c410dc20d09c4ccd6afec52a5ba09817f54d73c433457e36c30d60444267e3", func := "loop.example/wateronheights/laws.FnEarthMoves", spec := "fnEarthMoves", unfollowed := true, recurses := true, apart := false }
def FnEarthMovesSaid : Prop := fnEarthMovesRow.holds Try.pinned (OpenSpec.ofChange fnEarthMovesSpec)

/-- ITS FALSE NEIGHBOUR: 'it returns false'. Refute it at one input. -/
def fnEarthMovesWrong : ChangeSpec := { name := "fnEarthMoves", fn := fun _ => fun
  | [d] => { results := [.lit (.bool false)], args := [d] }
  | _ => none }
def FnEarthMovesWrongFalsely : Prop := fnEarthMovesRow.holds Try.pinned (OpenSpec.ofChange fnEarthMovesWrong)

/-- 'laws.FnRiseCost': WHATEVER THE INPUT: true; the input reads as it did. -/
def fnRiseCostSpec : ChangeSpec := { name := "fnRiseCost", fn := fun _ => fun
  | [d] => { results := [.lit (.bool true)], args := [d] }
  | _ => none }
def fnRiseCostRow : OpenClaim := { program := "ytenmokccbpkinaa", sum := "97c410dc20d09c4ccd6afec52a5ba09817f54d73c433457e36c30d60444267e3", func := "loop.example/wateronheights/laws.FnRiseCost", spec := "fnRiseCost", unfollowed := true, recurses := true, apart := false }
def FnRiseCostSaid : Prop := fnRiseCostRow.holds Try.pinned (OpenSpec.ofChange fnRiseCostSpec)

/-- ITS FALSE NEIGHBOUR: 'it returns false'. Refute it at one input. -/
def fnRiseCostWrong : ChangeSpec := { name := "fnRiseCost", fn := fun _ => fun
  | [d] => { results := [.lit (.bool false)], args := [d] }
  | _ => none }
def FnRiseCostWrongFalsely : Prop := fnRiseCostRow.holds Try.pinned (OpenSpec.ofChange fnRiseCostWrong)

/-- 'laws.FnTerraceCost': WHATEVER THE INPUT: true; the input reads as it did. -/
def fnTerraceCostSpec : ChangeSpec := { name := "fnTerraceCost", fn := fun _ => fun
  | [d] => { results := [.lit (.bool true)], args := [d] }
  | _ => none }
def fnTerraceCostRow : OpenClaim := { program := "ytenmokccbpkinaa", sum := "97c410dc20d09c4ccd6afec52a5ba09817f54d73c433457e36c30d60444267e3", func := "loop.example/wateronheights/laws.FnTerraceCost", spec := "fnTerraceCost", unfollowed := true, recurses := true, apart := false }
def FnTerraceCostSaid : Prop := fnTerraceCostRow.holds Try.pinned (OpenSpec.ofChange fnTerraceCostSpec)

/-- ITS FALSE NEIGHBOUR: 'it returns false'. Refute it at one input. -/
def fnTerraceCostWrong : ChangeSpec := { name := "fnTerraceCost", fn := fun _ => fun
  | [d] => { results := [.lit (.bool false)], args := [d] }
  | _ => none }
def FnTerraceCostWrongFalsely : Prop := fnTerraceCostRow.holds Try.pinned (OpenSpec.ofChange fnTerraceCostWrong)

/-- 'laws.FnTerracesRise': WHATEVER THE INPUT: true; the input reads as it did. -/
def fnTerracesRiseSpec : ChangeSpec := { name := "fnTerracesRise", fn := fun _ => fun
  | [d] => { results := [.lit (.bool true)], args := [d] }
  | _ => none }
def fnTerracesRiseRow : OpenClaim := { program := "ytenmokccbpkinaa", sum := "97c410dc20d09c4ccd6afec52a5ba09817f54d73c433457e36c30d60444267e3", func := "loop.example/wateronheights/laws.FnTerracesRise", spec := "fnTerracesRise", unfollowed := true, recurses := true, apart := false }
def FnTerracesRiseSaid : Prop := fnTerracesRiseRow.holds Try.pinned (OpenSpec.ofChange fnTerracesRiseSpec)

/-- ITS FALSE NEIGHBOUR: 'it returns false'. Refute it at one input. -/
def fnTerracesRiseWrong : ChangeSpec := { name := "fnTerracesRise", fn := fun _ => fun
  | [d] => { results := [.lit (.bool false)], args := [d] }
  | _ => none }
def FnTerracesRiseWrongFalsely : Prop := fnTerracesRiseRow.holds Try.pinned (OpenSpec.ofChange fnTerracesRiseWrong)

/-- 'laws.FnExactEarthCost': WHATEVER THE INPUT: true; the input reads as it did. -/
def fnExactEarthCostSpec : ChangeSpec := { name := "fnExactEarthCost", fn := fun _ => fun
  | [d1, d2] => { results := [.lit (.bool true)], args := [d1, d2] }
  | _ => none }
def fnExactEarthCostRow : OpenClaim := { program := "ytenmokccbpkinaa", sum := "97c410dc20d09c4ccd6afec52a5ba09817f54d73c433457e36c30d60444267e3", func := "loop.example/wateronheights/laws.FnExactEarthCost", spec := "fnExactEarthCost", unfollowed := true, recurses := true, apart := false }
def FnExactEarthCostSaid : Prop := fnExactEarthCostRow.holds Try.pinned (OpenSpec.ofChange fnExactEarthCostSpec)

/-- ITS FALSE NEIGHBOUR: 'it returns false'. Refute it at one input. -/
def fnExactEarthCostWrong : ChangeSpec := { name := "fnExactEarthCost", fn := fun _ => fun
  | [d1, d2] => { results := [.lit (.bool false)], args := [d1, d2] }
  | _ => none }
def FnExactEarthCostWrongFalsely : Prop := fnExactEarthCostRow.holds Try.pinned (OpenSpec.ofChange fnExactEarthCostWrong)

/-- 'laws.FnExactEarthMoves': WHATEVER THE INPUT: true; the input reads as it did. -/
def fnExactEarthMovesSpec : ChangeSpec := { name := "fnExactEarthMoves", fn := fun _ => fun
  | [d1, d2] => { results := [.lit (.bool true)], args := [d1, d2] }
  | _ => none }
def fnExactEarthMovesRow : OpenClaim := { program := "ytenmokccbpkinaa", sum := "97c410dc20d09c4ccd6afec52a5ba09817f54d73c433457e36c30d60444267e3", func := "loop.example/wateronheights/laws.FnExactEarthMoves", spec := "fnExactEarthMoves", unfollowed := true, recurses := true, apart := false }
def FnExactEarthMovesSaid : Prop := fnExactEarthMovesRow.holds Try.pinned (OpenSpec.ofChange fnExactEarthMovesSpec)

/-- ITS FALSE NEIGHBOUR: 'it returns false'. Refute it at one input. -/
def fnExactEarthMovesWrong : ChangeSpec := { name := "fnExactEarthMoves", fn := fun _ => fun
  | [d1, d2] => { results := [.lit (.bool false)], args := [d1, d2] }
  | _ => none }
def FnExactEarthMovesWrongFalsely : Prop := fnExactEarthMovesRow.holds Try.pinned (OpenSpec.ofChange fnExactEarthMovesWrong)

/-- 'laws.FnExactRiseCost': WHATEVER THE INPUT: true; the input reads as it did. -/
def fnExactRiseCostSpec : ChangeSpec := { name := "fnExactRiseCost", fn := fun _ => fun
  | [d] => { results := [.lit (.bool true)], args := [d] }
  | _ => none }
def fnExactRiseCostRow : OpenClaim := { program := "ytenmokccbpkinaa", sum := "97c410dc20d09c4ccd6afec52a5ba09817f54d73c433457e36c30d60444267e3", func := "loop.example/wateronheights/laws.FnExactRiseCost", spec := "fnExactRiseCost", apart := false }
def FnExactRiseCostSaid : Prop := fnExactRiseCostRow.holds Try.pinned (OpenSpec.ofChange fnExactRiseCostSpec)

/-- ITS FALSE NEIGHBOUR: 'it returns false'. Refute it at one input. -/
def fnExactRiseCostWrong : ChangeSpec := { name := "fnExactRiseCost", fn := fun _ => fun
  | [d] => { results := [.lit (.bool false)], args := [d] }
  | _ => none }
def FnExactRiseCostWrongFalsely : Prop := fnExactRiseCostRow.holds Try.pinned (OpenSpec.ofChange fnExactRiseCostWrong)

/-- 'laws.FnExactTerraceCost': WHATEVER THE INPUT: true; the input reads as it did. -/
def fnExactTerraceCostSpec : ChangeSpec := { name := "fnExactTerraceCost", fn := fun _ => fun
  | [d1, d2] => { results := [.lit (.bool true)], args := [d1, d2] }
  | _ => none }
def fnExactTerraceCostRow : OpenClaim := { program := "ytenmokccbpkinaa", sum := "97c410dc20d09c4ccd6afec52a5ba09817f54d73c433457e36c30d60444267e3", func := "loop.example/wateronheights/laws.FnExactTerraceCost", spec := "fnExactTerraceCost", unfollowed := true, recurses := true, apart := false }
def FnExactTerraceCostSaid : Prop := fnExactTerraceCostRow.holds Try.pinned (OpenSpec.ofChange fnExactTerraceCostSpec)

/-- ITS FALSE NEIGHBOUR: 'it returns false'. Refute it at one input. -/
def fnExactTerraceCostWrong : ChangeSpec := { name := "fnExactTerraceCost", fn := fun _ => fun
  | [d1, d2] => { results := [.lit (.bool false)], args := [d1, d2] }
  | _ => none }
def FnExactTerraceCostWrongFalsely : Prop := fnExactTerraceCostRow.holds Try.pinned (OpenSpec.ofChange fnExactTerraceCostWrong)

/- THE SECOND FORM. 'bulk': how many values and letters a reading holds, each counted each time it is reached (what is shared counts as often as it is met; a slice's spare places count too). A statement '..UptoSaid' is the law's where the arguments, and the package variables that the reading takes, are together of bulk at most 1048576: NARROWER than '..Said'. Prove '..Said' where nothing that the law and all that it calls make is longer than what came in: it says more and counts as full. Else prove '..UptoSaid'. A law counts once. -/
mutual
def uptoBulk {H : Type} : DataW H → Nat
  | .lit (.string bytes) => bytes.length + 1
  | .lit _ => 1
  | .nil => 1
  | .ptr d => uptoBulk d + 1
  | .slice elems spare => uptoBulkAll elems + uptoBulkAll spare + 1
  | .agg parts => uptoBulkAll parts + 1
  | .iface _ d => uptoBulk d + 1
  | .map entries => uptoBulkEntries entries + 1
  | .held _ => 1
def uptoBulkAll {H : Type} : List (DataW H) → Nat
  | [] => 0
  | d :: r => uptoBulk d + uptoBulkAll r
def uptoBulkEntries {H : Type} : List (Lit × DataW H) → Nat
  | [] => 0
  | x :: r => uptoBulkEntry x + uptoBulkEntries r
def uptoBulkEntry {H : Type} : Lit × DataW H → Nat
  | (.string bytes, d) => bytes.length + uptoBulk d + 1
  | (_, d) => uptoBulk d + 1
 end
def uptoSmall : (H : Type) → List (DataW H) → Bool := fun _ ds => decide (uptoBulkAll ds ≤ 1048576)
def OpenSpec.upto (s : _root_.Go.ChangeSpec) : _root_.Go.OpenSpec := { _root_.Go.OpenSpec.ofChange s with cond := some uptoSmall }

/-- 'laws.FnEarthCost', WHERE WHAT IT READS IS OF BULK AT MOST 1048576: true; the input reads as it did. -/
def fnEarthCostUptoRow : OpenClaim := { program := "ytenmokccbpkinaa", sum := "97c410dc20d09c4ccd6afec52a5ba09817f54d73c433457e36c30d60444267e3", func := "loop.example/wateronheights/laws.FnEarthCost", spec := "fnEarthCost", unfollowed := true, recurses := true, apart := false, narrowed := true }
def FnEarthCostUptoSaid : Prop := fnEarthCostUptoRow.holds Try.pinned (OpenSpec.upto fnEarthCostSpec)

/-- 'laws.FnEarthMoves', WHERE WHAT IT READS IS OF BULK AT MOST 1048576: true; the input reads as it did. -/
def fnEarthMovesUptoRow : OpenClaim := { program := "ytenmokccbpkinaa", sum := "97c410dc20d09c4ccd6afec52a5ba09817f54d73c433457e36c30d60444267e3", func := "loop.example/wateronheights/laws.FnEarthMoves", spec := "fnEarthMoves", unfollowed := true, recurses := true, apart := false, narrowed := true }
def FnEarthMovesUptoSaid : Prop := fnEarthMovesUptoRow.holds Try.pinned (OpenSpec.upto fnEarthMovesSpec)

/-- 'laws.FnRiseCost', WHERE WHAT IT READS IS OF BULK AT MOST 1048576: true; the input reads as it did. -/
def fnRiseCostUptoRow : OpenClaim := { program := "ytenmokccbpkinaa", sum := "97c410dc20d09c4ccd6afec52a5ba09817f54d73c433457e36c30d60444267e3", func := "loop.example/wateronheights/laws.FnRiseCost", spec := "fnRiseCost", unfollowed := true, recurses := true, apart := false, narrowed := true }
def FnRiseCostUptoSaid : Prop := fnRiseCostUptoRow.holds Try.pinned (OpenSpec.upto fnRiseCostSpec)

/-- 'laws.FnTerraceCost', WHERE WHAT IT READS IS OF BULK AT MOST 1048576: true; the input reads as it did. -/
def fnTerraceCostUptoRow : OpenClaim := { program := "ytenmokccbpkinaa", sum := "97c410dc20d09c4ccd6afec52a5ba09817f54d73c433457e36c30d60444267e3", func := "loop.example/wateronheights/laws.FnTerraceCost", spec := "fnTerraceCost", unfollowed := true, recurses := true, apart := false, narrowed := true }
def FnTerraceCostUptoSaid : Prop := fnTerraceCostUptoRow.holds Try.pinned (OpenSpec.upto fnTerraceCostSpec)

/-- 'laws.FnTerracesRise', WHERE WHAT IT READS IS OF BULK AT MOST 1048576: true; the input reads as it did. -/
def fnTerracesRiseUptoRow : OpenClaim := { program := "ytenmokccbpkinaa", sum := "97c410dc20d09c4ccd6afec52a5ba09817f54d73c433457e36c30d60444267e3", func := "loop.example/wateronheights/laws.FnTerracesRise", spec := "fnTerracesRise", unfollowed := true, recurses := true, apart := false, narrowed := true }
def FnTerracesRiseUptoSaid : Prop := fnTerracesRiseUptoRow.holds Try.pinned (OpenSpec.upto fnTerracesRiseSpec)

/-- 'laws.FnExactEarthCost', WHERE WHAT IT READS IS OF BULK AT MOST 1048576: true; the input reads as it did. -/
def fnExactEarthCostUptoRow : OpenClaim := { program := "ytenmokccbpkinaa", sum := "97c410dc20d09c4ccd6afec52a5ba09817f54d73c433457e36c30d60444267e3", func := "loop.example/wateronheights/laws.FnExactEarthCost", spec := "fnExactEarthCost", unfollowed := true, recurses := true, apart := false, narrowed := true }
def FnExactEarthCostUptoSaid : Prop := fnExactEarthCostUptoRow.holds Try.pinned (OpenSpec.upto fnExactEarthCostSpec)

/-- 'laws.FnExactEarthMoves', WHERE WHAT IT READS IS OF BULK AT MOST 1048576: true; the input reads as it did. -/
def fnExactEarthMovesUptoRow : OpenClaim := { program := "ytenmokccbpkinaa", sum := "97c410dc20d09c4ccd6afec52a5ba09817f54d73c433457e36c30d60444267e3", func := "loop.example/wateronheights/laws.FnExactEarthMoves", spec := "fnExactEarthMoves", unfollowed := true, recurses := true, apart := false, narrowed := true }
def FnExactEarthMovesUptoSaid : Prop := fnExactEarthMovesUptoRow.holds Try.pinned (OpenSpec.upto fnExactEarthMovesSpec)

/-- 'laws.FnExactRiseCost', WHERE WHAT IT READS IS OF BULK AT MOST 1048576: true; the input reads as it did. -/
def fnExactRiseCostUptoRow : OpenClaim := { program := "ytenmokccbpkinaa", sum := "97c410dc20d09c4ccd6afec52a5ba09817f54d73c433457e36c30d60444267e3", func := "loop.example/wateronheights/laws.FnExactRiseCost", spec := "fnExactRiseCost", apart := false, narrowed := true }
def FnExactRiseCostUptoSaid : Prop := fnExactRiseCostUptoRow.holds Try.pinned (OpenSpec.upto fnExactRiseCostSpec)

/-- 'laws.FnExactTerraceCost', WHERE WHAT IT READS IS OF BULK AT MOST 1048576: true; the input reads as it did. -/
def fnExactTerraceCostUptoRow : OpenClaim := { program := "ytenmokccbpkinaa", sum := "97c410dc20d09c4ccd6afec52a5ba09817f54d73c433457e36c30d60444267e3", func := "loop.example/wateronheights/laws.FnExactTerraceCost", spec := "fnExactTerraceCost", unfollowed := true, recurses := true, apart := false, narrowed := true }
def FnExactTerraceCostUptoSaid : Prop := fnExactTerraceCostUptoRow.holds Try.pinned (OpenSpec.upto fnExactTerraceCostSpec)

end Rows
end Go.Proofs.Ytenmokccbpkinaa
