/-
  No cell of these rows narrows 'for every input' (looked for: loops, veiled, ifaces, maps, wideKeys, modest, calm, conditions, laid).
  DERIVED. THE GIVEN ROWS OF THIS SEAT. 14 by the template 'for every input the law returns true; each argument reads behind the call as it read before'; 0 by the template 'total and deterministic' (their statements: YtlifjhhjkcmneaaTotals.lean).
  GIVEN WITH THE SEED: the statements are not yours to turn. If you find one false, say at which input.
  Laid BY PROGRAM, IN A SANDBOX (cutbox-rows.mjs): the forced cells as the released guide's own fill.sh prints them over the translation 9943cfd666a27e0a… (all of the seat's roots in one cut). By AI agents, Wed Nov 11 2026. No macro, syntax, notation, axiom, sorry.
-/
import Derived.Test.YtlifjhhjkcmneaaChecked
import GoSem.Claim
import GoSem.ClaimJoined
import GoSem.ClaimMapViews
import Derived.JoinedTies
import Derived.KernelRfl
namespace Go.Proofs.Ytlifjhhjkcmneaa
/- THE CELL 'sum', in the pinned program and in every row, IS THE sha256 OF THE DUMP (.gsa) THAT YtlifjhhjkcmneaaProg.lean LOADS. Nothing in Lean hashes anything: it is a label: what it is worth is what the hold of that sum in a sandbox is worth. -/
noncomputable def Try.pinned : Pinned := { name := "ytlifjhhjkcmneaa", sum := "9943cfd666a27e0a77a50091bb3ed3c7fe25c7ddc293f9641335fa7280f5d11d", checked := Try.checked }
namespace Rows
def none {H : Type} : Left H := { results := [], args := [] }

/-- 'laws.FnSmoothUp': WHATEVER THE INPUT: true; the input reads as it did. -/
def fnSmoothUpSpec : ChangeSpec := { name := "fnSmoothUp", fn := fun _ => fun
  | [d] => { results := [.lit (.bool true)], args := [d] }
  | _ => none }
def fnSmoothUpRow : OpenClaim := { program := "ytlifjhhjkcmneaa", sum := "9943cfd666a27e0a77a50091bb3ed3c7fe25c7ddc293f9641335fa7280f5d11d", func := "loop.example/wateronheights/laws.FnSmoothUp", spec := "fnSmoothUp", unfollowed := true, recurses := true, apart := false }
def FnSmoothUpSaid : Prop := fnSmoothUpRow.holds Try.pinned (OpenSpec.ofChange fnSmoothUpSpec)

/-- ITS FALSE NEIGHBOUR: 'it returns false'. Refute it at one input. -/
def fnSmoothUpWrong : ChangeSpec := { name := "fnSmoothUp", fn := fun _ => fun
  | [d] => { results := [.lit (.bool false)], args := [d] }
  | _ => none }
def FnSmoothUpWrongFalsely : Prop := fnSmoothUpRow.holds Try.pinned (OpenSpec.ofChange fnSmoothUpWrong)

/-- 'laws.FnSmoothByMeans': WHATEVER THE INPUT: true; the input reads as it did. -/
def fnSmoothByMeansSpec : ChangeSpec := { name := "fnSmoothByMeans", fn := fun _ => fun
  | [d] => { results := [.lit (.bool true)], args := [d] }
  | _ => none }
def fnSmoothByMeansRow : OpenClaim := { program := "ytlifjhhjkcmneaa", sum := "9943cfd666a27e0a77a50091bb3ed3c7fe25c7ddc293f9641335fa7280f5d11d", func := "loop.example/wateronheights/laws.FnSmoothByMeans", spec := "fnSmoothByMeans", unfollowed := true, recurses := true, apart := false }
def FnSmoothByMeansSaid : Prop := fnSmoothByMeansRow.holds Try.pinned (OpenSpec.ofChange fnSmoothByMeansSpec)

/-- ITS FALSE NEIGHBOUR: 'it returns false'. Refute it at one input. -/
def fnSmoothByMeansWrong : ChangeSpec := { name := "fnSmoothByMeans", fn := fun _ => fun
  | [d] => { results := [.lit (.bool false)], args := [d] }
  | _ => none }
def FnSmoothByMeansWrongFalsely : Prop := fnSmoothByMeansRow.holds Try.pinned (OpenSpec.ofChange fnSmoothByMeansWrong)

/-- 'laws.FnTerraceCost': WHATEVER THE INPUT: true; the input reads as it did. -/
def fnTerraceCostSpec : ChangeSpec := { name := "fnTerraceCost", fn := fun _ => fun
  | [d] => { results := [.lit (.bool true)], args := [d] }
  | _ => none }
def fnTerraceCostRow : OpenClaim := { program := "ytlifjhhjkcmneaa", sum := "9943cfd666a27e0a77a50091bb3ed3c7fe25c7ddc293f9641335fa7280f5d11d", func := "loop.example/wateronheights/laws.FnTerraceCost", spec := "fnTerraceCost", unfollowed := true, recurses := true, apart := false }
def FnTerraceCostSaid : Prop := fnTerraceCostRow.holds Try.pinned (OpenSpec.ofChange fnTerraceCostSpec)

/-- ITS FALSE NEIGHBOUR: 'it returns false'. Refute it at one input. -/
def fnTerraceCostWrong : ChangeSpec := { name := "fnTerraceCost", fn := fun _ => fun
  | [d] => { results := [.lit (.bool false)], args := [d] }
  | _ => none }
def FnTerraceCostWrongFalsely : Prop := fnTerraceCostRow.holds Try.pinned (OpenSpec.ofChange fnTerraceCostWrong)

/-- 'laws.FnRiseCost': WHATEVER THE INPUT: true; the input reads as it did. -/
def fnRiseCostSpec : ChangeSpec := { name := "fnRiseCost", fn := fun _ => fun
  | [d] => { results := [.lit (.bool true)], args := [d] }
  | _ => none }
def fnRiseCostRow : OpenClaim := { program := "ytlifjhhjkcmneaa", sum := "9943cfd666a27e0a77a50091bb3ed3c7fe25c7ddc293f9641335fa7280f5d11d", func := "loop.example/wateronheights/laws.FnRiseCost", spec := "fnRiseCost", unfollowed := true, recurses := true, apart := false }
def FnRiseCostSaid : Prop := fnRiseCostRow.holds Try.pinned (OpenSpec.ofChange fnRiseCostSpec)

/-- ITS FALSE NEIGHBOUR: 'it returns false'. Refute it at one input. -/
def fnRiseCostWrong : ChangeSpec := { name := "fnRiseCost", fn := fun _ => fun
  | [d] => { results := [.lit (.bool false)], args := [d] }
  | _ => none }
def FnRiseCostWrongFalsely : Prop := fnRiseCostRow.holds Try.pinned (OpenSpec.ofChange fnRiseCostWrong)

/-- 'laws.FnEarthCost': WHATEVER THE INPUT: true; the input reads as it did. -/
def fnEarthCostSpec : ChangeSpec := { name := "fnEarthCost", fn := fun _ => fun
  | [d] => { results := [.lit (.bool true)], args := [d] }
  | _ => none }
def fnEarthCostRow : OpenClaim := { program := "ytlifjhhjkcmneaa", sum := "9943cfd666a27e0a77a50091bb3ed3c7fe25c7ddc293f9641335fa7280f5d11d", func := "loop.example/wateronheights/laws.FnEarthCost", spec := "fnEarthCost", unfollowed := true, recurses := true, apart := false }
def FnEarthCostSaid : Prop := fnEarthCostRow.holds Try.pinned (OpenSpec.ofChange fnEarthCostSpec)

/-- ITS FALSE NEIGHBOUR: 'it returns false'. Refute it at one input. -/
def fnEarthCostWrong : ChangeSpec := { name := "fnEarthCost", fn := fun _ => fun
  | [d] => { results := [.lit (.bool false)], args := [d] }
  | _ => none }
def FnEarthCostWrongFalsely : Prop := fnEarthCostRow.holds Try.pinned (OpenSpec.ofChange fnEarthCostWrong)

/-- 'laws.FnEarthMoves': WHATEVER THE INPUT: true; the input reads as it did. -/
def fnEarthMovesSpec : ChangeSpec := { name := "fnEarthMoves", fn := fun _ => fun
  | [d] => { results := [.lit (.bool true)], args := [d] }
  | _ => none }
def fnEarthMovesRow : OpenClaim := { program := "ytlifjhhjkcmneaa", sum := "9943cfd666a27e0a77a50091bb3ed3c7fe25c7ddc293f9641335fa7280f5d11d", func := "loop.example/wateronheights/laws.FnEarthMoves", spec := "fnEarthMoves", unfollowed := true, recurses := true, apart := false }
def FnEarthMovesSaid : Prop := fnEarthMovesRow.holds Try.pinned (OpenSpec.ofChange fnEarthMovesSpec)

/-- ITS FALSE NEIGHBOUR: 'it returns false'. Refute it at one input. -/
def fnEarthMovesWrong : ChangeSpec := { name := "fnEarthMoves", fn := fun _ => fun
  | [d] => { results := [.lit (.bool false)], args := [d] }
  | _ => none }
def FnEarthMovesWrongFalsely : Prop := fnEarthMovesRow.holds Try.pinned (OpenSpec.ofChange fnEarthMovesWrong)

/-- 'laws.FnSmoothKeepsRising': WHATEVER THE INPUT: true; the input reads as it did. -/
def fnSmoothKeepsRisingSpec : ChangeSpec := { name := "fnSmoothKeepsRising", fn := fun _ => fun
  | [d] => { results := [.lit (.bool true)], args := [d] }
  | _ => none }
def fnSmoothKeepsRisingRow : OpenClaim := { program := "ytlifjhhjkcmneaa", sum := "9943cfd666a27e0a77a50091bb3ed3c7fe25c7ddc293f9641335fa7280f5d11d", func := "loop.example/wateronheights/laws.FnSmoothKeepsRising", spec := "fnSmoothKeepsRising", unfollowed := true, recurses := true, apart := false }
def FnSmoothKeepsRisingSaid : Prop := fnSmoothKeepsRisingRow.holds Try.pinned (OpenSpec.ofChange fnSmoothKeepsRisingSpec)

/-- ITS FALSE NEIGHBOUR: 'it returns false'. Refute it at one input. -/
def fnSmoothKeepsRisingWrong : ChangeSpec := { name := "fnSmoothKeepsRising", fn := fun _ => fun
  | [d] => { results := [.lit (.bool false)], args := [d] }
  | _ => none }
def FnSmoothKeepsRisingWrongFalsely : Prop := fnSmoothKeepsRisingRow.holds Try.pinned (OpenSpec.ofChange fnSmoothKeepsRisingWrong)

/-- 'laws.FnTerracesRise': WHATEVER THE INPUT: true; the input reads as it did. -/
def fnTerracesRiseSpec : ChangeSpec := { name := "fnTerracesRise", fn := fun _ => fun
  | [d] => { results := [.lit (.bool true)], args := [d] }
  | _ => none }
def fnTerracesRiseRow : OpenClaim := { program := "ytlifjhhjkcmneaa", sum := "9943cfd666a27e0a77a50091bb3ed3c7fe25c7ddc293f9641335fa7280f5d11d", func := "loop.example/wateronheights/laws.FnTerracesRise", spec := "fnTerracesRise", unfollowed := true, recurses := true, apart := false }
def FnTerracesRiseSaid : Prop := fnTerracesRiseRow.holds Try.pinned (OpenSpec.ofChange fnTerracesRiseSpec)

/-- ITS FALSE NEIGHBOUR: 'it returns false'. Refute it at one input. -/
def fnTerracesRiseWrong : ChangeSpec := { name := "fnTerracesRise", fn := fun _ => fun
  | [d] => { results := [.lit (.bool false)], args := [d] }
  | _ => none }
def FnTerracesRiseWrongFalsely : Prop := fnTerracesRiseRow.holds Try.pinned (OpenSpec.ofChange fnTerracesRiseWrong)

/-- 'laws.FnExactSmoothUp': WHATEVER THE INPUT: true; the input reads as it did. -/
def fnExactSmoothUpSpec : ChangeSpec := { name := "fnExactSmoothUp", fn := fun _ => fun
  | [d] => { results := [.lit (.bool true)], args := [d] }
  | _ => none }
def fnExactSmoothUpRow : OpenClaim := { program := "ytlifjhhjkcmneaa", sum := "9943cfd666a27e0a77a50091bb3ed3c7fe25c7ddc293f9641335fa7280f5d11d", func := "loop.example/wateronheights/laws.FnExactSmoothUp", spec := "fnExactSmoothUp", unfollowed := true, recurses := true, apart := false }
def FnExactSmoothUpSaid : Prop := fnExactSmoothUpRow.holds Try.pinned (OpenSpec.ofChange fnExactSmoothUpSpec)

/-- ITS FALSE NEIGHBOUR: 'it returns false'. Refute it at one input. -/
def fnExactSmoothUpWrong : ChangeSpec := { name := "fnExactSmoothUp", fn := fun _ => fun
  | [d] => { results := [.lit (.bool false)], args := [d] }
  | _ => none }
def FnExactSmoothUpWrongFalsely : Prop := fnExactSmoothUpRow.holds Try.pinned (OpenSpec.ofChange fnExactSmoothUpWrong)

/-- 'laws.FnExactSmoothByMeans': WHATEVER THE INPUT: true; the input reads as it did. -/
def fnExactSmoothByMeansSpec : ChangeSpec := { name := "fnExactSmoothByMeans", fn := fun _ => fun
  | [d] => { results := [.lit (.bool true)], args := [d] }
  | _ => none }
def fnExactSmoothByMeansRow : OpenClaim := { program := "ytlifjhhjkcmneaa", sum := "9943cfd666a27e0a77a50091bb3ed3c7fe25c7ddc293f9641335fa7280f5d11d", func := "loop.example/wateronheights/laws.FnExactSmoothByMeans", spec := "fnExactSmoothByMeans", unfollowed := true, recurses := true, apart := false }
def FnExactSmoothByMeansSaid : Prop := fnExactSmoothByMeansRow.holds Try.pinned (OpenSpec.ofChange fnExactSmoothByMeansSpec)

/-- ITS FALSE NEIGHBOUR: 'it returns false'. Refute it at one input. -/
def fnExactSmoothByMeansWrong : ChangeSpec := { name := "fnExactSmoothByMeans", fn := fun _ => fun
  | [d] => { results := [.lit (.bool false)], args := [d] }
  | _ => none }
def FnExactSmoothByMeansWrongFalsely : Prop := fnExactSmoothByMeansRow.holds Try.pinned (OpenSpec.ofChange fnExactSmoothByMeansWrong)

/-- 'laws.FnExactTerraceCost': WHATEVER THE INPUT: true; the input reads as it did. -/
def fnExactTerraceCostSpec : ChangeSpec := { name := "fnExactTerraceCost", fn := fun _ => fun
  | [d1, d2] => { results := [.lit (.bool true)], args := [d1, d2] }
  | _ => none }
def fnExactTerraceCostRow : OpenClaim := { program := "ytlifjhhjkcmneaa", sum := "9943cfd666a27e0a77a50091bb3ed3c7fe25c7ddc293f9641335fa7280f5d11d", func := "loop.example/wateronheights/laws.FnExactTerraceCost", spec := "fnExactTerraceCost", unfollowed := true, recurses := true, apart := false }
def FnExactTerraceCostSaid : Prop := fnExactTerraceCostRow.holds Try.pinned (OpenSpec.ofChange fnExactTerraceCostSpec)

/-- ITS FALSE NEIGHBOUR: 'it returns false'. Refute it at one input. -/
def fnExactTerraceCostWrong : ChangeSpec := { name := "fnExactTerraceCost", fn := fun _ => fun
  | [d1, d2] => { results := [.lit (.bool false)], args := [d1, d2] }
  | _ => none }
def FnExactTerraceCostWrongFalsely : Prop := fnExactTerraceCostRow.holds Try.pinned (OpenSpec.ofChange fnExactTerraceCostWrong)

/-- 'laws.FnExactRiseCost': WHATEVER THE INPUT: true; the input reads as it did. -/
def fnExactRiseCostSpec : ChangeSpec := { name := "fnExactRiseCost", fn := fun _ => fun
  | [d] => { results := [.lit (.bool true)], args := [d] }
  | _ => none }
def fnExactRiseCostRow : OpenClaim := { program := "ytlifjhhjkcmneaa", sum := "9943cfd666a27e0a77a50091bb3ed3c7fe25c7ddc293f9641335fa7280f5d11d", func := "loop.example/wateronheights/laws.FnExactRiseCost", spec := "fnExactRiseCost", apart := false }
def FnExactRiseCostSaid : Prop := fnExactRiseCostRow.holds Try.pinned (OpenSpec.ofChange fnExactRiseCostSpec)

/-- ITS FALSE NEIGHBOUR: 'it returns false'. Refute it at one input. -/
def fnExactRiseCostWrong : ChangeSpec := { name := "fnExactRiseCost", fn := fun _ => fun
  | [d] => { results := [.lit (.bool false)], args := [d] }
  | _ => none }
def FnExactRiseCostWrongFalsely : Prop := fnExactRiseCostRow.holds Try.pinned (OpenSpec.ofChange fnExactRiseCostWrong)

/-- 'laws.FnExactEarthCost': WHATEVER THE INPUT: true; the input reads as it did. -/
def fnExactEarthCostSpec : ChangeSpec := { name := "fnExactEarthCost", fn := fun _ => fun
  | [d1, d2] => { results := [.lit (.bool true)], args := [d1, d2] }
  | _ => none }
def fnExactEarthCostRow : OpenClaim := { program := "ytlifjhhjkcmneaa", sum := "9943cfd666a27e0a77a50091bb3ed3c7fe25c7ddc293f9641335fa7280f5d11d", func := "loop.example/wateronheights/laws.FnExactEarthCost", spec := "fnExactEarthCost", unfollowed := true, recurses := true, apart := false }
def FnExactEarthCostSaid : Prop := fnExactEarthCostRow.holds Try.pinned (OpenSpec.ofChange fnExactEarthCostSpec)

/-- ITS FALSE NEIGHBOUR: 'it returns false'. Refute it at one input. -/
def fnExactEarthCostWrong : ChangeSpec := { name := "fnExactEarthCost", fn := fun _ => fun
  | [d1, d2] => { results := [.lit (.bool false)], args := [d1, d2] }
  | _ => none }
def FnExactEarthCostWrongFalsely : Prop := fnExactEarthCostRow.holds Try.pinned (OpenSpec.ofChange fnExactEarthCostWrong)

/-- 'laws.FnExactEarthMoves': WHATEVER THE INPUT: true; the input reads as it did. -/
def fnExactEarthMovesSpec : ChangeSpec := { name := "fnExactEarthMoves", fn := fun _ => fun
  | [d1, d2] => { results := [.lit (.bool true)], args := [d1, d2] }
  | _ => none }
def fnExactEarthMovesRow : OpenClaim := { program := "ytlifjhhjkcmneaa", sum := "9943cfd666a27e0a77a50091bb3ed3c7fe25c7ddc293f9641335fa7280f5d11d", func := "loop.example/wateronheights/laws.FnExactEarthMoves", spec := "fnExactEarthMoves", unfollowed := true, recurses := true, apart := false }
def FnExactEarthMovesSaid : Prop := fnExactEarthMovesRow.holds Try.pinned (OpenSpec.ofChange fnExactEarthMovesSpec)

/-- ITS FALSE NEIGHBOUR: 'it returns false'. Refute it at one input. -/
def fnExactEarthMovesWrong : ChangeSpec := { name := "fnExactEarthMoves", fn := fun _ => fun
  | [d1, d2] => { results := [.lit (.bool false)], args := [d1, d2] }
  | _ => none }
def FnExactEarthMovesWrongFalsely : Prop := fnExactEarthMovesRow.holds Try.pinned (OpenSpec.ofChange fnExactEarthMovesWrong)

/- THE SECOND FORM. 'bulk': how many values and letters a reading holds, each counted each time it is reached (what is shared counts as often as it is met; a slice's spare places count too). A statement '..UptoSaid' is the law's where the arguments, and the package variables that the reading takes, are together of bulk at most 1048576: NARROWER than '..Said'. Prove '..Said' where nothing that the law and all that it calls make is longer than what came in: it says more and counts as full. Else prove '..UptoSaid'. A law counts once. -/
mutual
def uptoBulk {H : Type} : DataW H → Nat
  | .lit (.string bytes) => bytes.length + 1
  | .lit _ => 1
  | .nil => 1
  | .ptr d => uptoBulk d + 1
  | .slice elems spare => uptoBulkAll elems + uptoBulkAll spare + 1
  | .agg parts => uptoBulkAll parts + 1
  | .iface _ d => uptoBulk d + 1
  | .map entries => uptoBulkEntries entries + 1
  | .held _ => 1
def uptoBulkAll {H : Type} : List (DataW H) → Nat
  | [] => 0
  | d :: r => uptoBulk d + uptoBulkAll r
def uptoBulkEntries {H : Type} : List (Lit × DataW H) → Nat
  | [] => 0
  | x :: r => uptoBulkEntry x + uptoBulkEntries r
def uptoBulkEntry {H : Type} : Lit × DataW H → Nat
  | (.string bytes, d) => bytes.length + uptoBulk d + 1
  | (_, d) => uptoBulk d + 1
 end
def uptoSmall : (H : Type) → List (DataW H) → Bool := fun _ ds => decide (uptoBulkAll ds ≤ 1048576)
def OpenSpec.upto (s : _root_.Go.ChangeSpec) : _root_.Go.OpenSpec := { _root_.Go.OpenSpec.ofChange s with cond := some uptoSmall }

/-- 'laws.FnSmoothUp', WHERE WHAT IT READS IS OF BULK AT MOST 1048576: true; the input reads as it did. -/
def fnSmoothUpUptoRow : OpenClaim := { program := "ytlifjhhjkcmneaa", sum := "9943cfd666a27e0a77a50091bb3ed3c7fe25c7ddc293f9641335fa7280f5d11d", func := "loop.example/wateronheights/laws.FnSmoothUp", spec := "fnSmoothUp", unfollowed := true, recurses := true, apart := false, narrowed := true }
def FnSmoothUpUptoSaid : Prop := fnSmoothUpUptoRow.holds Try.pinned (OpenSpec.upto fnSmoothUpSpec)

/-- 'laws.FnSmoothByMeans', WHERE WHAT IT READS IS OF BULK AT MOST 1048576: true; the input reads as it did. -/
def fnSmoothByMeansUptoRow : OpenClaim := { program := "ytlifjhhjkcmneaa", sum := "9943cfd666a27e0a77a50091bb3ed3c7fe25c7ddc293f9641335fa7280f5d11d", func := "loop.example/wateronheights/laws.FnSmoothByMeans", spec := "fnSmoothByMeans", unfollowed := true, recurses := true, apart := false, narrowed := true }
def FnSmoothByMeansUptoSaid : Prop := fnSmoothByMeansUptoRow.holds Try.pinned (OpenSpec.upto fnSmoothByMeansSpec)

/-- 'laws.FnTerraceCost', WHERE WHAT IT READS IS OF BULK AT MOST 1048576: true; the input reads as it did. -/
def fnTerraceCostUptoRow : OpenClaim := { program := "ytlifjhhjkcmneaa", sum := "9943cfd666a27e0a77a50091bb3ed3c7fe25c7ddc293f9641335fa7280f5d11d", func := "loop.example/wateronheights/laws.FnTerraceCost", spec := "fnTerraceCost", unfollowed := true, recurses := true, apart := false, narrowed := true }
def FnTerraceCostUptoSaid : Prop := fnTerraceCostUptoRow.holds Try.pinned (OpenSpec.upto fnTerraceCostSpec)

/-- 'laws.FnRiseCost', WHERE WHAT IT READS IS OF BULK AT MOST 1048576: true; the input reads as it did. -/
def fnRiseCostUptoRow : OpenClaim := { program := "ytlifjhhjkcmneaa", sum := "9943cfd666a27e0a77a50091bb3ed3c7fe25c7ddc293f9641335fa7280f5d11d", func := "loop.example/wateronheights/laws.FnRiseCost", spec := "fnRiseCost", unfollowed := true, recurses := true, apart := false, narrowed := true }
def FnRiseCostUptoSaid : Prop := fnRiseCostUptoRow.holds Try.pinned (OpenSpec.upto fnRiseCostSpec)

/-- 'laws.FnEarthCost', WHERE WHAT IT READS IS OF BULK AT MOST 1048576: true; the input reads as it did. -/
def fnEarthCostUptoRow : OpenClaim := { program := "ytlifjhhjkcmneaa", sum := "9943cfd666a27e0a77a50091bb3ed3c7fe25c7ddc293f9641335fa7280f5d11d", func := "loop.example/wateronheights/laws.FnEarthCost", spec := "fnEarthCost", unfollowed := true, recurses := true, apart := false, narrowed := true }
def FnEarthCostUptoSaid : Prop := fnEarthCostUptoRow.holds Try.pinned (OpenSpec.upto fnEarthCostSpec)

/-- 'laws.FnEarthMoves', WHERE WHAT IT READS IS OF BULK AT MOST 1048576: true; the input reads as it did. -/
def fnEarthMovesUptoRow : OpenClaim := { program := "ytlifjhhjkcmneaa", sum := "9943cfd666a27e0a77a50091bb3ed3c7fe25c7ddc293f9641335fa7280f5d11d", func := "loop.example/wateronheights/laws.FnEarthMoves", spec := "fnEarthMoves", unfollowed := true, recurses := true, apart := false, narrowed := true }
def FnEarthMovesUptoSaid : Prop := fnEarthMovesUptoRow.holds Try.pinned (OpenSpec.upto fnEarthMovesSpec)

/-- 'laws.FnSmoothKeepsRising', WHERE WHAT IT READS IS OF BULK AT MOST 1048576: true; the input reads as it did. -/
def fnSmoothKeepsRisingUptoRow : OpenClaim := { program := "ytlifjhhjkcmneaa", sum := "9943cfd666a27e0a77a50091bb3ed3c7fe25c7ddc293f9641335fa7280f5d11d", func := "loop.example/wateronheights/laws.FnSmoothKeepsRising", spec := "fnSmoothKeepsRising", unfollowed := true, recurses := true, apart := false, narrowed := true }
def FnSmoothKeepsRisingUptoSaid : Prop := fnSmoothKeepsRisingUptoRow.holds Try.pinned (OpenSpec.upto fnSmoothKeepsRisingSpec)

/-- 'laws.FnTerracesRise', WHERE WHAT IT READS IS OF BULK AT MOST 1048576: true; the input reads as it did. -/
def fnTerracesRiseUptoRow : OpenClaim := { program := "ytlifjhhjkcmneaa", sum := "9943cfd666a27e0a77a50091bb3ed3c7fe25c7ddc293f9641335fa7280f5d11d", func := "loop.example/wateronheights/laws.FnTerracesRise", spec := "fnTerracesRise", unfollowed := true, recurses := true, apart := false, narrowed := true }
def FnTerracesRiseUptoSaid : Prop := fnTerracesRiseUptoRow.holds Try.pinned (OpenSpec.upto fnTerracesRiseSpec)

/-- 'laws.FnExactSmoothUp', WHERE WHAT IT READS IS OF BULK AT MOST 1048576: true; the input reads as it did. -/
def fnExactSmoothUpUptoRow : OpenClaim := { program := "ytlifjhhjkcmneaa", sum := "9943cfd666a27e0a77a50091bb3ed3c7fe25c7ddc293f9641335fa7280f5d11d", func := "loop.example/wateronheights/laws.FnExactSmoothUp", spec := "fnExactSmoothUp", unfollowed := true, recurses := true, apart := false, narrowed := true }
def FnExactSmoothUpUptoSaid : Prop := fnExactSmoothUpUptoRow.holds Try.pinned (OpenSpec.upto fnExactSmoothUpSpec)

/-- 'laws.FnExactSmoothByMeans', WHERE WHAT IT READS IS OF BULK AT MOST 1048576: true; the input reads as it did. -/
def fnExactSmoothByMeansUptoRow : OpenClaim := { program := "ytlifjhhjkcmneaa", sum := "9943cfd666a27e0a77a50091bb3ed3c7fe25c7ddc293f9641335fa7280f5d11d", func := "loop.example/wateronheights/laws.FnExactSmoothByMeans", spec := "fnExactSmoothByMeans", unfollowed := true, recurses := true, apart := false, narrowed := true }
def FnExactSmoothByMeansUptoSaid : Prop := fnExactSmoothByMeansUptoRow.holds Try.pinned (OpenSpec.upto fnExactSmoothByMeansSpec)

/-- 'laws.FnExactTerraceCost', WHERE WHAT IT READS IS OF BULK AT MOST 1048576: true; the input reads as it did. -/
def fnExactTerraceCostUptoRow : OpenClaim := { program := "ytlifjhhjkcmneaa", sum := "9943cfd666a27e0a77a50091bb3ed3c7fe25c7ddc293f9641335fa7280f5d11d", func := "loop.example/wateronheights/laws.FnExactTerraceCost", spec := "fnExactTerraceCost", unfollowed := true, recurses := true, apart := false, narrowed := true }
def FnExactTerraceCostUptoSaid : Prop := fnExactTerraceCostUptoRow.holds Try.pinned (OpenSpec.upto fnExactTerraceCostSpec)

/-- 'laws.FnExactRiseCost', WHERE WHAT IT READS IS OF BULK AT MOST 1048576: true; the input reads as it did. -/
def fnExactRiseCostUptoRow : OpenClaim := { program := "ytlifjhhjkcmneaa", sum := "9943cfd666a27e0a77a50091bb3ed3c7fe25c7ddc293f9641335fa7280f5d11d", func := "loop.example/wateronheights/laws.FnExactRiseCost", spec := "fnExactRiseCost", apart := false, narrowed := true }
def FnExactRiseCostUptoSaid : Prop := fnExactRiseCostUptoRow.holds Try.pinned (OpenSpec.upto fnExactRiseCostSpec)

/-- 'laws.FnExactEarthCost', WHERE WHAT IT READS IS OF BULK AT MOST 1048576: true; the input reads as it did. -/
def fnExactEarthCostUptoRow : OpenClaim := { program := "ytlifjhhjkcmneaa", sum := "9943cfd666a27e0a77a50091bb3ed3c7fe25c7ddc293f9641335fa7280f5d11d", func := "loop.example/wateronheights/laws.FnExactEarthCost", spec := "fnExactEarthCost", unfollowed := true, recurses := true, apart := false, narrowed := true }
def FnExactEarthCostUptoSaid : Prop := fnExactEarthCostUptoRow.holds Try.pinned (OpenSpec.upto fnExactEarthCostSpec)

/-- 'laws.FnExactEarthMoves', WHERE WHAT IT READS IS OF BULK AT MOST 1048576: true; the input reads as it did. -/
def fnExactEarthMovesUptoRow : OpenClaim := { program := "ytlifjhhjkcmneaa", sum := "9943cfd666a27e0a77a50091bb3ed3c7fe25c7ddc293f9641335fa7280f5d11d", func := "loop.example/wateronheights/laws.FnExactEarthMoves", spec := "fnExactEarthMoves", unfollowed := true, recurses := true, apart := false, narrowed := true }
def FnExactEarthMovesUptoSaid : Prop := fnExactEarthMovesUptoRow.holds Try.pinned (OpenSpec.upto fnExactEarthMovesSpec)

end Rows
end Go.Proofs.Ytlifjhhjkcmneaa
