/-
  NARROWER THAN 'FOR EVERY INPUT', by the rows' own cells (each row's printed sentence says how): FnWaterOf: laid · FnLakesOf: laid · FnLakesHoldAll: laid · FnWaterFlowsOnWater: laid · FnHigherFillsHigher: laid · FnExactWaterOf: laid · FnExactLakesOf: laid · FnAroundOf: laid · FnOnEdge: laid · FnExactAroundOf: laid · FnExactOnEdge: laid · FnExactRimAt: laid.
  DERIVED. THE GIVEN ROWS OF THIS SEAT. 12 by the template 'for every input the law returns true; each argument reads behind the call as it read before'; 0 by the template 'total and deterministic' (their statements: YtgecghngfonejaaDoorTotals.lean).
  GIVEN WITH THE SEED: the statements are not yours to turn. If you find one false, say at which input.
  Laid BY PROGRAM, IN A SANDBOX (cutbox-rows.mjs): the forced cells as the released guide's own fill.sh prints them over the translation 0a25af8c51fe345b… (all of the seat's roots in one cut). By AI agents, Wed Nov 11 2026. No macro, syntax, notation, axiom, sorry.
-/
import Derived.Test.YtgecghngfonejaaDoorChecked
import GoSem.Claim
import GoSem.ClaimJoined
import GoSem.ClaimMapViews
import Derived.JoinedTies
import Derived.KernelRfl
namespace Go.Proofs.YtgecghngfonejaaDoor
/- THE CELL 'sum', in the pinned program and in every row, IS THE sha256 OF THE DUMP (.gsa) THAT YtgecghngfonejaaDoorProg.lean LOADS. Nothing in Lean hashes anything: it is a label: what it is worth is what the hold of that sum in a sandbox is worth. -/
noncomputable def Tryd.pinned : Pinned := { name := "ytgecghngfonejaadoor", sum := "0a25af8c51fe345b36447ab6a370507f9bc0c24444efb503ea9ebb9a1e7cc4e9", checked := Tryd.checked }
namespace Rows
def none {H : Type} : Left H := { results := [], args := [] }

/- WHAT THE LISTED PACKAGE-LEVEL VARIABLES READ AS WHEN THE CALL BEGINS. Each datum BY PROGRAM (the guide's laid-datum.mjs) off the statement by which the dump's own 'gosem.cut.vars' lays the variable. In a bare row this is a premise. The card (YtgecghngfonejaaDoorCards.lean) ties it to the program's text. -/
def laid_loop_example_wateronheights_impl_steps {H : Type} : DataW H := .agg [.agg [.lit (.int .i64 (-1)), .lit (.int .i64 0)], .agg [.lit (.int .i64 0), .lit (.int .i64 (-1))], .agg [.lit (.int .i64 0), .lit (.int .i64 1)], .agg [.lit (.int .i64 1), .lit (.int .i64 0)]]

/-- 'laws.FnWaterOf': WHATEVER THE INPUT: true; the input reads as it did. -/
def fnWaterOfSpec : ChangeSpec := { name := "fnWaterOf", vars := ["loop.example/wateronheights/impl.steps"], fn := fun _ => fun
  | [d, g1] => { results := [.lit (.bool true)], args := [d], vars := [g1] }
  | _ => none }
def fnWaterOfRow : OpenClaim := { program := "ytgecghngfonejaadoor", sum := "0a25af8c51fe345b36447ab6a370507f9bc0c24444efb503ea9ebb9a1e7cc4e9", func := "loop.example/wateronheights/laws.FnWaterOf", spec := "fnWaterOf", inPlace := ["slices.overlaps[loop.example/wateronheights/impl.standing]"], unfollowed := true, recurses := true, named := ["loop.example/wateronheights/impl.steps"], apart := false, laid := [("loop.example/wateronheights/impl.steps", laid_loop_example_wateronheights_impl_steps)] }
def FnWaterOfSaid : Prop := fnWaterOfRow.holds Tryd.pinned (OpenSpec.ofChange fnWaterOfSpec)

/-- ITS FALSE NEIGHBOUR: 'it returns false'. Refute it at one input. -/
def fnWaterOfWrong : ChangeSpec := { name := "fnWaterOf", vars := ["loop.example/wateronheights/impl.steps"], fn := fun _ => fun
  | [d, g1] => { results := [.lit (.bool false)], args := [d], vars := [g1] }
  | _ => none }
def FnWaterOfWrongFalsely : Prop := fnWaterOfRow.holds Tryd.pinned (OpenSpec.ofChange fnWaterOfWrong)

/-- 'laws.FnLakesOf': WHATEVER THE INPUT: true; the input reads as it did. -/
def fnLakesOfSpec : ChangeSpec := { name := "fnLakesOf", vars := ["loop.example/wateronheights/impl.steps"], fn := fun _ => fun
  | [d, g1] => { results := [.lit (.bool true)], args := [d], vars := [g1] }
  | _ => none }
def fnLakesOfRow : OpenClaim := { program := "ytgecghngfonejaadoor", sum := "0a25af8c51fe345b36447ab6a370507f9bc0c24444efb503ea9ebb9a1e7cc4e9", func := "loop.example/wateronheights/laws.FnLakesOf", spec := "fnLakesOf", inPlace := ["slices.overlaps[loop.example/wateronheights/impl.standing]"], unfollowed := true, recurses := true, named := ["loop.example/wateronheights/impl.steps"], apart := false, laid := [("loop.example/wateronheights/impl.steps", laid_loop_example_wateronheights_impl_steps)] }
def FnLakesOfSaid : Prop := fnLakesOfRow.holds Tryd.pinned (OpenSpec.ofChange fnLakesOfSpec)

/-- ITS FALSE NEIGHBOUR: 'it returns false'. Refute it at one input. -/
def fnLakesOfWrong : ChangeSpec := { name := "fnLakesOf", vars := ["loop.example/wateronheights/impl.steps"], fn := fun _ => fun
  | [d, g1] => { results := [.lit (.bool false)], args := [d], vars := [g1] }
  | _ => none }
def FnLakesOfWrongFalsely : Prop := fnLakesOfRow.holds Tryd.pinned (OpenSpec.ofChange fnLakesOfWrong)

/-- 'laws.FnLakesHoldAll': WHATEVER THE INPUT: true; the input reads as it did. -/
def fnLakesHoldAllSpec : ChangeSpec := { name := "fnLakesHoldAll", vars := ["loop.example/wateronheights/impl.steps"], fn := fun _ => fun
  | [d, g1] => { results := [.lit (.bool true)], args := [d], vars := [g1] }
  | _ => none }
def fnLakesHoldAllRow : OpenClaim := { program := "ytgecghngfonejaadoor", sum := "0a25af8c51fe345b36447ab6a370507f9bc0c24444efb503ea9ebb9a1e7cc4e9", func := "loop.example/wateronheights/laws.FnLakesHoldAll", spec := "fnLakesHoldAll", inPlace := ["slices.overlaps[loop.example/wateronheights/impl.standing]"], unfollowed := true, recurses := true, named := ["loop.example/wateronheights/impl.steps"], apart := false, laid := [("loop.example/wateronheights/impl.steps", laid_loop_example_wateronheights_impl_steps)] }
def FnLakesHoldAllSaid : Prop := fnLakesHoldAllRow.holds Tryd.pinned (OpenSpec.ofChange fnLakesHoldAllSpec)

/-- ITS FALSE NEIGHBOUR: 'it returns false'. Refute it at one input. -/
def fnLakesHoldAllWrong : ChangeSpec := { name := "fnLakesHoldAll", vars := ["loop.example/wateronheights/impl.steps"], fn := fun _ => fun
  | [d, g1] => { results := [.lit (.bool false)], args := [d], vars := [g1] }
  | _ => none }
def FnLakesHoldAllWrongFalsely : Prop := fnLakesHoldAllRow.holds Tryd.pinned (OpenSpec.ofChange fnLakesHoldAllWrong)

/-- 'laws.FnWaterFlowsOnWater': WHATEVER THE INPUT: true; the input reads as it did. -/
def fnWaterFlowsOnWaterSpec : ChangeSpec := { name := "fnWaterFlowsOnWater", vars := ["loop.example/wateronheights/impl.steps"], fn := fun _ => fun
  | [d, g1] => { results := [.lit (.bool true)], args := [d], vars := [g1] }
  | _ => none }
def fnWaterFlowsOnWaterRow : OpenClaim := { program := "ytgecghngfonejaadoor", sum := "0a25af8c51fe345b36447ab6a370507f9bc0c24444efb503ea9ebb9a1e7cc4e9", func := "loop.example/wateronheights/laws.FnWaterFlowsOnWater", spec := "fnWaterFlowsOnWater", inPlace := ["slices.overlaps[loop.example/wateronheights/impl.standing]"], unfollowed := true, recurses := true, named := ["loop.example/wateronheights/impl.steps"], apart := false, laid := [("loop.example/wateronheights/impl.steps", laid_loop_example_wateronheights_impl_steps)] }
def FnWaterFlowsOnWaterSaid : Prop := fnWaterFlowsOnWaterRow.holds Tryd.pinned (OpenSpec.ofChange fnWaterFlowsOnWaterSpec)

/-- ITS FALSE NEIGHBOUR: 'it returns false'. Refute it at one input. -/
def fnWaterFlowsOnWaterWrong : ChangeSpec := { name := "fnWaterFlowsOnWater", vars := ["loop.example/wateronheights/impl.steps"], fn := fun _ => fun
  | [d, g1] => { results := [.lit (.bool false)], args := [d], vars := [g1] }
  | _ => none }
def FnWaterFlowsOnWaterWrongFalsely : Prop := fnWaterFlowsOnWaterRow.holds Tryd.pinned (OpenSpec.ofChange fnWaterFlowsOnWaterWrong)

/-- 'laws.FnHigherFillsHigher': WHATEVER THE INPUT: true; the input reads as it did. -/
def fnHigherFillsHigherSpec : ChangeSpec := { name := "fnHigherFillsHigher", vars := ["loop.example/wateronheights/impl.steps"], fn := fun _ => fun
  | [d, g1] => { results := [.lit (.bool true)], args := [d], vars := [g1] }
  | _ => none }
def fnHigherFillsHigherRow : OpenClaim := { program := "ytgecghngfonejaadoor", sum := "0a25af8c51fe345b36447ab6a370507f9bc0c24444efb503ea9ebb9a1e7cc4e9", func := "loop.example/wateronheights/laws.FnHigherFillsHigher", spec := "fnHigherFillsHigher", inPlace := ["slices.overlaps[loop.example/wateronheights/impl.standing]"], unfollowed := true, recurses := true, named := ["loop.example/wateronheights/impl.steps"], apart := false, laid := [("loop.example/wateronheights/impl.steps", laid_loop_example_wateronheights_impl_steps)] }
def FnHigherFillsHigherSaid : Prop := fnHigherFillsHigherRow.holds Tryd.pinned (OpenSpec.ofChange fnHigherFillsHigherSpec)

/-- ITS FALSE NEIGHBOUR: 'it returns false'. Refute it at one input. -/
def fnHigherFillsHigherWrong : ChangeSpec := { name := "fnHigherFillsHigher", vars := ["loop.example/wateronheights/impl.steps"], fn := fun _ => fun
  | [d, g1] => { results := [.lit (.bool false)], args := [d], vars := [g1] }
  | _ => none }
def FnHigherFillsHigherWrongFalsely : Prop := fnHigherFillsHigherRow.holds Tryd.pinned (OpenSpec.ofChange fnHigherFillsHigherWrong)

/-- 'laws.FnExactWaterOf': WHATEVER THE INPUT: true; the input reads as it did. -/
def fnExactWaterOfSpec : ChangeSpec := { name := "fnExactWaterOf", vars := ["loop.example/wateronheights/impl.steps"], fn := fun _ => fun
  | [d, g1] => { results := [.lit (.bool true)], args := [d], vars := [g1] }
  | _ => none }
def fnExactWaterOfRow : OpenClaim := { program := "ytgecghngfonejaadoor", sum := "0a25af8c51fe345b36447ab6a370507f9bc0c24444efb503ea9ebb9a1e7cc4e9", func := "loop.example/wateronheights/laws.FnExactWaterOf", spec := "fnExactWaterOf", inPlace := ["slices.overlaps[loop.example/wateronheights/impl.standing]"], unfollowed := true, recurses := true, named := ["loop.example/wateronheights/impl.steps"], apart := false, laid := [("loop.example/wateronheights/impl.steps", laid_loop_example_wateronheights_impl_steps)] }
def FnExactWaterOfSaid : Prop := fnExactWaterOfRow.holds Tryd.pinned (OpenSpec.ofChange fnExactWaterOfSpec)

/-- ITS FALSE NEIGHBOUR: 'it returns false'. Refute it at one input. -/
def fnExactWaterOfWrong : ChangeSpec := { name := "fnExactWaterOf", vars := ["loop.example/wateronheights/impl.steps"], fn := fun _ => fun
  | [d, g1] => { results := [.lit (.bool false)], args := [d], vars := [g1] }
  | _ => none }
def FnExactWaterOfWrongFalsely : Prop := fnExactWaterOfRow.holds Tryd.pinned (OpenSpec.ofChange fnExactWaterOfWrong)

/-- 'laws.FnExactLakesOf': WHATEVER THE INPUT: true; the input reads as it did. -/
def fnExactLakesOfSpec : ChangeSpec := { name := "fnExactLakesOf", vars := ["loop.example/wateronheights/impl.steps"], fn := fun _ => fun
  | [d, g1] => { results := [.lit (.bool true)], args := [d], vars := [g1] }
  | _ => none }
def fnExactLakesOfRow : OpenClaim := { program := "ytgecghngfonejaadoor", sum := "0a25af8c51fe345b36447ab6a370507f9bc0c24444efb503ea9ebb9a1e7cc4e9", func := "loop.example/wateronheights/laws.FnExactLakesOf", spec := "fnExactLakesOf", inPlace := ["slices.overlaps[loop.example/wateronheights/impl.standing]"], unfollowed := true, recurses := true, named := ["loop.example/wateronheights/impl.steps"], apart := false, laid := [("loop.example/wateronheights/impl.steps", laid_loop_example_wateronheights_impl_steps)] }
def FnExactLakesOfSaid : Prop := fnExactLakesOfRow.holds Tryd.pinned (OpenSpec.ofChange fnExactLakesOfSpec)

/-- ITS FALSE NEIGHBOUR: 'it returns false'. Refute it at one input. -/
def fnExactLakesOfWrong : ChangeSpec := { name := "fnExactLakesOf", vars := ["loop.example/wateronheights/impl.steps"], fn := fun _ => fun
  | [d, g1] => { results := [.lit (.bool false)], args := [d], vars := [g1] }
  | _ => none }
def FnExactLakesOfWrongFalsely : Prop := fnExactLakesOfRow.holds Tryd.pinned (OpenSpec.ofChange fnExactLakesOfWrong)

/-- 'laws.FnAroundOf': WHATEVER THE INPUT: true; the input reads as it did. -/
def fnAroundOfSpec : ChangeSpec := { name := "fnAroundOf", vars := ["loop.example/wateronheights/impl.steps"], fn := fun _ => fun
  | [d, g1] => { results := [.lit (.bool true)], args := [d], vars := [g1] }
  | _ => none }
def fnAroundOfRow : OpenClaim := { program := "ytgecghngfonejaadoor", sum := "0a25af8c51fe345b36447ab6a370507f9bc0c24444efb503ea9ebb9a1e7cc4e9", func := "loop.example/wateronheights/laws.FnAroundOf", spec := "fnAroundOf", named := ["loop.example/wateronheights/impl.steps"], apart := false, laid := [("loop.example/wateronheights/impl.steps", laid_loop_example_wateronheights_impl_steps)] }
def FnAroundOfSaid : Prop := fnAroundOfRow.holds Tryd.pinned (OpenSpec.ofChange fnAroundOfSpec)

/-- ITS FALSE NEIGHBOUR: 'it returns false'. Refute it at one input. -/
def fnAroundOfWrong : ChangeSpec := { name := "fnAroundOf", vars := ["loop.example/wateronheights/impl.steps"], fn := fun _ => fun
  | [d, g1] => { results := [.lit (.bool false)], args := [d], vars := [g1] }
  | _ => none }
def FnAroundOfWrongFalsely : Prop := fnAroundOfRow.holds Tryd.pinned (OpenSpec.ofChange fnAroundOfWrong)

/-- 'laws.FnOnEdge': WHATEVER THE INPUT: true; the input reads as it did. -/
def fnOnEdgeSpec : ChangeSpec := { name := "fnOnEdge", vars := ["loop.example/wateronheights/impl.steps"], fn := fun _ => fun
  | [d, g1] => { results := [.lit (.bool true)], args := [d], vars := [g1] }
  | _ => none }
def fnOnEdgeRow : OpenClaim := { program := "ytgecghngfonejaadoor", sum := "0a25af8c51fe345b36447ab6a370507f9bc0c24444efb503ea9ebb9a1e7cc4e9", func := "loop.example/wateronheights/laws.FnOnEdge", spec := "fnOnEdge", named := ["loop.example/wateronheights/impl.steps"], apart := false, laid := [("loop.example/wateronheights/impl.steps", laid_loop_example_wateronheights_impl_steps)] }
def FnOnEdgeSaid : Prop := fnOnEdgeRow.holds Tryd.pinned (OpenSpec.ofChange fnOnEdgeSpec)

/-- ITS FALSE NEIGHBOUR: 'it returns false'. Refute it at one input. -/
def fnOnEdgeWrong : ChangeSpec := { name := "fnOnEdge", vars := ["loop.example/wateronheights/impl.steps"], fn := fun _ => fun
  | [d, g1] => { results := [.lit (.bool false)], args := [d], vars := [g1] }
  | _ => none }
def FnOnEdgeWrongFalsely : Prop := fnOnEdgeRow.holds Tryd.pinned (OpenSpec.ofChange fnOnEdgeWrong)

/-- 'laws.FnExactAroundOf': WHATEVER THE INPUT: true; the input reads as it did. -/
def fnExactAroundOfSpec : ChangeSpec := { name := "fnExactAroundOf", vars := ["loop.example/wateronheights/impl.steps"], fn := fun _ => fun
  | [d1, d2, g1] => { results := [.lit (.bool true)], args := [d1, d2], vars := [g1] }
  | _ => none }
def fnExactAroundOfRow : OpenClaim := { program := "ytgecghngfonejaadoor", sum := "0a25af8c51fe345b36447ab6a370507f9bc0c24444efb503ea9ebb9a1e7cc4e9", func := "loop.example/wateronheights/laws.FnExactAroundOf", spec := "fnExactAroundOf", named := ["loop.example/wateronheights/impl.steps"], apart := false, laid := [("loop.example/wateronheights/impl.steps", laid_loop_example_wateronheights_impl_steps)] }
def FnExactAroundOfSaid : Prop := fnExactAroundOfRow.holds Tryd.pinned (OpenSpec.ofChange fnExactAroundOfSpec)

/-- ITS FALSE NEIGHBOUR: 'it returns false'. Refute it at one input. -/
def fnExactAroundOfWrong : ChangeSpec := { name := "fnExactAroundOf", vars := ["loop.example/wateronheights/impl.steps"], fn := fun _ => fun
  | [d1, d2, g1] => { results := [.lit (.bool false)], args := [d1, d2], vars := [g1] }
  | _ => none }
def FnExactAroundOfWrongFalsely : Prop := fnExactAroundOfRow.holds Tryd.pinned (OpenSpec.ofChange fnExactAroundOfWrong)

/-- 'laws.FnExactOnEdge': WHATEVER THE INPUT: true; the input reads as it did. -/
def fnExactOnEdgeSpec : ChangeSpec := { name := "fnExactOnEdge", vars := ["loop.example/wateronheights/impl.steps"], fn := fun _ => fun
  | [d1, d2, g1] => { results := [.lit (.bool true)], args := [d1, d2], vars := [g1] }
  | _ => none }
def fnExactOnEdgeRow : OpenClaim := { program := "ytgecghngfonejaadoor", sum := "0a25af8c51fe345b36447ab6a370507f9bc0c24444efb503ea9ebb9a1e7cc4e9", func := "loop.example/wateronheights/laws.FnExactOnEdge", spec := "fnExactOnEdge", named := ["loop.example/wateronheights/impl.steps"], apart := false, laid := [("loop.example/wateronheights/impl.steps", laid_loop_example_wateronheights_impl_steps)] }
def FnExactOnEdgeSaid : Prop := fnExactOnEdgeRow.holds Tryd.pinned (OpenSpec.ofChange fnExactOnEdgeSpec)

/-- ITS FALSE NEIGHBOUR: 'it returns false'. Refute it at one input. -/
def fnExactOnEdgeWrong : ChangeSpec := { name := "fnExactOnEdge", vars := ["loop.example/wateronheights/impl.steps"], fn := fun _ => fun
  | [d1, d2, g1] => { results := [.lit (.bool false)], args := [d1, d2], vars := [g1] }
  | _ => none }
def FnExactOnEdgeWrongFalsely : Prop := fnExactOnEdgeRow.holds Tryd.pinned (OpenSpec.ofChange fnExactOnEdgeWrong)

/-- 'laws.FnExactRimAt': WHATEVER THE INPUT: true; the input reads as it did. -/
def fnExactRimAtSpec : ChangeSpec := { name := "fnExactRimAt", vars := ["loop.example/wateronheights/impl.steps"], fn := fun _ => fun
  | [d1, d2, g1] => { results := [.lit (.bool true)], args := [d1, d2], vars := [g1] }
  | _ => none }
def fnExactRimAtRow : OpenClaim := { program := "ytgecghngfonejaadoor", sum := "0a25af8c51fe345b36447ab6a370507f9bc0c24444efb503ea9ebb9a1e7cc4e9", func := "loop.example/wateronheights/laws.FnExactRimAt", spec := "fnExactRimAt", unfollowed := true, recurses := true, named := ["loop.example/wateronheights/impl.steps"], apart := false, laid := [("loop.example/wateronheights/impl.steps", laid_loop_example_wateronheights_impl_steps)] }
def FnExactRimAtSaid : Prop := fnExactRimAtRow.holds Tryd.pinned (OpenSpec.ofChange fnExactRimAtSpec)

/-- ITS FALSE NEIGHBOUR: 'it returns false'. Refute it at one input. -/
def fnExactRimAtWrong : ChangeSpec := { name := "fnExactRimAt", vars := ["loop.example/wateronheights/impl.steps"], fn := fun _ => fun
  | [d1, d2, g1] => { results := [.lit (.bool false)], args := [d1, d2], vars := [g1] }
  | _ => none }
def FnExactRimAtWrongFalsely : Prop := fnExactRimAtRow.holds Tryd.pinned (OpenSpec.ofChange fnExactRimAtWrong)

/- THE SECOND FORM. 'bulk': how many values and letters a reading holds, each counted each time it is reached (what is shared counts as often as it is met; a slice's spare places count too). A statement '..UptoSaid' is the law's where the arguments, and the package variables that the reading takes, are together of bulk at most 1048576: NARROWER than '..Said'. Prove '..Said' where nothing that the law and all that it calls make is longer than what came in: it says more and counts as full. Else prove '..UptoSaid'. A law counts once. -/
mutual
def uptoBulk {H : Type} : DataW H → Nat
  | .lit (.string bytes) => bytes.length + 1
  | .lit _ => 1
  | .nil => 1
  | .ptr d => uptoBulk d + 1
  | .slice elems spare => uptoBulkAll elems + uptoBulkAll spare + 1
  | .agg parts => uptoBulkAll parts + 1
  | .iface _ d => uptoBulk d + 1
  | .map entries => uptoBulkEntries entries + 1
  | .held _ => 1
def uptoBulkAll {H : Type} : List (DataW H) → Nat
  | [] => 0
  | d :: r => uptoBulk d + uptoBulkAll r
def uptoBulkEntries {H : Type} : List (Lit × DataW H) → Nat
  | [] => 0
  | x :: r => uptoBulkEntry x + uptoBulkEntries r
def uptoBulkEntry {H : Type} : Lit × DataW H → Nat
  | (.string bytes, d) => bytes.length + uptoBulk d + 1
  | (_, d) => uptoBulk d + 1
 end
def uptoSmall : (H : Type) → List (DataW H) → Bool := fun _ ds => decide (uptoBulkAll ds ≤ 1048576)
def OpenSpec.upto (s : _root_.Go.ChangeSpec) : _root_.Go.OpenSpec := { _root_.Go.OpenSpec.ofChange s with cond := some uptoSmall }

/-- 'laws.FnWaterOf', WHERE WHAT IT READS IS OF BULK AT MOST 1048576: true; the input reads as it did. -/
def fnWaterOfUptoRow : OpenClaim := { program := "ytgecghngfonejaadoor", sum := "0a25af8c51fe345b36447ab6a370507f9bc0c24444efb503ea9ebb9a1e7cc4e9", func := "loop.example/wateronheights/laws.FnWaterOf", spec := "fnWaterOf", inPlace := ["slices.overlaps[loop.example/wateronheights/impl.standing]"], unfollowed := true, recurses := true, named := ["loop.example/wateronheights/impl.steps"], apart := false, laid := [("loop.example/wateronheights/impl.steps", laid_loop_example_wateronheights_impl_steps)], narrowed := true }
def FnWaterOfUptoSaid : Prop := fnWaterOfUptoRow.holds Tryd.pinned (OpenSpec.upto fnWaterOfSpec)

/-- 'laws.FnLakesOf', WHERE WHAT IT READS IS OF BULK AT MOST 1048576: true; the input reads as it did. -/
def fnLakesOfUptoRow : OpenClaim := { program := "ytgecghngfonejaadoor", sum := "0a25af8c51fe345b36447ab6a370507f9bc0c24444efb503ea9ebb9a1e7cc4e9", func := "loop.example/wateronheights/laws.FnLakesOf", spec := "fnLakesOf", inPlace := ["slices.overlaps[loop.example/wateronheights/impl.standing]"], unfollowed := true, recurses := true, named := ["loop.example/wateronheights/impl.steps"], apart := false, laid := [("loop.example/wateronheights/impl.steps", laid_loop_example_wateronheights_impl_steps)], narrowed := true }
def FnLakesOfUptoSaid : Prop := fnLakesOfUptoRow.holds Tryd.pinned (OpenSpec.upto fnLakesOfSpec)

/-- 'laws.FnLakesHoldAll', WHERE WHAT IT READS IS OF BULK AT MOST 1048576: true; the input reads as it did. -/
def fnLakesHoldAllUptoRow : OpenClaim := { program := "ytgecghngfonejaadoor", sum := "0a25af8c51fe345b36447ab6a370507f9bc0c24444efb503ea9ebb9a1e7cc4e9", func := "loop.example/wateronheights/laws.FnLakesHoldAll", spec := "fnLakesHoldAll", inPlace := ["slices.overlaps[loop.example/wateronheights/impl.standing]"], unfollowed := true, recurses := true, named := ["loop.example/wateronheights/impl.steps"], apart := false, laid := [("loop.example/wateronheights/impl.steps", laid_loop_example_wateronheights_impl_steps)], narrowed := true }
def FnLakesHoldAllUptoSaid : Prop := fnLakesHoldAllUptoRow.holds Tryd.pinned (OpenSpec.upto fnLakesHoldAllSpec)

/-- 'laws.FnWaterFlowsOnWater', WHERE WHAT IT READS IS OF BULK AT MOST 1048576: true; the input reads as it did. -/
def fnWaterFlowsOnWaterUptoRow : OpenClaim := { program := "ytgecghngfonejaadoor", sum := "0a25af8c51fe345b36447ab6a370507f9bc0c24444efb503ea9ebb9a1e7cc4e9", func := "loop.example/wateronheights/laws.FnWaterFlowsOnWater", spec := "fnWaterFlowsOnWater", inPlace := ["slices.overlaps[loop.example/wateronheights/impl.standing]"], unfollowed := true, recurses := true, named := ["loop.example/wateronheights/impl.steps"], apart := false, laid := [("loop.example/wateronheights/impl.steps", laid_loop_example_wateronheights_impl_steps)], narrowed := true }
def FnWaterFlowsOnWaterUptoSaid : Prop := fnWaterFlowsOnWaterUptoRow.holds Tryd.pinned (OpenSpec.upto fnWaterFlowsOnWaterSpec)

/-- 'laws.FnHigherFillsHigher', WHERE WHAT IT READS IS OF BULK AT MOST 1048576: true; the input reads as it did. -/
def fnHigherFillsHigherUptoRow : OpenClaim := { program := "ytgecghngfonejaadoor", sum := "0a25af8c51fe345b36447ab6a370507f9bc0c24444efb503ea9ebb9a1e7cc4e9", func := "loop.example/wateronheights/laws.FnHigherFillsHigher", spec := "fnHigherFillsHigher", inPlace := ["slices.overlaps[loop.example/wateronheights/impl.standing]"], unfollowed := true, recurses := true, named := ["loop.example/wateronheights/impl.steps"], apart := false, laid := [("loop.example/wateronheights/impl.steps", laid_loop_example_wateronheights_impl_steps)], narrowed := true }
def FnHigherFillsHigherUptoSaid : Prop := fnHigherFillsHigherUptoRow.holds Tryd.pinned (OpenSpec.upto fnHigherFillsHigherSpec)

/-- 'laws.FnExactWaterOf', WHERE WHAT IT READS IS OF BULK AT MOST 1048576: true; the input reads as it did. -/
def fnExactWaterOfUptoRow : OpenClaim := { program := "ytgecghngfonejaadoor", sum := "0a25af8c51fe345b36447ab6a370507f9bc0c24444efb503ea9ebb9a1e7cc4e9", func := "loop.example/wateronheights/laws.FnExactWaterOf", spec := "fnExactWaterOf", inPlace := ["slices.overlaps[loop.example/wateronheights/impl.standing]"], unfollowed := true, recurses := true, named := ["loop.example/wateronheights/impl.steps"], apart := false, laid := [("loop.example/wateronheights/impl.steps", laid_loop_example_wateronheights_impl_steps)], narrowed := true }
def FnExactWaterOfUptoSaid : Prop := fnExactWaterOfUptoRow.holds Tryd.pinned (OpenSpec.upto fnExactWaterOfSpec)

/-- 'laws.FnExactLakesOf', WHERE WHAT IT READS IS OF BULK AT MOST 1048576: true; the input reads as it did. -/
def fnExactLakesOfUptoRow : OpenClaim := { program := "ytgecghngfonejaadoor", sum := "0a25af8c51fe345b36447ab6a370507f9bc0c24444efb503ea9ebb9a1e7cc4e9", func := "loop.example/wateronheights/laws.FnExactLakesOf", spec := "fnExactLakesOf", inPlace := ["slices.overlaps[loop.example/wateronheights/impl.standing]"], unfollowed := true, recurses := true, named := ["loop.example/wateronheights/impl.steps"], apart := false, laid := [("loop.example/wateronheights/impl.steps", laid_loop_example_wateronheights_impl_steps)], narrowed := true }
def FnExactLakesOfUptoSaid : Prop := fnExactLakesOfUptoRow.holds Tryd.pinned (OpenSpec.upto fnExactLakesOfSpec)

/-- 'laws.FnAroundOf', WHERE WHAT IT READS IS OF BULK AT MOST 1048576: true; the input reads as it did. -/
def fnAroundOfUptoRow : OpenClaim := { program := "ytgecghngfonejaadoor", sum := "0a25af8c51fe345b36447ab6a370507f9bc0c24444efb503ea9ebb9a1e7cc4e9", func := "loop.example/wateronheights/laws.FnAroundOf", spec := "fnAroundOf", named := ["loop.example/wateronheights/impl.steps"], apart := false, laid := [("loop.example/wateronheights/impl.steps", laid_loop_example_wateronheights_impl_steps)], narrowed := true }
def FnAroundOfUptoSaid : Prop := fnAroundOfUptoRow.holds Tryd.pinned (OpenSpec.upto fnAroundOfSpec)

/-- 'laws.FnOnEdge', WHERE WHAT IT READS IS OF BULK AT MOST 1048576: true; the input reads as it did. -/
def fnOnEdgeUptoRow : OpenClaim := { program := "ytgecghngfonejaadoor", sum := "0a25af8c51fe345b36447ab6a370507f9bc0c24444efb503ea9ebb9a1e7cc4e9", func := "loop.example/wateronheights/laws.FnOnEdge", spec := "fnOnEdge", named := ["loop.example/wateronheights/impl.steps"], apart := false, laid := [("loop.example/wateronheights/impl.steps", laid_loop_example_wateronheights_impl_steps)], narrowed := true }
def FnOnEdgeUptoSaid : Prop := fnOnEdgeUptoRow.holds Tryd.pinned (OpenSpec.upto fnOnEdgeSpec)

/-- 'laws.FnExactAroundOf', WHERE WHAT IT READS IS OF BULK AT MOST 1048576: true; the input reads as it did. -/
def fnExactAroundOfUptoRow : OpenClaim := { program := "ytgecghngfonejaadoor", sum := "0a25af8c51fe345b36447ab6a370507f9bc0c24444efb503ea9ebb9a1e7cc4e9", func := "loop.example/wateronheights/laws.FnExactAroundOf", spec := "fnExactAroundOf", named := ["loop.example/wateronheights/impl.steps"], apart := false, laid := [("loop.example/wateronheights/impl.steps", laid_loop_example_wateronheights_impl_steps)], narrowed := true }
def FnExactAroundOfUptoSaid : Prop := fnExactAroundOfUptoRow.holds Tryd.pinned (OpenSpec.upto fnExactAroundOfSpec)

/-- 'laws.FnExactOnEdge', WHERE WHAT IT READS IS OF BULK AT MOST 1048576: true; the input reads as it did. -/
def fnExactOnEdgeUptoRow : OpenClaim := { program := "ytgecghngfonejaadoor", sum := "0a25af8c51fe345b36447ab6a370507f9bc0c24444efb503ea9ebb9a1e7cc4e9", func := "loop.example/wateronheights/laws.FnExactOnEdge", spec := "fnExactOnEdge", named := ["loop.example/wateronheights/impl.steps"], apart := false, laid := [("loop.example/wateronheights/impl.steps", laid_loop_example_wateronheights_impl_steps)], narrowed := true }
def FnExactOnEdgeUptoSaid : Prop := fnExactOnEdgeUptoRow.holds Tryd.pinned (OpenSpec.upto fnExactOnEdgeSpec)

/-- 'laws.FnExactRimAt', WHERE WHAT IT READS IS OF BULK AT MOST 1048576: true; the input reads as it did. -/
def fnExactRimAtUptoRow : OpenClaim := { program := "ytgecghngfonejaadoor", sum := "0a25af8c51fe345b36447ab6a370507f9bc0c24444efb503ea9ebb9a1e7cc4e9", func := "loop.example/wateronheights/laws.FnExactRimAt", spec := "fnExactRimAt", unfollowed := true, recurses := true, named := ["loop.example/wateronheights/impl.steps"], apart := false, laid := [("loop.example/wateronheights/impl.steps", laid_loop_example_wateronheights_impl_steps)], narrowed := true }
def FnExactRimAtUptoSaid : Prop := fnExactRimAtUptoRow.holds Tryd.pinned (OpenSpec.upto fnExactRimAtSpec)

end Rows
end Go.Proofs.YtgecghngfonejaaDoor
