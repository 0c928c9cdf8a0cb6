/-
  NARROWER THAN 'FOR EVERY INPUT', by the rows' own cells (each row's printed sentence says how): FnFlatsOf: laid · FnFillByQueue: laid · FnFillBySinking: laid · FnSpillOf: laid · FnDepthsOf: laid · FnFlowOf: laid · FnExactFlatsOf: laid · FnExactFillByQueue: laid · FnExactFillBySinking: laid · FnExactSpillOf: laid · FnExactDepthsOf: laid · FnExactFlowOf: laid.
  DERIVED. THE GIVEN ROWS OF THIS SEAT. 12 by the template 'for every input the law returns true; each argument reads behind the call as it read before'; 0 by the template 'total and deterministic' (their statements: YthjnfkphlildaaaDoorTotals.lean).
  GIVEN WITH THE SEED: the statements are not yours to turn. If you find one false, say at which input.
  Laid BY PROGRAM, IN A SANDBOX (cutbox-rows.mjs): the forced cells as the released guide's own fill.sh prints them over the translation 818fccd2736f2536… (all of the seat's roots in one cut). By AI agents, Wed Nov 11 2026. No macro, syntax, notation, axiom, sorry.
-/
import Derived.Test.YthjnfkphlildaaaDoorChecked
import GoSem.Claim
import GoSem.ClaimJoined
import GoSem.ClaimMapViews
import Derived.JoinedTies
import Derived.KernelRfl
namespace Go.Proofs.YthjnfkphlildaaaDoor
/- THE CELL 'sum', in the pinned program and in every row, IS THE sha256 OF THE DUMP (.gsa) THAT YthjnfkphlildaaaDoorProg.lean LOADS. Nothing in Lean hashes anything: it is a label: what it is worth is what the hold of that sum in a sandbox is worth. -/
noncomputable def Tryd.pinned : Pinned := { name := "ythjnfkphlildaaadoor", sum := "818fccd2736f253669270654f285bf57b45e542c85307f38aa8861eae2d7db02", checked := Tryd.checked }
namespace Rows
def none {H : Type} : Left H := { results := [], args := [] }

/- WHAT THE LISTED PACKAGE-LEVEL VARIABLES READ AS WHEN THE CALL BEGINS. Each datum BY PROGRAM (the guide's laid-datum.mjs) off the statement by which the dump's own 'gosem.cut.vars' lays the variable. In a bare row this is a premise. The card (YthjnfkphlildaaaDoorCards.lean) ties it to the program's text. -/
def laid_loop_example_wateronheights_impl_steps {H : Type} : DataW H := .agg [.agg [.lit (.int .i64 (-1)), .lit (.int .i64 0)], .agg [.lit (.int .i64 0), .lit (.int .i64 (-1))], .agg [.lit (.int .i64 0), .lit (.int .i64 1)], .agg [.lit (.int .i64 1), .lit (.int .i64 0)]]

/-- 'laws.FnFlatsOf': WHATEVER THE INPUT: true; the input reads as it did. -/
def fnFlatsOfSpec : ChangeSpec := { name := "fnFlatsOf", vars := ["loop.example/wateronheights/impl.steps"], fn := fun _ => fun
  | [d, g1] => { results := [.lit (.bool true)], args := [d], vars := [g1] }
  | _ => none }
def fnFlatsOfRow : OpenClaim := { program := "ythjnfkphlildaaadoor", sum := "818fccd2736f253669270654f285bf57b45e542c85307f38aa8861eae2d7db02", func := "loop.example/wateronheights/laws.FnFlatsOf", spec := "fnFlatsOf", unfollowed := true, recurses := true, named := ["loop.example/wateronheights/impl.steps"], apart := false, laid := [("loop.example/wateronheights/impl.steps", laid_loop_example_wateronheights_impl_steps)] }
def FnFlatsOfSaid : Prop := fnFlatsOfRow.holds Tryd.pinned (OpenSpec.ofChange fnFlatsOfSpec)

/-- ITS FALSE NEIGHBOUR: 'it returns false'. Refute it at one input. -/
def fnFlatsOfWrong : ChangeSpec := { name := "fnFlatsOf", vars := ["loop.example/wateronheights/impl.steps"], fn := fun _ => fun
  | [d, g1] => { results := [.lit (.bool false)], args := [d], vars := [g1] }
  | _ => none }
def FnFlatsOfWrongFalsely : Prop := fnFlatsOfRow.holds Tryd.pinned (OpenSpec.ofChange fnFlatsOfWrong)

/-- 'laws.FnFillByQueue': WHATEVER THE INPUT: true; the input reads as it did. -/
def fnFillByQueueSpec : ChangeSpec := { name := "fnFillByQueue", vars := ["loop.example/wateronheights/impl.steps"], fn := fun _ => fun
  | [d, g1] => { results := [.lit (.bool true)], args := [d], vars := [g1] }
  | _ => none }
def fnFillByQueueRow : OpenClaim := { program := "ythjnfkphlildaaadoor", sum := "818fccd2736f253669270654f285bf57b45e542c85307f38aa8861eae2d7db02", func := "loop.example/wateronheights/laws.FnFillByQueue", spec := "fnFillByQueue", inPlace := ["slices.overlaps[loop.example/wateronheights/impl.standing]"], unfollowed := true, recurses := true, named := ["loop.example/wateronheights/impl.steps"], apart := false, laid := [("loop.example/wateronheights/impl.steps", laid_loop_example_wateronheights_impl_steps)] }
def FnFillByQueueSaid : Prop := fnFillByQueueRow.holds Tryd.pinned (OpenSpec.ofChange fnFillByQueueSpec)

/-- ITS FALSE NEIGHBOUR: 'it returns false'. Refute it at one input. -/
def fnFillByQueueWrong : ChangeSpec := { name := "fnFillByQueue", vars := ["loop.example/wateronheights/impl.steps"], fn := fun _ => fun
  | [d, g1] => { results := [.lit (.bool false)], args := [d], vars := [g1] }
  | _ => none }
def FnFillByQueueWrongFalsely : Prop := fnFillByQueueRow.holds Tryd.pinned (OpenSpec.ofChange fnFillByQueueWrong)

/-- 'laws.FnFillBySinking': WHATEVER THE INPUT: true; the input reads as it did. -/
def fnFillBySinkingSpec : ChangeSpec := { name := "fnFillBySinking", vars := ["loop.example/wateronheights/impl.steps"], fn := fun _ => fun
  | [d, g1] => { results := [.lit (.bool true)], args := [d], vars := [g1] }
  | _ => none }
def fnFillBySinkingRow : OpenClaim := { program := "ythjnfkphlildaaadoor", sum := "818fccd2736f253669270654f285bf57b45e542c85307f38aa8861eae2d7db02", func := "loop.example/wateronheights/laws.FnFillBySinking", spec := "fnFillBySinking", unfollowed := true, recurses := true, named := ["loop.example/wateronheights/impl.steps"], apart := false, laid := [("loop.example/wateronheights/impl.steps", laid_loop_example_wateronheights_impl_steps)] }
def FnFillBySinkingSaid : Prop := fnFillBySinkingRow.holds Tryd.pinned (OpenSpec.ofChange fnFillBySinkingSpec)

/-- ITS FALSE NEIGHBOUR: 'it returns false'. Refute it at one input. -/
def fnFillBySinkingWrong : ChangeSpec := { name := "fnFillBySinking", vars := ["loop.example/wateronheights/impl.steps"], fn := fun _ => fun
  | [d, g1] => { results := [.lit (.bool false)], args := [d], vars := [g1] }
  | _ => none }
def FnFillBySinkingWrongFalsely : Prop := fnFillBySinkingRow.holds Tryd.pinned (OpenSpec.ofChange fnFillBySinkingWrong)

/-- 'laws.FnSpillOf': WHATEVER THE INPUT: true; the input reads as it did. -/
def fnSpillOfSpec : ChangeSpec := { name := "fnSpillOf", vars := ["loop.example/wateronheights/impl.steps"], fn := fun _ => fun
  | [d, g1] => { results := [.lit (.bool true)], args := [d], vars := [g1] }
  | _ => none }
def fnSpillOfRow : OpenClaim := { program := "ythjnfkphlildaaadoor", sum := "818fccd2736f253669270654f285bf57b45e542c85307f38aa8861eae2d7db02", func := "loop.example/wateronheights/laws.FnSpillOf", spec := "fnSpillOf", inPlace := ["slices.overlaps[loop.example/wateronheights/impl.standing]"], unfollowed := true, recurses := true, named := ["loop.example/wateronheights/impl.steps"], apart := false, laid := [("loop.example/wateronheights/impl.steps", laid_loop_example_wateronheights_impl_steps)] }
def FnSpillOfSaid : Prop := fnSpillOfRow.holds Tryd.pinned (OpenSpec.ofChange fnSpillOfSpec)

/-- ITS FALSE NEIGHBOUR: 'it returns false'. Refute it at one input. -/
def fnSpillOfWrong : ChangeSpec := { name := "fnSpillOf", vars := ["loop.example/wateronheights/impl.steps"], fn := fun _ => fun
  | [d, g1] => { results := [.lit (.bool false)], args := [d], vars := [g1] }
  | _ => none }
def FnSpillOfWrongFalsely : Prop := fnSpillOfRow.holds Tryd.pinned (OpenSpec.ofChange fnSpillOfWrong)

/-- 'laws.FnDepthsOf': WHATEVER THE INPUT: true; the input reads as it did. -/
def fnDepthsOfSpec : ChangeSpec := { name := "fnDepthsOf", vars := ["loop.example/wateronheights/impl.steps"], fn := fun _ => fun
  | [d, g1] => { results := [.lit (.bool true)], args := [d], vars := [g1] }
  | _ => none }
def fnDepthsOfRow : OpenClaim := { program := "ythjnfkphlildaaadoor", sum := "818fccd2736f253669270654f285bf57b45e542c85307f38aa8861eae2d7db02", func := "loop.example/wateronheights/laws.FnDepthsOf", spec := "fnDepthsOf", inPlace := ["slices.overlaps[loop.example/wateronheights/impl.standing]"], unfollowed := true, recurses := true, named := ["loop.example/wateronheights/impl.steps"], apart := false, laid := [("loop.example/wateronheights/impl.steps", laid_loop_example_wateronheights_impl_steps)] }
def FnDepthsOfSaid : Prop := fnDepthsOfRow.holds Tryd.pinned (OpenSpec.ofChange fnDepthsOfSpec)

/-- ITS FALSE NEIGHBOUR: 'it returns false'. Refute it at one input. -/
def fnDepthsOfWrong : ChangeSpec := { name := "fnDepthsOf", vars := ["loop.example/wateronheights/impl.steps"], fn := fun _ => fun
  | [d, g1] => { results := [.lit (.bool false)], args := [d], vars := [g1] }
  | _ => none }
def FnDepthsOfWrongFalsely : Prop := fnDepthsOfRow.holds Tryd.pinned (OpenSpec.ofChange fnDepthsOfWrong)

/-- 'laws.FnFlowOf': WHATEVER THE INPUT: true; the input reads as it did. -/
def fnFlowOfSpec : ChangeSpec := { name := "fnFlowOf", vars := ["loop.example/wateronheights/impl.steps"], fn := fun _ => fun
  | [d, g1] => { results := [.lit (.bool true)], args := [d], vars := [g1] }
  | _ => none }
def fnFlowOfRow : OpenClaim := { program := "ythjnfkphlildaaadoor", sum := "818fccd2736f253669270654f285bf57b45e542c85307f38aa8861eae2d7db02", func := "loop.example/wateronheights/laws.FnFlowOf", spec := "fnFlowOf", inPlace := ["slices.overlaps[loop.example/wateronheights/impl.standing]"], unfollowed := true, recurses := true, named := ["loop.example/wateronheights/impl.steps"], apart := false, laid := [("loop.example/wateronheights/impl.steps", laid_loop_example_wateronheights_impl_steps)] }
def FnFlowOfSaid : Prop := fnFlowOfRow.holds Tryd.pinned (OpenSpec.ofChange fnFlowOfSpec)

/-- ITS FALSE NEIGHBOUR: 'it returns false'. Refute it at one input. -/
def fnFlowOfWrong : ChangeSpec := { name := "fnFlowOf", vars := ["loop.example/wateronheights/impl.steps"], fn := fun _ => fun
  | [d, g1] => { results := [.lit (.bool false)], args := [d], vars := [g1] }
  | _ => none }
def FnFlowOfWrongFalsely : Prop := fnFlowOfRow.holds Tryd.pinned (OpenSpec.ofChange fnFlowOfWrong)

/-- 'laws.FnExactFlatsOf': WHATEVER THE INPUT: true; the input reads as it did. -/
def fnExactFlatsOfSpec : ChangeSpec := { name := "fnExactFlatsOf", vars := ["loop.example/wateronheights/impl.steps"], fn := fun _ => fun
  | [d, g1] => { results := [.lit (.bool true)], args := [d], vars := [g1] }
  | _ => none }
def fnExactFlatsOfRow : OpenClaim := { program := "ythjnfkphlildaaadoor", sum := "818fccd2736f253669270654f285bf57b45e542c85307f38aa8861eae2d7db02", func := "loop.example/wateronheights/laws.FnExactFlatsOf", spec := "fnExactFlatsOf", unfollowed := true, recurses := true, named := ["loop.example/wateronheights/impl.steps"], apart := false, laid := [("loop.example/wateronheights/impl.steps", laid_loop_example_wateronheights_impl_steps)] }
def FnExactFlatsOfSaid : Prop := fnExactFlatsOfRow.holds Tryd.pinned (OpenSpec.ofChange fnExactFlatsOfSpec)

/-- ITS FALSE NEIGHBOUR: 'it returns false'. Refute it at one input. -/
def fnExactFlatsOfWrong : ChangeSpec := { name := "fnExactFlatsOf", vars := ["loop.example/wateronheights/impl.steps"], fn := fun _ => fun
  | [d, g1] => { results := [.lit (.bool false)], args := [d], vars := [g1] }
  | _ => none }
def FnExactFlatsOfWrongFalsely : Prop := fnExactFlatsOfRow.holds Tryd.pinned (OpenSpec.ofChange fnExactFlatsOfWrong)

/-- 'laws.FnExactFillByQueue': WHATEVER THE INPUT: true; the input reads as it did. -/
def fnExactFillByQueueSpec : ChangeSpec := { name := "fnExactFillByQueue", vars := ["loop.example/wateronheights/impl.steps"], fn := fun _ => fun
  | [d, g1] => { results := [.lit (.bool true)], args := [d], vars := [g1] }
  | _ => none }
def fnExactFillByQueueRow : OpenClaim := { program := "ythjnfkphlildaaadoor", sum := "818fccd2736f253669270654f285bf57b45e542c85307f38aa8861eae2d7db02", func := "loop.example/wateronheights/laws.FnExactFillByQueue", spec := "fnExactFillByQueue", inPlace := ["slices.overlaps[loop.example/wateronheights/impl.standing]"], unfollowed := true, recurses := true, named := ["loop.example/wateronheights/impl.steps"], apart := false, laid := [("loop.example/wateronheights/impl.steps", laid_loop_example_wateronheights_impl_steps)] }
def FnExactFillByQueueSaid : Prop := fnExactFillByQueueRow.holds Tryd.pinned (OpenSpec.ofChange fnExactFillByQueueSpec)

/-- ITS FALSE NEIGHBOUR: 'it returns false'. Refute it at one input. -/
def fnExactFillByQueueWrong : ChangeSpec := { name := "fnExactFillByQueue", vars := ["loop.example/wateronheights/impl.steps"], fn := fun _ => fun
  | [d, g1] => { results := [.lit (.bool false)], args := [d], vars := [g1] }
  | _ => none }
def FnExactFillByQueueWrongFalsely : Prop := fnExactFillByQueueRow.holds Tryd.pinned (OpenSpec.ofChange fnExactFillByQueueWrong)

/-- 'laws.FnExactFillBySinking': WHATEVER THE INPUT: true; the input reads as it did. -/
def fnExactFillBySinkingSpec : ChangeSpec := { name := "fnExactFillBySinking", vars := ["loop.example/wateronheights/impl.steps"], fn := fun _ => fun
  | [d, g1] => { results := [.lit (.bool true)], args := [d], vars := [g1] }
  | _ => none }
def fnExactFillBySinkingRow : OpenClaim := { program := "ythjnfkphlildaaadoor", sum := "818fccd2736f253669270654f285bf57b45e542c85307f38aa8861eae2d7db02", func := "loop.example/wateronheights/laws.FnExactFillBySinking", spec := "fnExactFillBySinking", unfollowed := true, recurses := true, named := ["loop.example/wateronheights/impl.steps"], apart := false, laid := [("loop.example/wateronheights/impl.steps", laid_loop_example_wateronheights_impl_steps)] }
def FnExactFillBySinkingSaid : Prop := fnExactFillBySinkingRow.holds Tryd.pinned (OpenSpec.ofChange fnExactFillBySinkingSpec)

/-- ITS FALSE NEIGHBOUR: 'it returns false'. Refute it at one input. -/
def fnExactFillBySinkingWrong : ChangeSpec := { name := "fnExactFillBySinking", vars := ["loop.example/wateronheights/impl.steps"], fn := fun _ => fun
  | [d, g1] => { results := [.lit (.bool false)], args := [d], vars := [g1] }
  | _ => none }
def FnExactFillBySinkingWrongFalsely : Prop := fnExactFillBySinkingRow.holds Tryd.pinned (OpenSpec.ofChange fnExactFillBySinkingWrong)

/-- 'laws.FnExactSpillOf': WHATEVER THE INPUT: true; the input reads as it did. -/
def fnExactSpillOfSpec : ChangeSpec := { name := "fnExactSpillOf", vars := ["loop.example/wateronheights/impl.steps"], fn := fun _ => fun
  | [d1, d2, g1] => { results := [.lit (.bool true)], args := [d1, d2], vars := [g1] }
  | _ => none }
def fnExactSpillOfRow : OpenClaim := { program := "ythjnfkphlildaaadoor", sum := "818fccd2736f253669270654f285bf57b45e542c85307f38aa8861eae2d7db02", func := "loop.example/wateronheights/laws.FnExactSpillOf", spec := "fnExactSpillOf", unfollowed := true, recurses := true, named := ["loop.example/wateronheights/impl.steps"], apart := false, laid := [("loop.example/wateronheights/impl.steps", laid_loop_example_wateronheights_impl_steps)] }
def FnExactSpillOfSaid : Prop := fnExactSpillOfRow.holds Tryd.pinned (OpenSpec.ofChange fnExactSpillOfSpec)

/-- ITS FALSE NEIGHBOUR: 'it returns false'. Refute it at one input. -/
def fnExactSpillOfWrong : ChangeSpec := { name := "fnExactSpillOf", vars := ["loop.example/wateronheights/impl.steps"], fn := fun _ => fun
  | [d1, d2, g1] => { results := [.lit (.bool false)], args := [d1, d2], vars := [g1] }
  | _ => none }
def FnExactSpillOfWrongFalsely : Prop := fnExactSpillOfRow.holds Tryd.pinned (OpenSpec.ofChange fnExactSpillOfWrong)

/-- 'laws.FnExactDepthsOf': WHATEVER THE INPUT: true; the input reads as it did. -/
def fnExactDepthsOfSpec : ChangeSpec := { name := "fnExactDepthsOf", vars := ["loop.example/wateronheights/impl.steps"], fn := fun _ => fun
  | [d, g1] => { results := [.lit (.bool true)], args := [d], vars := [g1] }
  | _ => none }
def fnExactDepthsOfRow : OpenClaim := { program := "ythjnfkphlildaaadoor", sum := "818fccd2736f253669270654f285bf57b45e542c85307f38aa8861eae2d7db02", func := "loop.example/wateronheights/laws.FnExactDepthsOf", spec := "fnExactDepthsOf", inPlace := ["slices.overlaps[loop.example/wateronheights/impl.standing]"], unfollowed := true, recurses := true, named := ["loop.example/wateronheights/impl.steps"], apart := false, laid := [("loop.example/wateronheights/impl.steps", laid_loop_example_wateronheights_impl_steps)] }
def FnExactDepthsOfSaid : Prop := fnExactDepthsOfRow.holds Tryd.pinned (OpenSpec.ofChange fnExactDepthsOfSpec)

/-- ITS FALSE NEIGHBOUR: 'it returns false'. Refute it at one input. -/
def fnExactDepthsOfWrong : ChangeSpec := { name := "fnExactDepthsOf", vars := ["loop.example/wateronheights/impl.steps"], fn := fun _ => fun
  | [d, g1] => { results := [.lit (.bool false)], args := [d], vars := [g1] }
  | _ => none }
def FnExactDepthsOfWrongFalsely : Prop := fnExactDepthsOfRow.holds Tryd.pinned (OpenSpec.ofChange fnExactDepthsOfWrong)

/-- 'laws.FnExactFlowOf': WHATEVER THE INPUT: true; the input reads as it did. -/
def fnExactFlowOfSpec : ChangeSpec := { name := "fnExactFlowOf", vars := ["loop.example/wateronheights/impl.steps"], fn := fun _ => fun
  | [d, g1] => { results := [.lit (.bool true)], args := [d], vars := [g1] }
  | _ => none }
def fnExactFlowOfRow : OpenClaim := { program := "ythjnfkphlildaaadoor", sum := "818fccd2736f253669270654f285bf57b45e542c85307f38aa8861eae2d7db02", func := "loop.example/wateronheights/laws.FnExactFlowOf", spec := "fnExactFlowOf", inPlace := ["slices.overlaps[loop.example/wateronheights/impl.standing]"], unfollowed := true, recurses := true, named := ["loop.example/wateronheights/impl.steps"], apart := false, laid := [("loop.example/wateronheights/impl.steps", laid_loop_example_wateronheights_impl_steps)] }
def FnExactFlowOfSaid : Prop := fnExactFlowOfRow.holds Tryd.pinned (OpenSpec.ofChange fnExactFlowOfSpec)

/-- ITS FALSE NEIGHBOUR: 'it returns false'. Refute it at one input. -/
def fnExactFlowOfWrong : ChangeSpec := { name := "fnExactFlowOf", vars := ["loop.example/wateronheights/impl.steps"], fn := fun _ => fun
  | [d, g1] => { results := [.lit (.bool false)], args := [d], vars := [g1] }
  | _ => none }
def FnExactFlowOfWrongFalsely : Prop := fnExactFlowOfRow.holds Tryd.pinned (OpenSpec.ofChange fnExactFlowOfWrong)

/- THE SECOND FORM. 'bulk': how many values and letters a reading holds, each counted each time it is reached (what is shared counts as often as it is met; a slice's spare places count too). A statement '..UptoSaid' is the law's where the arguments, and the package variables that the reading takes, are together of bulk at most 1048576: NARROWER than '..Said'. Prove '..Said' where nothing that the law and all that it calls make is longer than what came in: it says more and counts as full. Else prove '..UptoSaid'. A law counts once. -/
mutual
def uptoBulk {H : Type} : DataW H → Nat
  | .lit (.string bytes) => bytes.length + 1
  | .lit _ => 1
  | .nil => 1
  | .ptr d => uptoBulk d + 1
  | .slice elems spare => uptoBulkAll elems + uptoBulkAll spare + 1
  | .agg parts => uptoBulkAll parts + 1
  | .iface _ d => uptoBulk d + 1
  | .map entries => uptoBulkEntries entries + 1
  | .held _ => 1
def uptoBulkAll {H : Type} : List (DataW H) → Nat
  | [] => 0
  | d :: r => uptoBulk d + uptoBulkAll r
def uptoBulkEntries {H : Type} : List (Lit × DataW H) → Nat
  | [] => 0
  | x :: r => uptoBulkEntry x + uptoBulkEntries r
def uptoBulkEntry {H : Type} : Lit × DataW H → Nat
  | (.string bytes, d) => bytes.length + uptoBulk d + 1
  | (_, d) => uptoBulk d + 1
 end
def uptoSmall : (H : Type) → List (DataW H) → Bool := fun _ ds => decide (uptoBulkAll ds ≤ 1048576)
def OpenSpec.upto (s : _root_.Go.ChangeSpec) : _root_.Go.OpenSpec := { _root_.Go.OpenSpec.ofChange s with cond := some uptoSmall }

/-- 'laws.FnFlatsOf', WHERE WHAT IT READS IS OF BULK AT MOST 1048576: true; the input reads as it did. -/
def fnFlatsOfUptoRow : OpenClaim := { program := "ythjnfkphlildaaadoor", sum := "818fccd2736f253669270654f285bf57b45e542c85307f38aa8861eae2d7db02", func := "loop.example/wateronheights/laws.FnFlatsOf", spec := "fnFlatsOf", unfollowed := true, recurses := true, named := ["loop.example/wateronheights/impl.steps"], apart := false, laid := [("loop.example/wateronheights/impl.steps", laid_loop_example_wateronheights_impl_steps)], narrowed := true }
def FnFlatsOfUptoSaid : Prop := fnFlatsOfUptoRow.holds Tryd.pinned (OpenSpec.upto fnFlatsOfSpec)

/-- 'laws.FnFillByQueue', WHERE WHAT IT READS IS OF BULK AT MOST 1048576: true; the input reads as it did. -/
def fnFillByQueueUptoRow : OpenClaim := { program := "ythjnfkphlildaaadoor", sum := "818fccd2736f253669270654f285bf57b45e542c85307f38aa8861eae2d7db02", func := "loop.example/wateronheights/laws.FnFillByQueue", spec := "fnFillByQueue", inPlace := ["slices.overlaps[loop.example/wateronheights/impl.standing]"], unfollowed := true, recurses := true, named := ["loop.example/wateronheights/impl.steps"], apart := false, laid := [("loop.example/wateronheights/impl.steps", laid_loop_example_wateronheights_impl_steps)], narrowed := true }
def FnFillByQueueUptoSaid : Prop := fnFillByQueueUptoRow.holds Tryd.pinned (OpenSpec.upto fnFillByQueueSpec)

/-- 'laws.FnFillBySinking', WHERE WHAT IT READS IS OF BULK AT MOST 1048576: true; the input reads as it did. -/
def fnFillBySinkingUptoRow : OpenClaim := { program := "ythjnfkphlildaaadoor", sum := "818fccd2736f253669270654f285bf57b45e542c85307f38aa8861eae2d7db02", func := "loop.example/wateronheights/laws.FnFillBySinking", spec := "fnFillBySinking", unfollowed := true, recurses := true, named := ["loop.example/wateronheights/impl.steps"], apart := false, laid := [("loop.example/wateronheights/impl.steps", laid_loop_example_wateronheights_impl_steps)], narrowed := true }
def FnFillBySinkingUptoSaid : Prop := fnFillBySinkingUptoRow.holds Tryd.pinned (OpenSpec.upto fnFillBySinkingSpec)

/-- 'laws.FnSpillOf', WHERE WHAT IT READS IS OF BULK AT MOST 1048576: true; the input reads as it did. -/
def fnSpillOfUptoRow : OpenClaim := { program := "ythjnfkphlildaaadoor", sum := "818fccd2736f253669270654f285bf57b45e542c85307f38aa8861eae2d7db02", func := "loop.example/wateronheights/laws.FnSpillOf", spec := "fnSpillOf", inPlace := ["slices.overlaps[loop.example/wateronheights/impl.standing]"], unfollowed := true, recurses := true, named := ["loop.example/wateronheights/impl.steps"], apart := false, laid := [("loop.example/wateronheights/impl.steps", laid_loop_example_wateronheights_impl_steps)], narrowed := true }
def FnSpillOfUptoSaid : Prop := fnSpillOfUptoRow.holds Tryd.pinned (OpenSpec.upto fnSpillOfSpec)

/-- 'laws.FnDepthsOf', WHERE WHAT IT READS IS OF BULK AT MOST 1048576: true; the input reads as it did. -/
def fnDepthsOfUptoRow : OpenClaim := { program := "ythjnfkphlildaaadoor", sum := "818fccd2736f253669270654f285bf57b45e542c85307f38aa8861eae2d7db02", func := "loop.example/wateronheights/laws.FnDepthsOf", spec := "fnDepthsOf", inPlace := ["slices.overlaps[loop.example/wateronheights/impl.standing]"], unfollowed := true, recurses := true, named := ["loop.example/wateronheights/impl.steps"], apart := false, laid := [("loop.example/wateronheights/impl.steps", laid_loop_example_wateronheights_impl_steps)], narrowed := true }
def FnDepthsOfUptoSaid : Prop := fnDepthsOfUptoRow.holds Tryd.pinned (OpenSpec.upto fnDepthsOfSpec)

/-- 'laws.FnFlowOf', WHERE WHAT IT READS IS OF BULK AT MOST 1048576: true; the input reads as it did. -/
def fnFlowOfUptoRow : OpenClaim := { program := "ythjnfkphlildaaadoor", sum := "818fccd2736f253669270654f285bf57b45e542c85307f38aa8861eae2d7db02", func := "loop.example/wateronheights/laws.FnFlowOf", spec := "fnFlowOf", inPlace := ["slices.overlaps[loop.example/wateronheights/impl.standing]"], unfollowed := true, recurses := true, named := ["loop.example/wateronheights/impl.steps"], apart := false, laid := [("loop.example/wateronheights/impl.steps", laid_loop_example_wateronheights_impl_steps)], narrowed := true }
def FnFlowOfUptoSaid : Prop := fnFlowOfUptoRow.holds Tryd.pinned (OpenSpec.upto fnFlowOfSpec)

/-- 'laws.FnExactFlatsOf', WHERE WHAT IT READS IS OF BULK AT MOST 1048576: true; the input reads as it did. -/
def fnExactFlatsOfUptoRow : OpenClaim := { program := "ythjnfkphlildaaadoor", sum := "818fccd2736f253669270654f285bf57b45e542c85307f38aa8861eae2d7db02", func := "loop.example/wateronheights/laws.FnExactFlatsOf", spec := "fnExactFlatsOf", unfollowed := true, recurses := true, named := ["loop.example/wateronheights/impl.steps"], apart := false, laid := [("loop.example/wateronheights/impl.steps", laid_loop_example_wateronheights_impl_steps)], narrowed := true }
def FnExactFlatsOfUptoSaid : Prop := fnExactFlatsOfUptoRow.holds Tryd.pinned (OpenSpec.upto fnExactFlatsOfSpec)

/-- 'laws.FnExactFillByQueue', WHERE WHAT IT READS IS OF BULK AT MOST 1048576: true; the input reads as it did. -/
def fnExactFillByQueueUptoRow : OpenClaim := { program := "ythjnfkphlildaaadoor", sum := "818fccd2736f253669270654f285bf57b45e542c85307f38aa8861eae2d7db02", func := "loop.example/wateronheights/laws.FnExactFillByQueue", spec := "fnExactFillByQueue", inPlace := ["slices.overlaps[loop.example/wateronheights/impl.standing]"], unfollowed := true, recurses := true, named := ["loop.example/wateronheights/impl.steps"], apart := false, laid := [("loop.example/wateronheights/impl.steps", laid_loop_example_wateronheights_impl_steps)], narrowed := true }
def FnExactFillByQueueUptoSaid : Prop := fnExactFillByQueueUptoRow.holds Tryd.pinned (OpenSpec.upto fnExactFillByQueueSpec)

/-- 'laws.FnExactFillBySinking', WHERE WHAT IT READS IS OF BULK AT MOST 1048576: true; the input reads as it did. -/
def fnExactFillBySinkingUptoRow : OpenClaim := { program := "ythjnfkphlildaaadoor", sum := "818fccd2736f253669270654f285bf57b45e542c85307f38aa8861eae2d7db02", func := "loop.example/wateronheights/laws.FnExactFillBySinking", spec := "fnExactFillBySinking", unfollowed := true, recurses := true, named := ["loop.example/wateronheights/impl.steps"], apart := false, laid := [("loop.example/wateronheights/impl.steps", laid_loop_example_wateronheights_impl_steps)], narrowed := true }
def FnExactFillBySinkingUptoSaid : Prop := fnExactFillBySinkingUptoRow.holds Tryd.pinned (OpenSpec.upto fnExactFillBySinkingSpec)

/-- 'laws.FnExactSpillOf', WHERE WHAT IT READS IS OF BULK AT MOST 1048576: true; the input reads as it did. -/
def fnExactSpillOfUptoRow : OpenClaim := { program := "ythjnfkphlildaaadoor", sum := "818fccd2736f253669270654f285bf57b45e542c85307f38aa8861eae2d7db02", func := "loop.example/wateronheights/laws.FnExactSpillOf", spec := "fnExactSpillOf", unfollowed := true, recurses := true, named := ["loop.example/wateronheights/impl.steps"], apart := false, laid := [("loop.example/wateronheights/impl.steps", laid_loop_example_wateronheights_impl_steps)], narrowed := true }
def FnExactSpillOfUptoSaid : Prop := fnExactSpillOfUptoRow.holds Tryd.pinned (OpenSpec.upto fnExactSpillOfSpec)

/-- 'laws.FnExactDepthsOf', WHERE WHAT IT READS IS OF BULK AT MOST 1048576: true; the input reads as it did. -/
def fnExactDepthsOfUptoRow : OpenClaim := { program := "ythjnfkphlildaaadoor", sum := "818fccd2736f253669270654f285bf57b45e542c85307f38aa8861eae2d7db02", func := "loop.example/wateronheights/laws.FnExactDepthsOf", spec := "fnExactDepthsOf", inPlace := ["slices.overlaps[loop.example/wateronheights/impl.standing]"], unfollowed := true, recurses := true, named := ["loop.example/wateronheights/impl.steps"], apart := false, laid := [("loop.example/wateronheights/impl.steps", laid_loop_example_wateronheights_impl_steps)], narrowed := true }
def FnExactDepthsOfUptoSaid : Prop := fnExactDepthsOfUptoRow.holds Tryd.pinned (OpenSpec.upto fnExactDepthsOfSpec)

/-- 'laws.FnExactFlowOf', WHERE WHAT IT READS IS OF BULK AT MOST 1048576: true; the input reads as it did. -/
def fnExactFlowOfUptoRow : OpenClaim := { program := "ythjnfkphlildaaadoor", sum := "818fccd2736f253669270654f285bf57b45e542c85307f38aa8861eae2d7db02", func := "loop.example/wateronheights/laws.FnExactFlowOf", spec := "fnExactFlowOf", inPlace := ["slices.overlaps[loop.example/wateronheights/impl.standing]"], unfollowed := true, recurses := true, named := ["loop.example/wateronheights/impl.steps"], apart := false, laid := [("loop.example/wateronheights/impl.steps", laid_loop_example_wateronheights_impl_steps)], narrowed := true }
def FnExactFlowOfUptoSaid : Prop := fnExactFlowOfUptoRow.holds Tryd.pinned (OpenSpec.upto fnExactFlowOfSpec)

end Rows
end Go.Proofs.YthjnfkphlildaaaDoor
