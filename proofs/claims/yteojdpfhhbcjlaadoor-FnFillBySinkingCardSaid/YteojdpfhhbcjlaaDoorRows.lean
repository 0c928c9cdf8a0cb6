/-
  NARROWER THAN 'FOR EVERY INPUT', by the rows' own cells (each row's printed sentence says how): FnFlatsOf: laid · FnPeaksOf: laid · FnPitsOf: laid · FnFillByQueue: laid · FnFillBySinking: laid · FnExactFlatsOf: laid · FnExactPeaksOf: laid · FnExactPitsOf: laid · FnExactFillByQueue: laid · FnExactFillBySinking: laid · FnExactSpillOf: laid · FnExactDepthsOf: laid.
  DERIVED. THE GIVEN ROWS OF THIS SEAT. 12 by the template 'for every input the law returns true; each argument reads behind the call as it read before'; 0 by the template 'total and deterministic' (their statements: YteojdpfhhbcjlaaDoorTotals.lean).
  GIVEN WITH THE SEED: the statements are not yours to turn. If you find one false, say at which input.
  Laid BY PROGRAM, IN A SANDBOX (cutbox-rows.mjs): the forced cells as the released guide's own fill.sh prints them over the translation 2abdd1945b863ecf… (all of the seat's roots in one cut). By AI agents, Wed Nov 11 2026. No macro, syntax, notation, axiom, sorry.
-/
import Derived.Test.YteojdpfhhbcjlaaDoorChecked
import GoSem.Claim
import GoSem.ClaimJoined
import GoSem.ClaimMapViews
import Derived.JoinedTies
import Derived.KernelRfl
namespace Go.Proofs.YteojdpfhhbcjlaaDoor
/- THE CELL 'sum', in the pinned program and in every row, IS THE sha256 OF THE DUMP (.gsa) THAT YteojdpfhhbcjlaaDoorProg.lean LOADS. Nothing in Lean hashes anything: it is a label: what it is worth is what the hold of that sum in a sandbox is worth. -/
noncomputable def Tryd.pinned : Pinned := { name := "yteojdpfhhbcjlaadoor", sum := "2abdd1945b863ecf2b5d8989945c39d3d3df9e8c2e7f2b1304531a5a4340499c", checked := Tryd.checked }
namespace Rows
def none {H : Type} : Left H := { results := [], args := [] }

/- WHAT THE LISTED PACKAGE-LEVEL VARIABLES READ AS WHEN THE CALL BEGINS. Each datum BY PROGRAM (the guide's laid-datum.mjs) off the statement by which the dump's own 'gosem.cut.vars' lays the variable. In a bare row this is a premise. The card (YteojdpfhhbcjlaaDoorCards.lean) ties it to the program's text. -/
def laid_loop_example_wateronheights_impl_steps {H : Type} : DataW H := .agg [.agg [.lit (.int .i64 (-1)), .lit (.int .i64 0)], .agg [.lit (.int .i64 0), .lit (.int .i64 (-1))], .agg [.lit (.int .i64 0), .lit (.int .i64 1)], .agg [.lit (.int .i64 1), .lit (.int .i64 0)]]

/-- 'laws.FnFlatsOf': WHATEVER THE INPUT: true; the input reads as it did. -/
def fnFlatsOfSpec : ChangeSpec := { name := "fnFlatsOf", vars := ["loop.example/wateronheights/impl.steps"], fn := fun _ => fun
  | [d, g1] => { results := [.lit (.bool true)], args := [d], vars := [g1] }
  | _ => none }
def fnFlatsOfRow : OpenClaim := { program := "yteojdpfhhbcjlaadoor", sum := "2abdd1945b863ecf2b5d8989945c39d3d3df9e8c2e7f2b1304531a5a4340499c", func := "loop.example/wateronheights/laws.FnFlatsOf", spec := "fnFlatsOf", unfollowed := true, recurses := true, named := ["loop.example/wateronheights/impl.steps"], apart := false, laid := [("loop.example/wateronheights/impl.steps", laid_loop_example_wateronheights_impl_steps)] }
def FnFlatsOfSaid : Prop := fnFlatsOfRow.holds Tryd.pinned (OpenSpec.ofChange fnFlatsOfSpec)

/-- ITS FALSE NEIGHBOUR: 'it returns false'. Refute it at one input. -/
def fnFlatsOfWrong : ChangeSpec := { name := "fnFlatsOf", vars := ["loop.example/wateronheights/impl.steps"], fn := fun _ => fun
  | [d, g1] => { results := [.lit (.bool false)], args := [d], vars := [g1] }
  | _ => none }
def FnFlatsOfWrongFalsely : Prop := fnFlatsOfRow.holds Tryd.pinned (OpenSpec.ofChange fnFlatsOfWrong)

/-- 'laws.FnPeaksOf': WHATEVER THE INPUT: true; the input reads as it did. -/
def fnPeaksOfSpec : ChangeSpec := { name := "fnPeaksOf", vars := ["loop.example/wateronheights/impl.steps"], fn := fun _ => fun
  | [d, g1] => { results := [.lit (.bool true)], args := [d], vars := [g1] }
  | _ => none }
def fnPeaksOfRow : OpenClaim := { program := "yteojdpfhhbcjlaadoor", sum := "2abdd1945b863ecf2b5d8989945c39d3d3df9e8c2e7f2b1304531a5a4340499c", func := "loop.example/wateronheights/laws.FnPeaksOf", spec := "fnPeaksOf", unfollowed := true, recurses := true, named := ["loop.example/wateronheights/impl.steps"], apart := false, laid := [("loop.example/wateronheights/impl.steps", laid_loop_example_wateronheights_impl_steps)] }
def FnPeaksOfSaid : Prop := fnPeaksOfRow.holds Tryd.pinned (OpenSpec.ofChange fnPeaksOfSpec)

/-- ITS FALSE NEIGHBOUR: 'it returns false'. Refute it at one input. -/
def fnPeaksOfWrong : ChangeSpec := { name := "fnPeaksOf", vars := ["loop.example/wateronheights/impl.steps"], fn := fun _ => fun
  | [d, g1] => { results := [.lit (.bool false)], args := [d], vars := [g1] }
  | _ => none }
def FnPeaksOfWrongFalsely : Prop := fnPeaksOfRow.holds Tryd.pinned (OpenSpec.ofChange fnPeaksOfWrong)

/-- 'laws.FnPitsOf': WHATEVER THE INPUT: true; the input reads as it did. -/
def fnPitsOfSpec : ChangeSpec := { name := "fnPitsOf", vars := ["loop.example/wateronheights/impl.steps"], fn := fun _ => fun
  | [d, g1] => { results := [.lit (.bool true)], args := [d], vars := [g1] }
  | _ => none }
def fnPitsOfRow : OpenClaim := { program := "yteojdpfhhbcjlaadoor", sum := "2abdd1945b863ecf2b5d8989945c39d3d3df9e8c2e7f2b1304531a5a4340499c", func := "loop.example/wateronheights/laws.FnPitsOf", spec := "fnPitsOf", unfollowed := true, recurses := true, named := ["loop.example/wateronheights/impl.steps"], apart := false, laid := [("loop.example/wateronheights/impl.steps", laid_loop_example_wateronheights_impl_steps)] }
def FnPitsOfSaid : Prop := fnPitsOfRow.holds Tryd.pinned (OpenSpec.ofChange fnPitsOfSpec)

/-- ITS FALSE NEIGHBOUR: 'it returns false'. Refute it at one input. -/
def fnPitsOfWrong : ChangeSpec := { name := "fnPitsOf", vars := ["loop.example/wateronheights/impl.steps"], fn := fun _ => fun
  | [d, g1] => { results := [.lit (.bool false)], args := [d], vars := [g1] }
  | _ => none }
def FnPitsOfWrongFalsely : Prop := fnPitsOfRow.holds Tryd.pinned (OpenSpec.ofChange fnPitsOfWrong)

/-- 'laws.FnFillByQueue': WHATEVER THE INPUT: true; the input reads as it did. -/
def fnFillByQueueSpec : ChangeSpec := { name := "fnFillByQueue", vars := ["loop.example/wateronheights/impl.steps"], fn := fun _ => fun
  | [d, g1] => { results := [.lit (.bool true)], args := [d], vars := [g1] }
  | _ => none }
def fnFillByQueueRow : OpenClaim := { program := "yteojdpfhhbcjlaadoor", sum := "2abdd1945b863ecf2b5d8989945c39d3d3df9e8c2e7f2b1304531a5a4340499c", func := "loop.example/wateronheights/laws.FnFillByQueue", spec := "fnFillByQueue", inPlace := ["slices.overlaps[loop.example/wateronheights/impl.standing]"], unfollowed := true, recurses := true, named := ["loop.example/wateronheights/impl.steps"], apart := false, laid := [("loop.example/wateronheights/impl.steps", laid_loop_example_wateronheights_impl_steps)] }
def FnFillByQueueSaid : Prop := fnFillByQueueRow.holds Tryd.pinned (OpenSpec.ofChange fnFillByQueueSpec)

/-- ITS FALSE NEIGHBOUR: 'it returns false'. Refute it at one input. -/
def fnFillByQueueWrong : ChangeSpec := { name := "fnFillByQueue", vars := ["loop.example/wateronheights/impl.steps"], fn := fun _ => fun
  | [d, g1] => { results := [.lit (.bool false)], args := [d], vars := [g1] }
  | _ => none }
def FnFillByQueueWrongFalsely : Prop := fnFillByQueueRow.holds Tryd.pinned (OpenSpec.ofChange fnFillByQueueWrong)

/-- 'laws.FnFillBySinking': WHATEVER THE INPUT: true; the input reads as it did. -/
def fnFillBySinkingSpec : ChangeSpec := { name := "fnFillBySinking", vars := ["loop.example/wateronheights/impl.steps"], fn := fun _ => fun
  | [d, g1] => { results := [.lit (.bool true)], args := [d], vars := [g1] }
  | _ => none }
def fnFillBySinkingRow : OpenClaim := { program := "yteojdpfhhbcjlaadoor", sum := "2abdd1945b863ecf2b5d8989945c39d3d3df9e8c2e7f2b1304531a5a4340499c", func := "loop.example/wateronheights/laws.FnFillBySinking", spec := "fnFillBySinking", unfollowed := true, recurses := true, named := ["loop.example/wateronheights/impl.steps"], apart := false, laid := [("loop.example/wateronheights/impl.steps", laid_loop_example_wateronheights_impl_steps)] }
def FnFillBySinkingSaid : Prop := fnFillBySinkingRow.holds Tryd.pinned (OpenSpec.ofChange fnFillBySinkingSpec)

/-- ITS FALSE NEIGHBOUR: 'it returns false'. Refute it at one input. -/
def fnFillBySinkingWrong : ChangeSpec := { name := "fnFillBySinking", vars := ["loop.example/wateronheights/impl.steps"], fn := fun _ => fun
  | [d, g1] => { results := [.lit (.bool false)], args := [d], vars := [g1] }
  | _ => none }
def FnFillBySinkingWrongFalsely : Prop := fnFillBySinkingRow.holds Tryd.pinned (OpenSpec.ofChange fnFillBySinkingWrong)

/-- 'laws.FnExactFlatsOf': WHATEVER THE INPUT: true; the input reads as it did. -/
def fnExactFlatsOfSpec : ChangeSpec := { name := "fnExactFlatsOf", vars := ["loop.example/wateronheights/impl.steps"], fn := fun _ => fun
  | [d, g1] => { results := [.lit (.bool true)], args := [d], vars := [g1] }
  | _ => none }
def fnExactFlatsOfRow : OpenClaim := { program := "yteojdpfhhbcjlaadoor", sum := "2abdd1945b863ecf2b5d8989945c39d3d3df9e8c2e7f2b1304531a5a4340499c", func := "loop.example/wateronheights/laws.FnExactFlatsOf", spec := "fnExactFlatsOf", unfollowed := true, recurses := true, named := ["loop.example/wateronheights/impl.steps"], apart := false, laid := [("loop.example/wateronheights/impl.steps", laid_loop_example_wateronheights_impl_steps)] }
def FnExactFlatsOfSaid : Prop := fnExactFlatsOfRow.holds Tryd.pinned (OpenSpec.ofChange fnExactFlatsOfSpec)

/-- ITS FALSE NEIGHBOUR: 'it returns false'. Refute it at one input. -/
def fnExactFlatsOfWrong : ChangeSpec := { name := "fnExactFlatsOf", vars := ["loop.example/wateronheights/impl.steps"], fn := fun _ => fun
  | [d, g1] => { results := [.lit (.bool false)], args := [d], vars := [g1] }
  | _ => none }
def FnExactFlatsOfWrongFalsely : Prop := fnExactFlatsOfRow.holds Tryd.pinned (OpenSpec.ofChange fnExactFlatsOfWrong)

/-- 'laws.FnExactPeaksOf': WHATEVER THE INPUT: true; the input reads as it did. -/
def fnExactPeaksOfSpec : ChangeSpec := { name := "fnExactPeaksOf", vars := ["loop.example/wateronheights/impl.steps"], fn := fun _ => fun
  | [d, g1] => { results := [.lit (.bool true)], args := [d], vars := [g1] }
  | _ => none }
def fnExactPeaksOfRow : OpenClaim := { program := "yteojdpfhhbcjlaadoor", sum := "2abdd1945b863ecf2b5d8989945c39d3d3df9e8c2e7f2b1304531a5a4340499c", func := "loop.example/wateronheights/laws.FnExactPeaksOf", spec := "fnExactPeaksOf", unfollowed := true, recurses := true, named := ["loop.example/wateronheights/impl.steps"], apart := false, laid := [("loop.example/wateronheights/impl.steps", laid_loop_example_wateronheights_impl_steps)] }
def FnExactPeaksOfSaid : Prop := fnExactPeaksOfRow.holds Tryd.pinned (OpenSpec.ofChange fnExactPeaksOfSpec)

/-- ITS FALSE NEIGHBOUR: 'it returns false'. Refute it at one input. -/
def fnExactPeaksOfWrong : ChangeSpec := { name := "fnExactPeaksOf", vars := ["loop.example/wateronheights/impl.steps"], fn := fun _ => fun
  | [d, g1] => { results := [.lit (.bool false)], args := [d], vars := [g1] }
  | _ => none }
def FnExactPeaksOfWrongFalsely : Prop := fnExactPeaksOfRow.holds Tryd.pinned (OpenSpec.ofChange fnExactPeaksOfWrong)

/-- 'laws.FnExactPitsOf': WHATEVER THE INPUT: true; the input reads as it did. -/
def fnExactPitsOfSpec : ChangeSpec := { name := "fnExactPitsOf", vars := ["loop.example/wateronheights/impl.steps"], fn := fun _ => fun
  | [d, g1] => { results := [.lit (.bool true)], args := [d], vars := [g1] }
  | _ => none }
def fnExactPitsOfRow : OpenClaim := { program := "yteojdpfhhbcjlaadoor", sum := "2abdd1945b863ecf2b5d8989945c39d3d3df9e8c2e7f2b1304531a5a4340499c", func := "loop.example/wateronheights/laws.FnExactPitsOf", spec := "fnExactPitsOf", unfollowed := true, recurses := true, named := ["loop.example/wateronheights/impl.steps"], apart := false, laid := [("loop.example/wateronheights/impl.steps", laid_loop_example_wateronheights_impl_steps)] }
def FnExactPitsOfSaid : Prop := fnExactPitsOfRow.holds Tryd.pinned (OpenSpec.ofChange fnExactPitsOfSpec)

/-- ITS FALSE NEIGHBOUR: 'it returns false'. Refute it at one input. -/
def fnExactPitsOfWrong : ChangeSpec := { name := "fnExactPitsOf", vars := ["loop.example/wateronheights/impl.steps"], fn := fun _ => fun
  | [d, g1] => { results := [.lit (.bool false)], args := [d], vars := [g1] }
  | _ => none }
def FnExactPitsOfWrongFalsely : Prop := fnExactPitsOfRow.holds Tryd.pinned (OpenSpec.ofChange fnExactPitsOfWrong)

/-- 'laws.FnExactFillByQueue': WHATEVER THE INPUT: true; the input reads as it did. -/
def fnExactFillByQueueSpec : ChangeSpec := { name := "fnExactFillByQueue", vars := ["loop.example/wateronheights/impl.steps"], fn := fun _ => fun
  | [d, g1] => { results := [.lit (.bool true)], args := [d], vars := [g1] }
  | _ => none }
def fnExactFillByQueueRow : OpenClaim := { program := "yteojdpfhhbcjlaadoor", sum := "2abdd1945b863ecf2b5d8989945c39d3d3df9e8c2e7f2b1304531a5a4340499c", func := "loop.example/wateronheights/laws.FnExactFillByQueue", spec := "fnExactFillByQueue", inPlace := ["slices.overlaps[loop.example/wateronheights/impl.standing]"], unfollowed := true, recurses := true, named := ["loop.example/wateronheights/impl.steps"], apart := false, laid := [("loop.example/wateronheights/impl.steps", laid_loop_example_wateronheights_impl_steps)] }
def FnExactFillByQueueSaid : Prop := fnExactFillByQueueRow.holds Tryd.pinned (OpenSpec.ofChange fnExactFillByQueueSpec)

/-- ITS FALSE NEIGHBOUR: 'it returns false'. Refute it at one input. -/
def fnExactFillByQueueWrong : ChangeSpec := { name := "fnExactFillByQueue", vars := ["loop.example/wateronheights/impl.steps"], fn := fun _ => fun
  | [d, g1] => { results := [.lit (.bool false)], args := [d], vars := [g1] }
  | _ => none }
def FnExactFillByQueueWrongFalsely : Prop := fnExactFillByQueueRow.holds Tryd.pinned (OpenSpec.ofChange fnExactFillByQueueWrong)

/-- 'laws.FnExactFillBySinking': WHATEVER THE INPUT: true; the input reads as it did. -/
def fnExactFillBySinkingSpec : ChangeSpec := { name := "fnExactFillBySinking", vars := ["loop.example/wateronheights/impl.steps"], fn := fun _ => fun
  | [d, g1] => { results := [.lit (.bool true)], args := [d], vars := [g1] }
  | _ => none }
def fnExactFillBySinkingRow : OpenClaim := { program := "yteojdpfhhbcjlaadoor", sum := "2abdd1945b863ecf2b5d8989945c39d3d3df9e8c2e7f2b1304531a5a4340499c", func := "loop.example/wateronheights/laws.FnExactFillBySinking", spec := "fnExactFillBySinking", unfollowed := true, recurses := true, named := ["loop.example/wateronheights/impl.steps"], apart := false, laid := [("loop.example/wateronheights/impl.steps", laid_loop_example_wateronheights_impl_steps)] }
def FnExactFillBySinkingSaid : Prop := fnExactFillBySinkingRow.holds Tryd.pinned (OpenSpec.ofChange fnExactFillBySinkingSpec)

/-- ITS FALSE NEIGHBOUR: 'it returns false'. Refute it at one input. -/
def fnExactFillBySinkingWrong : ChangeSpec := { name := "fnExactFillBySinking", vars := ["loop.example/wateronheights/impl.steps"], fn := fun _ => fun
  | [d, g1] => { results := [.lit (.bool false)], args := [d], vars := [g1] }
  | _ => none }
def FnExactFillBySinkingWrongFalsely : Prop := fnExactFillBySinkingRow.holds Tryd.pinned (OpenSpec.ofChange fnExactFillBySinkingWrong)

/-- 'laws.FnExactSpillOf': WHATEVER THE INPUT: true; the input reads as it did. -/
def fnExactSpillOfSpec : ChangeSpec := { name := "fnExactSpillOf", vars := ["loop.example/wateronheights/impl.steps"], fn := fun _ => fun
  | [d1, d2, g1] => { results := [.lit (.bool true)], args := [d1, d2], vars := [g1] }
  | _ => none }
def fnExactSpillOfRow : OpenClaim := { program := "yteojdpfhhbcjlaadoor", sum := "2abdd1945b863ecf2b5d8989945c39d3d3df9e8c2e7f2b1304531a5a4340499c", func := "loop.example/wateronheights/laws.FnExactSpillOf", spec := "fnExactSpillOf", unfollowed := true, recurses := true, named := ["loop.example/wateronheights/impl.steps"], apart := false, laid := [("loop.example/wateronheights/impl.steps", laid_loop_example_wateronheights_impl_steps)] }
def FnExactSpillOfSaid : Prop := fnExactSpillOfRow.holds Tryd.pinned (OpenSpec.ofChange fnExactSpillOfSpec)

/-- ITS FALSE NEIGHBOUR: 'it returns false'. Refute it at one input. -/
def fnExactSpillOfWrong : ChangeSpec := { name := "fnExactSpillOf", vars := ["loop.example/wateronheights/impl.steps"], fn := fun _ => fun
  | [d1, d2, g1] => { results := [.lit (.bool false)], args := [d1, d2], vars := [g1] }
  | _ => none }
def FnExactSpillOfWrongFalsely : Prop := fnExactSpillOfRow.holds Tryd.pinned (OpenSpec.ofChange fnExactSpillOfWrong)

/-- 'laws.FnExactDepthsOf': WHATEVER THE INPUT: true; the input reads as it did. -/
def fnExactDepthsOfSpec : ChangeSpec := { name := "fnExactDepthsOf", vars := ["loop.example/wateronheights/impl.steps"], fn := fun _ => fun
  | [d, g1] => { results := [.lit (.bool true)], args := [d], vars := [g1] }
  | _ => none }
def fnExactDepthsOfRow : OpenClaim := { program := "yteojdpfhhbcjlaadoor", sum := "2abdd1945b863ecf2b5d8989945c39d3d3df9e8c2e7f2b1304531a5a4340499c", func := "loop.example/wateronheights/laws.FnExactDepthsOf", spec := "fnExactDepthsOf", inPlace := ["slices.overlaps[loop.example/wateronheights/impl.standing]"], unfollowed := true, recurses := true, named := ["loop.example/wateronheights/impl.steps"], apart := false, laid := [("loop.example/wateronheights/impl.steps", laid_loop_example_wateronheights_impl_steps)] }
def FnExactDepthsOfSaid : Prop := fnExactDepthsOfRow.holds Tryd.pinned (OpenSpec.ofChange fnExactDepthsOfSpec)

/-- ITS FALSE NEIGHBOUR: 'it returns false'. Refute it at one input. -/
def fnExactDepthsOfWrong : ChangeSpec := { name := "fnExactDepthsOf", vars := ["loop.example/wateronheights/impl.steps"], fn := fun _ => fun
  | [d, g1] => { results := [.lit (.bool false)], args := [d], vars := [g1] }
  | _ => none }
def FnExactDepthsOfWrongFalsely : Prop := fnExactDepthsOfRow.holds Tryd.pinned (OpenSpec.ofChange fnExactDepthsOfWrong)

/- THE SECOND FORM. 'bulk': how many values and letters a reading holds, each counted each time it is reached (what is shared counts as often as it is met; a slice's spare places count too). A statement '..UptoSaid' is the law's where the arguments, and the package variables that the reading takes, are together of bulk at most 1048576: NARROWER than '..Said'. Prove '..Said' where nothing that the law and all that it calls make is longer than what came in: it says more and counts as full. Else prove '..UptoSaid'. A law counts once. -/
mutual
def uptoBulk {H : Type} : DataW H → Nat
  | .lit (.string bytes) => bytes.length + 1
  | .lit _ => 1
  | .nil => 1
  | .ptr d => uptoBulk d + 1
  | .slice elems spare => uptoBulkAll elems + uptoBulkAll spare + 1
  | .agg parts => uptoBulkAll parts + 1
  | .iface _ d => uptoBulk d + 1
  | .map entries => uptoBulkEntries entries + 1
  | .held _ => 1
def uptoBulkAll {H : Type} : List (DataW H) → Nat
  | [] => 0
  | d :: r => uptoBulk d + uptoBulkAll r
def uptoBulkEntries {H : Type} : List (Lit × DataW H) → Nat
  | [] => 0
  | x :: r => uptoBulkEntry x + uptoBulkEntries r
def uptoBulkEntry {H : Type} : Lit × DataW H → Nat
  | (.string bytes, d) => bytes.length + uptoBulk d + 1
  | (_, d) => uptoBulk d + 1
 end
def uptoSmall : (H : Type) → List (DataW H) → Bool := fun _ ds => decide (uptoBulkAll ds ≤ 1048576)
def OpenSpec.upto (s : _root_.Go.ChangeSpec) : _root_.Go.OpenSpec := { _root_.Go.OpenSpec.ofChange s with cond := some uptoSmall }

/-- 'laws.FnFlatsOf', WHERE WHAT IT READS IS OF BULK AT MOST 1048576: true; the input reads as it did. -/
def fnFlatsOfUptoRow : OpenClaim := { program := "yteojdpfhhbcjlaadoor", sum := "2abdd1945b863ecf2b5d8989945c39d3d3df9e8c2e7f2b1304531a5a4340499c", func := "loop.example/wateronheights/laws.FnFlatsOf", spec := "fnFlatsOf", unfollowed := true, recurses := true, named := ["loop.example/wateronheights/impl.steps"], apart := false, laid := [("loop.example/wateronheights/impl.steps", laid_loop_example_wateronheights_impl_steps)], narrowed := true }
def FnFlatsOfUptoSaid : Prop := fnFlatsOfUptoRow.holds Tryd.pinned (OpenSpec.upto fnFlatsOfSpec)

/-- 'laws.FnPeaksOf', WHERE WHAT IT READS IS OF BULK AT MOST 1048576: true; the input reads as it did. -/
def fnPeaksOfUptoRow : OpenClaim := { program := "yteojdpfhhbcjlaadoor", sum := "2abdd1945b863ecf2b5d8989945c39d3d3df9e8c2e7f2b1304531a5a4340499c", func := "loop.example/wateronheights/laws.FnPeaksOf", spec := "fnPeaksOf", unfollowed := true, recurses := true, named := ["loop.example/wateronheights/impl.steps"], apart := false, laid := [("loop.example/wateronheights/impl.steps", laid_loop_example_wateronheights_impl_steps)], narrowed := true }
def FnPeaksOfUptoSaid : Prop := fnPeaksOfUptoRow.holds Tryd.pinned (OpenSpec.upto fnPeaksOfSpec)

/-- 'laws.FnPitsOf', WHERE WHAT IT READS IS OF BULK AT MOST 1048576: true; the input reads as it did. -/
def fnPitsOfUptoRow : OpenClaim := { program := "yteojdpfhhbcjlaadoor", sum := "2abdd1945b863ecf2b5d8989945c39d3d3df9e8c2e7f2b1304531a5a4340499c", func := "loop.example/wateronheights/laws.FnPitsOf", spec := "fnPitsOf", unfollowed := true, recurses := true, named := ["loop.example/wateronheights/impl.steps"], apart := false, laid := [("loop.example/wateronheights/impl.steps", laid_loop_example_wateronheights_impl_steps)], narrowed := true }
def FnPitsOfUptoSaid : Prop := fnPitsOfUptoRow.holds Tryd.pinned (OpenSpec.upto fnPitsOfSpec)

/-- 'laws.FnFillByQueue', WHERE WHAT IT READS IS OF BULK AT MOST 1048576: true; the input reads as it did. -/
def fnFillByQueueUptoRow : OpenClaim := { program := "yteojdpfhhbcjlaadoor", sum := "2abdd1945b863ecf2b5d8989945c39d3d3df9e8c2e7f2b1304531a5a4340499c", func := "loop.example/wateronheights/laws.FnFillByQueue", spec := "fnFillByQueue", inPlace := ["slices.overlaps[loop.example/wateronheights/impl.standing]"], unfollowed := true, recurses := true, named := ["loop.example/wateronheights/impl.steps"], apart := false, laid := [("loop.example/wateronheights/impl.steps", laid_loop_example_wateronheights_impl_steps)], narrowed := true }
def FnFillByQueueUptoSaid : Prop := fnFillByQueueUptoRow.holds Tryd.pinned (OpenSpec.upto fnFillByQueueSpec)

/-- 'laws.FnFillBySinking', WHERE WHAT IT READS IS OF BULK AT MOST 1048576: true; the input reads as it did. -/
def fnFillBySinkingUptoRow : OpenClaim := { program := "yteojdpfhhbcjlaadoor", sum := "2abdd1945b863ecf2b5d8989945c39d3d3df9e8c2e7f2b1304531a5a4340499c", func := "loop.example/wateronheights/laws.FnFillBySinking", spec := "fnFillBySinking", unfollowed := true, recurses := true, named := ["loop.example/wateronheights/impl.steps"], apart := false, laid := [("loop.example/wateronheights/impl.steps", laid_loop_example_wateronheights_impl_steps)], narrowed := true }
def FnFillBySinkingUptoSaid : Prop := fnFillBySinkingUptoRow.holds Tryd.pinned (OpenSpec.upto fnFillBySinkingSpec)

/-- 'laws.FnExactFlatsOf', WHERE WHAT IT READS IS OF BULK AT MOST 1048576: true; the input reads as it did. -/
def fnExactFlatsOfUptoRow : OpenClaim := { program := "yteojdpfhhbcjlaadoor", sum := "2abdd1945b863ecf2b5d8989945c39d3d3df9e8c2e7f2b1304531a5a4340499c", func := "loop.example/wateronheights/laws.FnExactFlatsOf", spec := "fnExactFlatsOf", unfollowed := true, recurses := true, named := ["loop.example/wateronheights/impl.steps"], apart := false, laid := [("loop.example/wateronheights/impl.steps", laid_loop_example_wateronheights_impl_steps)], narrowed := true }
def FnExactFlatsOfUptoSaid : Prop := fnExactFlatsOfUptoRow.holds Tryd.pinned (OpenSpec.upto fnExactFlatsOfSpec)

/-- 'laws.FnExactPeaksOf', WHERE WHAT IT READS IS OF BULK AT MOST 1048576: true; the input reads as it did. -/
def fnExactPeaksOfUptoRow : OpenClaim := { program := "yteojdpfhhbcjlaadoor", sum := "2abdd1945b863ecf2b5d8989945c39d3d3df9e8c2e7f2b1304531a5a4340499c", func := "loop.example/wateronheights/laws.FnExactPeaksOf", spec := "fnExactPeaksOf", unfollowed := true, recurses := true, named := ["loop.example/wateronheights/impl.steps"], apart := false, laid := [("loop.example/wateronheights/impl.steps", laid_loop_example_wateronheights_impl_steps)], narrowed := true }
def FnExactPeaksOfUptoSaid : Prop := fnExactPeaksOfUptoRow.holds Tryd.pinned (OpenSpec.upto fnExactPeaksOfSpec)

/-- 'laws.FnExactPitsOf', WHERE WHAT IT READS IS OF BULK AT MOST 1048576: true; the input reads as it did. -/
def fnExactPitsOfUptoRow : OpenClaim := { program := "yteojdpfhhbcjlaadoor", sum := "2abdd1945b863ecf2b5d8989945c39d3d3df9e8c2e7f2b1304531a5a4340499c", func := "loop.example/wateronheights/laws.FnExactPitsOf", spec := "fnExactPitsOf", unfollowed := true, recurses := true, named := ["loop.example/wateronheights/impl.steps"], apart := false, laid := [("loop.example/wateronheights/impl.steps", laid_loop_example_wateronheights_impl_steps)], narrowed := true }
def FnExactPitsOfUptoSaid : Prop := fnExactPitsOfUptoRow.holds Tryd.pinned (OpenSpec.upto fnExactPitsOfSpec)

/-- 'laws.FnExactFillByQueue', WHERE WHAT IT READS IS OF BULK AT MOST 1048576: true; the input reads as it did. -/
def fnExactFillByQueueUptoRow : OpenClaim := { program := "yteojdpfhhbcjlaadoor", sum := "2abdd1945b863ecf2b5d8989945c39d3d3df9e8c2e7f2b1304531a5a4340499c", func := "loop.example/wateronheights/laws.FnExactFillByQueue", spec := "fnExactFillByQueue", inPlace := ["slices.overlaps[loop.example/wateronheights/impl.standing]"], unfollowed := true, recurses := true, named := ["loop.example/wateronheights/impl.steps"], apart := false, laid := [("loop.example/wateronheights/impl.steps", laid_loop_example_wateronheights_impl_steps)], narrowed := true }
def FnExactFillByQueueUptoSaid : Prop := fnExactFillByQueueUptoRow.holds Tryd.pinned (OpenSpec.upto fnExactFillByQueueSpec)

/-- 'laws.FnExactFillBySinking', WHERE WHAT IT READS IS OF BULK AT MOST 1048576: true; the input reads as it did. -/
def fnExactFillBySinkingUptoRow : OpenClaim := { program := "yteojdpfhhbcjlaadoor", sum := "2abdd1945b863ecf2b5d8989945c39d3d3df9e8c2e7f2b1304531a5a4340499c", func := "loop.example/wateronheights/laws.FnExactFillBySinking", spec := "fnExactFillBySinking", unfollowed := true, recurses := true, named := ["loop.example/wateronheights/impl.steps"], apart := false, laid := [("loop.example/wateronheights/impl.steps", laid_loop_example_wateronheights_impl_steps)], narrowed := true }
def FnExactFillBySinkingUptoSaid : Prop := fnExactFillBySinkingUptoRow.holds Tryd.pinned (OpenSpec.upto fnExactFillBySinkingSpec)

/-- 'laws.FnExactSpillOf', WHERE WHAT IT READS IS OF BULK AT MOST 1048576: true; the input reads as it did. -/
def fnExactSpillOfUptoRow : OpenClaim := { program := "yteojdpfhhbcjlaadoor", sum := "2abdd1945b863ecf2b5d8989945c39d3d3df9e8c2e7f2b1304531a5a4340499c", func := "loop.example/wateronheights/laws.FnExactSpillOf", spec := "fnExactSpillOf", unfollowed := true, recurses := true, named := ["loop.example/wateronheights/impl.steps"], apart := false, laid := [("loop.example/wateronheights/impl.steps", laid_loop_example_wateronheights_impl_steps)], narrowed := true }
def FnExactSpillOfUptoSaid : Prop := fnExactSpillOfUptoRow.holds Tryd.pinned (OpenSpec.upto fnExactSpillOfSpec)

/-- 'laws.FnExactDepthsOf', WHERE WHAT IT READS IS OF BULK AT MOST 1048576: true; the input reads as it did. -/
def fnExactDepthsOfUptoRow : OpenClaim := { program := "yteojdpfhhbcjlaadoor", sum := "2abdd1945b863ecf2b5d8989945c39d3d3df9e8c2e7f2b1304531a5a4340499c", func := "loop.example/wateronheights/laws.FnExactDepthsOf", spec := "fnExactDepthsOf", inPlace := ["slices.overlaps[loop.example/wateronheights/impl.standing]"], unfollowed := true, recurses := true, named := ["loop.example/wateronheights/impl.steps"], apart := false, laid := [("loop.example/wateronheights/impl.steps", laid_loop_example_wateronheights_impl_steps)], narrowed := true }
def FnExactDepthsOfUptoSaid : Prop := fnExactDepthsOfUptoRow.holds Tryd.pinned (OpenSpec.upto fnExactDepthsOfSpec)

end Rows
end Go.Proofs.YteojdpfhhbcjlaaDoor
