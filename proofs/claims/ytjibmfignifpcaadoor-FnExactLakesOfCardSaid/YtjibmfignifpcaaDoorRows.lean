/-
  NARROWER THAN 'FOR EVERY INPUT', by the rows' own cells (each row's printed sentence says how): FnFillByQueue: laid · FnExactFillByQueue: laid · FnDepthsOf: laid · FnExactDepthsOf: laid · FnWaterOf: laid · FnExactWaterOf: laid · FnLakesOf: laid · FnExactLakesOf: laid · FnLakesHoldAll: laid · FnHigherFillsHigher: laid · FnFlowOf: laid · FnExactFlowOf: laid.
  DERIVED. THE GIVEN ROWS OF THIS SEAT. 12 by the template 'for every input the law returns true; each argument reads behind the call as it read before'; 0 by the template 'total and deterministic' (their statements: YtjibmfignifpcaaDoorTotals.lean).
  GIVEN WITH THE SEED: the statements are not yours to turn. If you find one false, say at which input.
  Laid BY PROGRAM, IN A SANDBOX (cutbox-rows.mjs): the forced cells as the released guide's own fill.sh prints them over the translation f4150167bfb29c0a… (all of the seat's roots in one cut). By AI agents, Wed Nov 11 2026. No macro, syntax, notation, axiom, sorry.
-/
import Derived.Test.YtjibmfignifpcaaDoorChecked
import GoSem.Claim
import GoSem.ClaimJoined
import GoSem.ClaimMapViews
import Derived.JoinedTies
import Derived.KernelRfl
namespace Go.Proofs.YtjibmfignifpcaaDoor
/- THE CELL 'sum', in the pinned program and in every row, IS THE sha256 OF THE DUMP (.gsa) THAT YtjibmfignifpcaaDoorProg.lean LOADS. Nothing in Lean hashes anything: it is a label: what it is worth is what the hold of that sum in a sandbox is worth. -/
noncomputable def Tryd.pinned : Pinned := { name := "ytjibmfignifpcaadoor", sum := "f4150167bfb29c0a5efd21588810a6b415377c49fb5c53c4297c7439d7ad8765", checked := Tryd.checked }
namespace Rows
def none {H : Type} : Left H := { results := [], args := [] }

/- WHAT THE LISTED PACKAGE-LEVEL VARIABLES READ AS WHEN THE CALL BEGINS. Each datum BY PROGRAM (the guide's laid-datum.mjs) off the statement by which the dump's own 'gosem.cut.vars' lays the variable. In a bare row this is a premise. The card (YtjibmfignifpcaaDoorCards.lean) ties it to the program's text. -/
def laid_loop_example_wateronheights_impl_steps {H : Type} : DataW H := .agg [.agg [.lit (.int .i64 (-1)), .lit (.int .i64 0)], .agg [.lit (.int .i64 0), .lit (.int .i64 (-1))], .agg [.lit (.int .i64 0), .lit (.int .i64 1)], .agg [.lit (.int .i64 1), .lit (.int .i64 0)]]

/-- 'laws.FnFillByQueue': WHATEVER THE INPUT: true; the input reads as it did. -/
def fnFillByQueueSpec : ChangeSpec := { name := "fnFillByQueue", vars := ["loop.example/wateronheights/impl.steps"], fn := fun _ => fun
  | [d, g1] => { results := [.lit (.bool true)], args := [d], vars := [g1] }
  | _ => none }
def fnFillByQueueRow : OpenClaim := { program := "ytjibmfignifpcaadoor", sum := "f4150167bfb29c0a5efd21588810a6b415377c49fb5c53c4297c7439d7ad8765", func := "loop.example/wateronheights/laws.FnFillByQueue", spec := "fnFillByQueue", inPlace := ["slices.overlaps[loop.example/wateronheights/impl.standing]"], unfollowed := true, recurses := true, named := ["loop.example/wateronheights/impl.steps"], apart := false, laid := [("loop.example/wateronheights/impl.steps", laid_loop_example_wateronheights_impl_steps)] }
def FnFillByQueueSaid : Prop := fnFillByQueueRow.holds Tryd.pinned (OpenSpec.ofChange fnFillByQueueSpec)

/-- ITS FALSE NEIGHBOUR: 'it returns false'. Refute it at one input. -/
def fnFillByQueueWrong : ChangeSpec := { name := "fnFillByQueue", vars := ["loop.example/wateronheights/impl.steps"], fn := fun _ => fun
  | [d, g1] => { results := [.lit (.bool false)], args := [d], vars := [g1] }
  | _ => none }
def FnFillByQueueWrongFalsely : Prop := fnFillByQueueRow.holds Tryd.pinned (OpenSpec.ofChange fnFillByQueueWrong)

/-- 'laws.FnExactFillByQueue': WHATEVER THE INPUT: true; the input reads as it did. -/
def fnExactFillByQueueSpec : ChangeSpec := { name := "fnExactFillByQueue", vars := ["loop.example/wateronheights/impl.steps"], fn := fun _ => fun
  | [d, g1] => { results := [.lit (.bool true)], args := [d], vars := [g1] }
  | _ => none }
def fnExactFillByQueueRow : OpenClaim := { program := "ytjibmfignifpcaadoor", sum := "f4150167bfb29c0a5efd21588810a6b415377c49fb5c53c4297c7439d7ad8765", func := "loop.example/wateronheights/laws.FnExactFillByQueue", spec := "fnExactFillByQueue", inPlace := ["slices.overlaps[loop.example/wateronheights/impl.standing]"], unfollowed := true, recurses := true, named := ["loop.example/wateronheights/impl.steps"], apart := false, laid := [("loop.example/wateronheights/impl.steps", laid_loop_example_wateronheights_impl_steps)] }
def FnExactFillByQueueSaid : Prop := fnExactFillByQueueRow.holds Tryd.pinned (OpenSpec.ofChange fnExactFillByQueueSpec)

/-- ITS FALSE NEIGHBOUR: 'it returns false'. Refute it at one input. -/
def fnExactFillByQueueWrong : ChangeSpec := { name := "fnExactFillByQueue", vars := ["loop.example/wateronheights/impl.steps"], fn := fun _ => fun
  | [d, g1] => { results := [.lit (.bool false)], args := [d], vars := [g1] }
  | _ => none }
def FnExactFillByQueueWrongFalsely : Prop := fnExactFillByQueueRow.holds Tryd.pinned (OpenSpec.ofChange fnExactFillByQueueWrong)

/-- 'laws.FnDepthsOf': WHATEVER THE INPUT: true; the input reads as it did. -/
def fnDepthsOfSpec : ChangeSpec := { name := "fnDepthsOf", vars := ["loop.example/wateronheights/impl.steps"], fn := fun _ => fun
  | [d, g1] => { results := [.lit (.bool true)], args := [d], vars := [g1] }
  | _ => none }
def fnDepthsOfRow : OpenClaim := { program := "ytjibmfignifpcaadoor", sum := "f4150167bfb29c0a5efd21588810a6b415377c49fb5c53c4297c7439d7ad8765", func := "loop.example/wateronheights/laws.FnDepthsOf", spec := "fnDepthsOf", inPlace := ["slices.overlaps[loop.example/wateronheights/impl.standing]"], unfollowed := true, recurses := true, named := ["loop.example/wateronheights/impl.steps"], apart := false, laid := [("loop.example/wateronheights/impl.steps", laid_loop_example_wateronheights_impl_steps)] }
def FnDepthsOfSaid : Prop := fnDepthsOfRow.holds Tryd.pinned (OpenSpec.ofChange fnDepthsOfSpec)

/-- ITS FALSE NEIGHBOUR: 'it returns false'. Refute it at one input. -/
def fnDepthsOfWrong : ChangeSpec := { name := "fnDepthsOf", vars := ["loop.example/wateronheights/impl.steps"], fn := fun _ => fun
  | [d, g1] => { results := [.lit (.bool false)], args := [d], vars := [g1] }
  | _ => none }
def FnDepthsOfWrongFalsely : Prop := fnDepthsOfRow.holds Tryd.pinned (OpenSpec.ofChange fnDepthsOfWrong)

/-- 'laws.FnExactDepthsOf': WHATEVER THE INPUT: true; the input reads as it did. -/
def fnExactDepthsOfSpec : ChangeSpec := { name := "fnExactDepthsOf", vars := ["loop.example/wateronheights/impl.steps"], fn := fun _ => fun
  | [d, g1] => { results := [.lit (.bool true)], args := [d], vars := [g1] }
  | _ => none }
def fnExactDepthsOfRow : OpenClaim := { program := "ytjibmfignifpcaadoor", sum := "f4150167bfb29c0a5efd21588810a6b415377c49fb5c53c4297c7439d7ad8765", func := "loop.example/wateronheights/laws.FnExactDepthsOf", spec := "fnExactDepthsOf", inPlace := ["slices.overlaps[loop.example/wateronheights/impl.standing]"], unfollowed := true, recurses := true, named := ["loop.example/wateronheights/impl.steps"], apart := false, laid := [("loop.example/wateronheights/impl.steps", laid_loop_example_wateronheights_impl_steps)] }
def FnExactDepthsOfSaid : Prop := fnExactDepthsOfRow.holds Tryd.pinned (OpenSpec.ofChange fnExactDepthsOfSpec)

/-- ITS FALSE NEIGHBOUR: 'it returns false'. Refute it at one input. -/
def fnExactDepthsOfWrong : ChangeSpec := { name := "fnExactDepthsOf", vars := ["loop.example/wateronheights/impl.steps"], fn := fun _ => fun
  | [d, g1] => { results := [.lit (.bool false)], args := [d], vars := [g1] }
  | _ => none }
def FnExactDepthsOfWrongFalsely : Prop := fnExactDepthsOfRow.holds Tryd.pinned (OpenSpec.ofChange fnExactDepthsOfWrong)

/-- 'laws.FnWaterOf': WHATEVER THE INPUT: true; the input reads as it did. -/
def fnWaterOfSpec : ChangeSpec := { name := "fnWaterOf", vars := ["loop.example/wateronheights/impl.steps"], fn := fun _ => fun
  | [d, g1] => { results := [.lit (.bool true)], args := [d], vars := [g1] }
  | _ => none }
def fnWaterOfRow : OpenClaim := { program := "ytjibmfignifpcaadoor", sum := "f4150167bfb29c0a5efd21588810a6b415377c49fb5c53c4297c7439d7ad8765", func := "loop.example/wateronheights/laws.FnWaterOf", spec := "fnWaterOf", inPlace := ["slices.overlaps[loop.example/wateronheights/impl.standing]"], unfollowed := true, recurses := true, named := ["loop.example/wateronheights/impl.steps"], apart := false, laid := [("loop.example/wateronheights/impl.steps", laid_loop_example_wateronheights_impl_steps)] }
def FnWaterOfSaid : Prop := fnWaterOfRow.holds Tryd.pinned (OpenSpec.ofChange fnWaterOfSpec)

/-- ITS FALSE NEIGHBOUR: 'it returns false'. Refute it at one input. -/
def fnWaterOfWrong : ChangeSpec := { name := "fnWaterOf", vars := ["loop.example/wateronheights/impl.steps"], fn := fun _ => fun
  | [d, g1] => { results := [.lit (.bool false)], args := [d], vars := [g1] }
  | _ => none }
def FnWaterOfWrongFalsely : Prop := fnWaterOfRow.holds Tryd.pinned (OpenSpec.ofChange fnWaterOfWrong)

/-- 'laws.FnExactWaterOf': WHATEVER THE INPUT: true; the input reads as it did. -/
def fnExactWaterOfSpec : ChangeSpec := { name := "fnExactWaterOf", vars := ["loop.example/wateronheights/impl.steps"], fn := fun _ => fun
  | [d, g1] => { results := [.lit (.bool true)], args := [d], vars := [g1] }
  | _ => none }
def fnExactWaterOfRow : OpenClaim := { program := "ytjibmfignifpcaadoor", sum := "f4150167bfb29c0a5efd21588810a6b415377c49fb5c53c4297c7439d7ad8765", func := "loop.example/wateronheights/laws.FnExactWaterOf", spec := "fnExactWaterOf", inPlace := ["slices.overlaps[loop.example/wateronheights/impl.standing]"], unfollowed := true, recurses := true, named := ["loop.example/wateronheights/impl.steps"], apart := false, laid := [("loop.example/wateronheights/impl.steps", laid_loop_example_wateronheights_impl_steps)] }
def FnExactWaterOfSaid : Prop := fnExactWaterOfRow.holds Tryd.pinned (OpenSpec.ofChange fnExactWaterOfSpec)

/-- ITS FALSE NEIGHBOUR: 'it returns false'. Refute it at one input. -/
def fnExactWaterOfWrong : ChangeSpec := { name := "fnExactWaterOf", vars := ["loop.example/wateronheights/impl.steps"], fn := fun _ => fun
  | [d, g1] => { results := [.lit (.bool false)], args := [d], vars := [g1] }
  | _ => none }
def FnExactWaterOfWrongFalsely : Prop := fnExactWaterOfRow.holds Tryd.pinned (OpenSpec.ofChange fnExactWaterOfWrong)

/-- 'laws.FnLakesOf': WHATEVER THE INPUT: true; the input reads as it did. -/
def fnLakesOfSpec : ChangeSpec := { name := "fnLakesOf", vars := ["loop.example/wateronheights/impl.steps"], fn := fun _ => fun
  | [d, g1] => { results := [.lit (.bool true)], args := [d], vars := [g1] }
  | _ => none }
def fnLakesOfRow : OpenClaim := { program := "ytjibmfignifpcaadoor", sum := "f4150167bfb29c0a5efd21588810a6b415377c49fb5c53c4297c7439d7ad8765", func := "loop.example/wateronheights/laws.FnLakesOf", spec := "fnLakesOf", inPlace := ["slices.overlaps[loop.example/wateronheights/impl.standing]"], unfollowed := true, recurses := true, named := ["loop.example/wateronheights/impl.steps"], apart := false, laid := [("loop.example/wateronheights/impl.steps", laid_loop_example_wateronheights_impl_steps)] }
def FnLakesOfSaid : Prop := fnLakesOfRow.holds Tryd.pinned (OpenSpec.ofChange fnLakesOfSpec)

/-- ITS FALSE NEIGHBOUR: 'it returns false'. Refute it at one input. -/
def fnLakesOfWrong : ChangeSpec := { name := "fnLakesOf", vars := ["loop.example/wateronheights/impl.steps"], fn := fun _ => fun
  | [d, g1] => { results := [.lit (.bool false)], args := [d], vars := [g1] }
  | _ => none }
def FnLakesOfWrongFalsely : Prop := fnLakesOfRow.holds Tryd.pinned (OpenSpec.ofChange fnLakesOfWrong)

/-- 'laws.FnExactLakesOf': WHATEVER THE INPUT: true; the input reads as it did. -/
def fnExactLakesOfSpec : ChangeSpec := { name := "fnExactLakesOf", vars := ["loop.example/wateronheights/impl.steps"], fn := fun _ => fun
  | [d, g1] => { results := [.lit (.bool true)], args := [d], vars := [g1] }
  | _ => none }
def fnExactLakesOfRow : OpenClaim := { program := "ytjibmfignifpcaadoor", sum := "f4150167bfb29c0a5efd21588810a6b415377c49fb5c53c4297c7439d7ad8765", func := "loop.example/wateronheights/laws.FnExactLakesOf", spec := "fnExactLakesOf", inPlace := ["slices.overlaps[loop.example/wateronheights/impl.standing]"], unfollowed := true, recurses := true, named := ["loop.example/wateronheights/impl.steps"], apart := false, laid := [("loop.example/wateronheights/impl.steps", laid_loop_example_wateronheights_impl_steps)] }
def FnExactLakesOfSaid : Prop := fnExactLakesOfRow.holds Tryd.pinned (OpenSpec.ofChange fnExactLakesOfSpec)

/-- ITS FALSE NEIGHBOUR: 'it returns false'. Refute it at one input. -/
def fnExactLakesOfWrong : ChangeSpec := { name := "fnExactLakesOf", vars := ["loop.example/wateronheights/impl.steps"], fn := fun _ => fun
  | [d, g1] => { results := [.lit (.bool false)], args := [d], vars := [g1] }
  | _ => none }
def FnExactLakesOfWrongFalsely : Prop := fnExactLakesOfRow.holds Tryd.pinned (OpenSpec.ofChange fnExactLakesOfWrong)

/-- 'laws.FnLakesHoldAll': WHATEVER THE INPUT: true; the input reads as it did. -/
def fnLakesHoldAllSpec : ChangeSpec := { name := "fnLakesHoldAll", vars := ["loop.example/wateronheights/impl.steps"], fn := fun _ => fun
  | [d, g1] => { results := [.lit (.bool true)], args := [d], vars := [g1] }
  | _ => none }
def fnLakesHoldAllRow : OpenClaim := { program := "ytjibmfignifpcaadoor", sum := "f4150167bfb29c0a5efd21588810a6b415377c49fb5c53c4297c7439d7ad8765", func := "loop.example/wateronheights/laws.FnLakesHoldAll", spec := "fnLakesHoldAll", inPlace := ["slices.overlaps[loop.example/wateronheights/impl.standing]"], unfollowed := true, recurses := true, named := ["loop.example/wateronheights/impl.steps"], apart := false, laid := [("loop.example/wateronheights/impl.steps", laid_loop_example_wateronheights_impl_steps)] }
def FnLakesHoldAllSaid : Prop := fnLakesHoldAllRow.holds Tryd.pinned (OpenSpec.ofChange fnLakesHoldAllSpec)

/-- ITS FALSE NEIGHBOUR: 'it returns false'. Refute it at one input. -/
def fnLakesHoldAllWrong : ChangeSpec := { name := "fnLakesHoldAll", vars := ["loop.example/wateronheights/impl.steps"], fn := fun _ => fun
  | [d, g1] => { results := [.lit (.bool false)], args := [d], vars := [g1] }
  | _ => none }
def FnLakesHoldAllWrongFalsely : Prop := fnLakesHoldAllRow.holds Tryd.pinned (OpenSpec.ofChange fnLakesHoldAllWrong)

/-- 'laws.FnHigherFillsHigher': WHATEVER THE INPUT: true; the input reads as it did. -/
def fnHigherFillsHigherSpec : ChangeSpec := { name := "fnHigherFillsHigher", vars := ["loop.example/wateronheights/impl.steps"], fn := fun _ => fun
  | [d, g1] => { results := [.lit (.bool true)], args := [d], vars := [g1] }
  | _ => none }
def fnHigherFillsHigherRow : OpenClaim := { program := "ytjibmfignifpcaadoor", sum := "f4150167bfb29c0a5efd21588810a6b415377c49fb5c53c4297c7439d7ad8765", func := "loop.example/wateronheights/laws.FnHigherFillsHigher", spec := "fnHigherFillsHigher", inPlace := ["slices.overlaps[loop.example/wateronheights/impl.standing]"], unfollowed := true, recurses := true, named := ["loop.example/wateronheights/impl.steps"], apart := false, laid := [("loop.example/wateronheights/impl.steps", laid_loop_example_wateronheights_impl_steps)] }
def FnHigherFillsHigherSaid : Prop := fnHigherFillsHigherRow.holds Tryd.pinned (OpenSpec.ofChange fnHigherFillsHigherSpec)

/-- ITS FALSE NEIGHBOUR: 'it returns false'. Refute it at one input. -/
def fnHigherFillsHigherWrong : ChangeSpec := { name := "fnHigherFillsHigher", vars := ["loop.example/wateronheights/impl.steps"], fn := fun _ => fun
  | [d, g1] => { results := [.lit (.bool false)], args := [d], vars := [g1] }
  | _ => none }
def FnHigherFillsHigherWrongFalsely : Prop := fnHigherFillsHigherRow.holds Tryd.pinned (OpenSpec.ofChange fnHigherFillsHigherWrong)

/-- 'laws.FnFlowOf': WHATEVER THE INPUT: true; the input reads as it did. -/
def fnFlowOfSpec : ChangeSpec := { name := "fnFlowOf", vars := ["loop.example/wateronheights/impl.steps"], fn := fun _ => fun
  | [d, g1] => { results := [.lit (.bool true)], args := [d], vars := [g1] }
  | _ => none }
def fnFlowOfRow : OpenClaim := { program := "ytjibmfignifpcaadoor", sum := "f4150167bfb29c0a5efd21588810a6b415377c49fb5c53c4297c7439d7ad8765", func := "loop.example/wateronheights/laws.FnFlowOf", spec := "fnFlowOf", inPlace := ["slices.overlaps[loop.example/wateronheights/impl.standing]"], unfollowed := true, recurses := true, named := ["loop.example/wateronheights/impl.steps"], apart := false, laid := [("loop.example/wateronheights/impl.steps", laid_loop_example_wateronheights_impl_steps)] }
def FnFlowOfSaid : Prop := fnFlowOfRow.holds Tryd.pinned (OpenSpec.ofChange fnFlowOfSpec)

/-- ITS FALSE NEIGHBOUR: 'it returns false'. Refute it at one input. -/
def fnFlowOfWrong : ChangeSpec := { name := "fnFlowOf", vars := ["loop.example/wateronheights/impl.steps"], fn := fun _ => fun
  | [d, g1] => { results := [.lit (.bool false)], args := [d], vars := [g1] }
  | _ => none }
def FnFlowOfWrongFalsely : Prop := fnFlowOfRow.holds Tryd.pinned (OpenSpec.ofChange fnFlowOfWrong)

/-- 'laws.FnExactFlowOf': WHATEVER THE INPUT: true; the input reads as it did. -/
def fnExactFlowOfSpec : ChangeSpec := { name := "fnExactFlowOf", vars := ["loop.example/wateronheights/impl.steps"], fn := fun _ => fun
  | [d, g1] => { results := [.lit (.bool true)], args := [d], vars := [g1] }
  | _ => none }
def fnExactFlowOfRow : OpenClaim := { program := "ytjibmfignifpcaadoor", sum := "f4150167bfb29c0a5efd21588810a6b415377c49fb5c53c4297c7439d7ad8765", func := "loop.example/wateronheights/laws.FnExactFlowOf", spec := "fnExactFlowOf", inPlace := ["slices.overlaps[loop.example/wateronheights/impl.standing]"], unfollowed := true, recurses := true, named := ["loop.example/wateronheights/impl.steps"], apart := false, laid := [("loop.example/wateronheights/impl.steps", laid_loop_example_wateronheights_impl_steps)] }
def FnExactFlowOfSaid : Prop := fnExactFlowOfRow.holds Tryd.pinned (OpenSpec.ofChange fnExactFlowOfSpec)

/-- ITS FALSE NEIGHBOUR: 'it returns false'. Refute it at one input. -/
def fnExactFlowOfWrong : ChangeSpec := { name := "fnExactFlowOf", vars := ["loop.example/wateronheights/impl.steps"], fn := fun _ => fun
  | [d, g1] => { results := [.lit (.bool false)], args := [d], vars := [g1] }
  | _ => none }
def FnExactFlowOfWrongFalsely : Prop := fnExactFlowOfRow.holds Tryd.pinned (OpenSpec.ofChange fnExactFlowOfWrong)

/- THE SECOND FORM. 'bulk': how many values and letters a reading holds, each counted each time it is reached (what is shared counts as often as it is met; a slice's spare places count too). A statement '..UptoSaid' is the law's where the arguments, and the package variables that the reading takes, are together of bulk at most 1048576: NARROWER than '..Said'. Prove '..Said' where nothing that the law and all that it calls make is longer than what came in: it says more and counts as full. Else prove '..UptoSaid'. A law counts once. -/
mutual
def uptoBulk {H : Type} : DataW H → Nat
  | .lit (.string bytes) => bytes.length + 1
  | .lit _ => 1
  | .nil => 1
  | .ptr d => uptoBulk d + 1
  | .slice elems spare => uptoBulkAll elems + uptoBulkAll spare + 1
  | .agg parts => uptoBulkAll parts + 1
  | .iface _ d => uptoBulk d + 1
  | .map entries => uptoBulkEntries entries + 1
  | .held _ => 1
def uptoBulkAll {H : Type} : List (DataW H) → Nat
  | [] => 0
  | d :: r => uptoBulk d + uptoBulkAll r
def uptoBulkEntries {H : Type} : List (Lit × DataW H) → Nat
  | [] => 0
  | x :: r => uptoBulkEntry x + uptoBulkEntries r
def uptoBulkEntry {H : Type} : Lit × DataW H → Nat
  | (.string bytes, d) => bytes.length + uptoBulk d + 1
  | (_, d) => uptoBulk d + 1
 end
def uptoSmall : (H : Type) → List (DataW H) → Bool := fun _ ds => decide (uptoBulkAll ds ≤ 1048576)
def OpenSpec.upto (s : _root_.Go.ChangeSpec) : _root_.Go.OpenSpec := { _root_.Go.OpenSpec.ofChange s with cond := some uptoSmall }

/-- 'laws.FnFillByQueue', WHERE WHAT IT READS IS OF BULK AT MOST 1048576: true; the input reads as it did. -/
def fnFillByQueueUptoRow : OpenClaim := { program := "ytjibmfignifpcaadoor", sum := "f4150167bfb29c0a5efd21588810a6b415377c49fb5c53c4297c7439d7ad8765", func := "loop.example/wateronheights/laws.FnFillByQueue", spec := "fnFillByQueue", inPlace := ["slices.overlaps[loop.example/wateronheights/impl.standing]"], unfollowed := true, recurses := true, named := ["loop.example/wateronheights/impl.steps"], apart := false, laid := [("loop.example/wateronheights/impl.steps", laid_loop_example_wateronheights_impl_steps)], narrowed := true }
def FnFillByQueueUptoSaid : Prop := fnFillByQueueUptoRow.holds Tryd.pinned (OpenSpec.upto fnFillByQueueSpec)

/-- 'laws.FnExactFillByQueue', WHERE WHAT IT READS IS OF BULK AT MOST 1048576: true; the input reads as it did. -/
def fnExactFillByQueueUptoRow : OpenClaim := { program := "ytjibmfignifpcaadoor", sum := "f4150167bfb29c0a5efd21588810a6b415377c49fb5c53c4297c7439d7ad8765", func := "loop.example/wateronheights/laws.FnExactFillByQueue", spec := "fnExactFillByQueue", inPlace := ["slices.overlaps[loop.example/wateronheights/impl.standing]"], unfollowed := true, recurses := true, named := ["loop.example/wateronheights/impl.steps"], apart := false, laid := [("loop.example/wateronheights/impl.steps", laid_loop_example_wateronheights_impl_steps)], narrowed := true }
def FnExactFillByQueueUptoSaid : Prop := fnExactFillByQueueUptoRow.holds Tryd.pinned (OpenSpec.upto fnExactFillByQueueSpec)

/-- 'laws.FnDepthsOf', WHERE WHAT IT READS IS OF BULK AT MOST 1048576: true; the input reads as it did. -/
def fnDepthsOfUptoRow : OpenClaim := { program := "ytjibmfignifpcaadoor", sum := "f4150167bfb29c0a5efd21588810a6b415377c49fb5c53c4297c7439d7ad8765", func := "loop.example/wateronheights/laws.FnDepthsOf", spec := "fnDepthsOf", inPlace := ["slices.overlaps[loop.example/wateronheights/impl.standing]"], unfollowed := true, recurses := true, named := ["loop.example/wateronheights/impl.steps"], apart := false, laid := [("loop.example/wateronheights/impl.steps", laid_loop_example_wateronheights_impl_steps)], narrowed := true }
def FnDepthsOfUptoSaid : Prop := fnDepthsOfUptoRow.holds Tryd.pinned (OpenSpec.upto fnDepthsOfSpec)

/-- 'laws.FnExactDepthsOf', WHERE WHAT IT READS IS OF BULK AT MOST 1048576: true; the input reads as it did. -/
def fnExactDepthsOfUptoRow : OpenClaim := { program := "ytjibmfignifpcaadoor", sum := "f4150167bfb29c0a5efd21588810a6b415377c49fb5c53c4297c7439d7ad8765", func := "loop.example/wateronheights/laws.FnExactDepthsOf", spec := "fnExactDepthsOf", inPlace := ["slices.overlaps[loop.example/wateronheights/impl.standing]"], unfollowed := true, recurses := true, named := ["loop.example/wateronheights/impl.steps"], apart := false, laid := [("loop.example/wateronheights/impl.steps", laid_loop_example_wateronheights_impl_steps)], narrowed := true }
def FnExactDepthsOfUptoSaid : Prop := fnExactDepthsOfUptoRow.holds Tryd.pinned (OpenSpec.upto fnExactDepthsOfSpec)

/-- 'laws.FnWaterOf', WHERE WHAT IT READS IS OF BULK AT MOST 1048576: true; the input reads as it did. -/
def fnWaterOfUptoRow : OpenClaim := { program := "ytjibmfignifpcaadoor", sum := "f4150167bfb29c0a5efd21588810a6b415377c49fb5c53c4297c7439d7ad8765", func := "loop.example/wateronheights/laws.FnWaterOf", spec := "fnWaterOf", inPlace := ["slices.overlaps[loop.example/wateronheights/impl.standing]"], unfollowed := true, recurses := true, named := ["loop.example/wateronheights/impl.steps"], apart := false, laid := [("loop.example/wateronheights/impl.steps", laid_loop_example_wateronheights_impl_steps)], narrowed := true }
def FnWaterOfUptoSaid : Prop := fnWaterOfUptoRow.holds Tryd.pinned (OpenSpec.upto fnWaterOfSpec)

/-- 'laws.FnExactWaterOf', WHERE WHAT IT READS IS OF BULK AT MOST 1048576: true; the input reads as it did. -/
def fnExactWaterOfUptoRow : OpenClaim := { program := "ytjibmfignifpcaadoor", sum := "f4150167bfb29c0a5efd21588810a6b415377c49fb5c53c4297c7439d7ad8765", func := "loop.example/wateronheights/laws.FnExactWaterOf", spec := "fnExactWaterOf", inPlace := ["slices.overlaps[loop.example/wateronheights/impl.standing]"], unfollowed := true, recurses := true, named := ["loop.example/wateronheights/impl.steps"], apart := false, laid := [("loop.example/wateronheights/impl.steps", laid_loop_example_wateronheights_impl_steps)], narrowed := true }
def FnExactWaterOfUptoSaid : Prop := fnExactWaterOfUptoRow.holds Tryd.pinned (OpenSpec.upto fnExactWaterOfSpec)

/-- 'laws.FnLakesOf', WHERE WHAT IT READS IS OF BULK AT MOST 1048576: true; the input reads as it did. -/
def fnLakesOfUptoRow : OpenClaim := { program := "ytjibmfignifpcaadoor", sum := "f4150167bfb29c0a5efd21588810a6b415377c49fb5c53c4297c7439d7ad8765", func := "loop.example/wateronheights/laws.FnLakesOf", spec := "fnLakesOf", inPlace := ["slices.overlaps[loop.example/wateronheights/impl.standing]"], unfollowed := true, recurses := true, named := ["loop.example/wateronheights/impl.steps"], apart := false, laid := [("loop.example/wateronheights/impl.steps", laid_loop_example_wateronheights_impl_steps)], narrowed := true }
def FnLakesOfUptoSaid : Prop := fnLakesOfUptoRow.holds Tryd.pinned (OpenSpec.upto fnLakesOfSpec)

/-- 'laws.FnExactLakesOf', WHERE WHAT IT READS IS OF BULK AT MOST 1048576: true; the input reads as it did. -/
def fnExactLakesOfUptoRow : OpenClaim := { program := "ytjibmfignifpcaadoor", sum := "f4150167bfb29c0a5efd21588810a6b415377c49fb5c53c4297c7439d7ad8765", func := "loop.example/wateronheights/laws.FnExactLakesOf", spec := "fnExactLakesOf", inPlace := ["slices.overlaps[loop.example/wateronheights/impl.standing]"], unfollowed := true, recurses := true, named := ["loop.example/wateronheights/impl.steps"], apart := false, laid := [("loop.example/wateronheights/impl.steps", laid_loop_example_wateronheights_impl_steps)], narrowed := true }
def FnExactLakesOfUptoSaid : Prop := fnExactLakesOfUptoRow.holds Tryd.pinned (OpenSpec.upto fnExactLakesOfSpec)

/-- 'laws.FnLakesHoldAll', WHERE WHAT IT READS IS OF BULK AT MOST 1048576: true; the input reads as it did. -/
def fnLakesHoldAllUptoRow : OpenClaim := { program := "ytjibmfignifpcaadoor", sum := "f4150167bfb29c0a5efd21588810a6b415377c49fb5c53c4297c7439d7ad8765", func := "loop.example/wateronheights/laws.FnLakesHoldAll", spec := "fnLakesHoldAll", inPlace := ["slices.overlaps[loop.example/wateronheights/impl.standing]"], unfollowed := true, recurses := true, named := ["loop.example/wateronheights/impl.steps"], apart := false, laid := [("loop.example/wateronheights/impl.steps", laid_loop_example_wateronheights_impl_steps)], narrowed := true }
def FnLakesHoldAllUptoSaid : Prop := fnLakesHoldAllUptoRow.holds Tryd.pinned (OpenSpec.upto fnLakesHoldAllSpec)

/-- 'laws.FnHigherFillsHigher', WHERE WHAT IT READS IS OF BULK AT MOST 1048576: true; the input reads as it did. -/
def fnHigherFillsHigherUptoRow : OpenClaim := { program := "ytjibmfignifpcaadoor", sum := "f4150167bfb29c0a5efd21588810a6b415377c49fb5c53c4297c7439d7ad8765", func := "loop.example/wateronheights/laws.FnHigherFillsHigher", spec := "fnHigherFillsHigher", inPlace := ["slices.overlaps[loop.example/wateronheights/impl.standing]"], unfollowed := true, recurses := true, named := ["loop.example/wateronheights/impl.steps"], apart := false, laid := [("loop.example/wateronheights/impl.steps", laid_loop_example_wateronheights_impl_steps)], narrowed := true }
def FnHigherFillsHigherUptoSaid : Prop := fnHigherFillsHigherUptoRow.holds Tryd.pinned (OpenSpec.upto fnHigherFillsHigherSpec)

/-- 'laws.FnFlowOf', WHERE WHAT IT READS IS OF BULK AT MOST 1048576: true; the input reads as it did. -/
def fnFlowOfUptoRow : OpenClaim := { program := "ytjibmfignifpcaadoor", sum := "f4150167bfb29c0a5efd21588810a6b415377c49fb5c53c4297c7439d7ad8765", func := "loop.example/wateronheights/laws.FnFlowOf", spec := "fnFlowOf", inPlace := ["slices.overlaps[loop.example/wateronheights/impl.standing]"], unfollowed := true, recurses := true, named := ["loop.example/wateronheights/impl.steps"], apart := false, laid := [("loop.example/wateronheights/impl.steps", laid_loop_example_wateronheights_impl_steps)], narrowed := true }
def FnFlowOfUptoSaid : Prop := fnFlowOfUptoRow.holds Tryd.pinned (OpenSpec.upto fnFlowOfSpec)

/-- 'laws.FnExactFlowOf', WHERE WHAT IT READS IS OF BULK AT MOST 1048576: true; the input reads as it did. -/
def fnExactFlowOfUptoRow : OpenClaim := { program := "ytjibmfignifpcaadoor", sum := "f4150167bfb29c0a5efd21588810a6b415377c49fb5c53c4297c7439d7ad8765", func := "loop.example/wateronheights/laws.FnExactFlowOf", spec := "fnExactFlowOf", inPlace := ["slices.overlaps[loop.example/wateronheights/impl.standing]"], unfollowed := true, recurses := true, named := ["loop.example/wateronheights/impl.steps"], apart := false, laid := [("loop.example/wateronheights/impl.steps", laid_loop_example_wateronheights_impl_steps)], narrowed := true }
def FnExactFlowOfUptoSaid : Prop := fnExactFlowOfUptoRow.holds Tryd.pinned (OpenSpec.upto fnExactFlowOfSpec)

end Rows
end Go.Proofs.YtjibmfignifpcaaDoor
