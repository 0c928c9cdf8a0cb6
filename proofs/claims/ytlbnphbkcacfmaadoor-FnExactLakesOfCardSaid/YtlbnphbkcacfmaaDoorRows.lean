/-
  NARROWER THAN 'FOR EVERY INPUT', by the rows' own cells (each row's printed sentence says how): FnDepthsOf: laid · FnExactDepthsOf: laid · FnHigherFillsHigher: laid · FnExactWaterOf: laid · FnExactLakesOf: laid · FnWaterOf: laid · FnLakesOf: laid · FnLakesHoldAll: laid · FnFlowOf: laid · FnExactFlowOf: laid · FnExactSpanOf: laid.
  DERIVED. THE GIVEN ROWS OF THIS SEAT. 11 by the template 'for every input the law returns true; each argument reads behind the call as it read before'; 0 by the template 'total and deterministic' (their statements: YtlbnphbkcacfmaaDoorTotals.lean).
  GIVEN WITH THE SEED: the statements are not yours to turn. If you find one false, say at which input.
  Laid BY PROGRAM, IN A SANDBOX (cutbox-rows.mjs): the forced cells as the released guide's own fill.sh prints them over the translation 7cb3d8b6a5201c4e… (all of the seat's roots in one cut). By AI agents, Wed Nov 11 2026. No macro, syntax, notation, axiom, sorry.
-/
import Derived.Test.YtlbnphbkcacfmaaDoorChecked
import GoSem.Claim
import GoSem.ClaimJoined
import GoSem.ClaimMapViews
import Derived.JoinedTies
import Derived.KernelRfl
namespace Go.Proofs.YtlbnphbkcacfmaaDoor
/- THE CELL 'sum', in the pinned program and in every row, IS THE sha256 OF THE DUMP (.gsa) THAT YtlbnphbkcacfmaaDoorProg.lean LOADS. Nothing in Lean hashes anything: it is a label: what it is worth is what the hold of that sum in a sandbox is worth. -/
noncomputable def Tryd.pinned : Pinned := { name := "ytlbnphbkcacfmaadoor", sum := "7cb3d8b6a5201c4eba68688fa6246ad0378108ccd6b0b2eeee68aead271b1b8d", checked := Tryd.checked }
namespace Rows
def none {H : Type} : Left H := { results := [], args := [] }

/- WHAT THE LISTED PACKAGE-LEVEL VARIABLES READ AS WHEN THE CALL BEGINS. Each datum BY PROGRAM (the guide's laid-datum.mjs) off the statement by which the dump's own 'gosem.cut.vars' lays the variable. In a bare row this is a premise. The card (YtlbnphbkcacfmaaDoorCards.lean) ties it to the program's text. -/
def laid_loop_example_wateronheights_impl_steps {H : Type} : DataW H := .agg [.agg [.lit (.int .i64 (-1)), .lit (.int .i64 0)], .agg [.lit (.int .i64 0), .lit (.int .i64 (-1))], .agg [.lit (.int .i64 0), .lit (.int .i64 1)], .agg [.lit (.int .i64 1), .lit (.int .i64 0)]]

/-- 'laws.FnDepthsOf': WHATEVER THE INPUT: true; the input reads as it did. -/
def fnDepthsOfSpec : ChangeSpec := { name := "fnDepthsOf", vars := ["loop.example/wateronheights/impl.steps"], fn := fun _ => fun
  | [d, g1] => { results := [.lit (.bool true)], args := [d], vars := [g1] }
  | _ => none }
def fnDepthsOfRow : OpenClaim := { program := "ytlbnphbkcacfmaadoor", sum := "7cb3d8b6a5201c4eba68688fa6246ad0378108ccd6b0b2eeee68aead271b1b8d", func := "loop.example/wateronheights/laws.FnDepthsOf", spec := "fnDepthsOf", inPlace := ["slices.overlaps[loop.example/wateronheights/impl.standing]"], unfollowed := true, recurses := true, named := ["loop.example/wateronheights/impl.steps"], apart := false, laid := [("loop.example/wateronheights/impl.steps", laid_loop_example_wateronheights_impl_steps)] }
def FnDepthsOfSaid : Prop := fnDepthsOfRow.holds Tryd.pinned (OpenSpec.ofChange fnDepthsOfSpec)

/-- ITS FALSE NEIGHBOUR: 'it returns false'. Refute it at one input. -/
def fnDepthsOfWrong : ChangeSpec := { name := "fnDepthsOf", vars := ["loop.example/wateronheights/impl.steps"], fn := fun _ => fun
  | [d, g1] => { results := [.lit (.bool false)], args := [d], vars := [g1] }
  | _ => none }
def FnDepthsOfWrongFalsely : Prop := fnDepthsOfRow.holds Tryd.pinned (OpenSpec.ofChange fnDepthsOfWrong)

/-- 'laws.FnExactDepthsOf': WHATEVER THE INPUT: true; the input reads as it did. -/
def fnExactDepthsOfSpec : ChangeSpec := { name := "fnExactDepthsOf", vars := ["loop.example/wateronheights/impl.steps"], fn := fun _ => fun
  | [d, g1] => { results := [.lit (.bool true)], args := [d], vars := [g1] }
  | _ => none }
def fnExactDepthsOfRow : OpenClaim := { program := "ytlbnphbkcacfmaadoor", sum := "7cb3d8b6a5201c4eba68688fa6246ad0378108ccd6b0b2eeee68aead271b1b8d", func := "loop.example/wateronheights/laws.FnExactDepthsOf", spec := "fnExactDepthsOf", inPlace := ["slices.overlaps[loop.example/wateronheights/impl.standing]"], unfollowed := true, recurses := true, named := ["loop.example/wateronheights/impl.steps"], apart := false, laid := [("loop.example/wateronheights/impl.steps", laid_loop_example_wateronheights_impl_steps)] }
def FnExactDepthsOfSaid : Prop := fnExactDepthsOfRow.holds Tryd.pinned (OpenSpec.ofChange fnExactDepthsOfSpec)

/-- ITS FALSE NEIGHBOUR: 'it returns false'. Refute it at one input. -/
def fnExactDepthsOfWrong : ChangeSpec := { name := "fnExactDepthsOf", vars := ["loop.example/wateronheights/impl.steps"], fn := fun _ => fun
  | [d, g1] => { results := [.lit (.bool false)], args := [d], vars := [g1] }
  | _ => none }
def FnExactDepthsOfWrongFalsely : Prop := fnExactDepthsOfRow.holds Tryd.pinned (OpenSpec.ofChange fnExactDepthsOfWrong)

/-- 'laws.FnHigherFillsHigher': WHATEVER THE INPUT: true; the input reads as it did. -/
def fnHigherFillsHigherSpec : ChangeSpec := { name := "fnHigherFillsHigher", vars := ["loop.example/wateronheights/impl.steps"], fn := fun _ => fun
  | [d, g1] => { results := [.lit (.bool true)], args := [d], vars := [g1] }
  | _ => none }
def fnHigherFillsHigherRow : OpenClaim := { program := "ytlbnphbkcacfmaadoor", sum := "7cb3d8b6a5201c4eba68688fa6246ad0378108ccd6b0b2eeee68aead271b1b8d", func := "loop.example/wateronheights/laws.FnHigherFillsHigher", spec := "fnHigherFillsHigher", inPlace := ["slices.overlaps[loop.example/wateronheights/impl.standing]"], unfollowed := true, recurses := true, named := ["loop.example/wateronheights/impl.steps"], apart := false, laid := [("loop.example/wateronheights/impl.steps", laid_loop_example_wateronheights_impl_steps)] }
def FnHigherFillsHigherSaid : Prop := fnHigherFillsHigherRow.holds Tryd.pinned (OpenSpec.ofChange fnHigherFillsHigherSpec)

/-- ITS FALSE NEIGHBOUR: 'it returns false'. Refute it at one input. -/
def fnHigherFillsHigherWrong : ChangeSpec := { name := "fnHigherFillsHigher", vars := ["loop.example/wateronheights/impl.steps"], fn := fun _ => fun
  | [d, g1] => { results := [.lit (.bool false)], args := [d], vars := [g1] }
  | _ => none }
def FnHigherFillsHigherWrongFalsely : Prop := fnHigherFillsHigherRow.holds Tryd.pinned (OpenSpec.ofChange fnHigherFillsHigherWrong)

/-- 'laws.FnExactWaterOf': WHATEVER THE INPUT: true; the input reads as it did. -/
def fnExactWaterOfSpec : ChangeSpec := { name := "fnExactWaterOf", vars := ["loop.example/wateronheights/impl.steps"], fn := fun _ => fun
  | [d, g1] => { results := [.lit (.bool true)], args := [d], vars := [g1] }
  | _ => none }
def fnExactWaterOfRow : OpenClaim := { program := "ytlbnphbkcacfmaadoor", sum := "7cb3d8b6a5201c4eba68688fa6246ad0378108ccd6b0b2eeee68aead271b1b8d", func := "loop.example/wateronheights/laws.FnExactWaterOf", spec := "fnExactWaterOf", inPlace := ["slices.overlaps[loop.example/wateronheights/impl.standing]"], unfollowed := true, recurses := true, named := ["loop.example/wateronheights/impl.steps"], apart := false, laid := [("loop.example/wateronheights/impl.steps", laid_loop_example_wateronheights_impl_steps)] }
def FnExactWaterOfSaid : Prop := fnExactWaterOfRow.holds Tryd.pinned (OpenSpec.ofChange fnExactWaterOfSpec)

/-- ITS FALSE NEIGHBOUR: 'it returns false'. Refute it at one input. -/
def fnExactWaterOfWrong : ChangeSpec := { name := "fnExactWaterOf", vars := ["loop.example/wateronheights/impl.steps"], fn := fun _ => fun
  | [d, g1] => { results := [.lit (.bool false)], args := [d], vars := [g1] }
  | _ => none }
def FnExactWaterOfWrongFalsely : Prop := fnExactWaterOfRow.holds Tryd.pinned (OpenSpec.ofChange fnExactWaterOfWrong)

/-- 'laws.FnExactLakesOf': WHATEVER THE INPUT: true; the input reads as it did. -/
def fnExactLakesOfSpec : ChangeSpec := { name := "fnExactLakesOf", vars := ["loop.example/wateronheights/impl.steps"], fn := fun _ => fun
  | [d, g1] => { results := [.lit (.bool true)], args := [d], vars := [g1] }
  | _ => none }
def fnExactLakesOfRow : OpenClaim := { program := "ytlbnphbkcacfmaadoor", sum := "7cb3d8b6a5201c4eba68688fa6246ad0378108ccd6b0b2eeee68aead271b1b8d", func := "loop.example/wateronheights/laws.FnExactLakesOf", spec := "fnExactLakesOf", inPlace := ["slices.overlaps[loop.example/wateronheights/impl.standing]"], unfollowed := true, recurses := true, named := ["loop.example/wateronheights/impl.steps"], apart := false, laid := [("loop.example/wateronheights/impl.steps", laid_loop_example_wateronheights_impl_steps)] }
def FnExactLakesOfSaid : Prop := fnExactLakesOfRow.holds Tryd.pinned (OpenSpec.ofChange fnExactLakesOfSpec)

/-- ITS FALSE NEIGHBOUR: 'it returns false'. Refute it at one input. -/
def fnExactLakesOfWrong : ChangeSpec := { name := "fnExactLakesOf", vars := ["loop.example/wateronheights/impl.steps"], fn := fun _ => fun
  | [d, g1] => { results := [.lit (.bool false)], args := [d], vars := [g1] }
  | _ => none }
def FnExactLakesOfWrongFalsely : Prop := fnExactLakesOfRow.holds Tryd.pinned (OpenSpec.ofChange fnExactLakesOfWrong)

/-- 'laws.FnWaterOf': WHATEVER THE INPUT: true; the input reads as it did. -/
def fnWaterOfSpec : ChangeSpec := { name := "fnWaterOf", vars := ["loop.example/wateronheights/impl.steps"], fn := fun _ => fun
  | [d, g1] => { results := [.lit (.bool true)], args := [d], vars := [g1] }
  | _ => none }
def fnWaterOfRow : OpenClaim := { program := "ytlbnphbkcacfmaadoor", sum := "7cb3d8b6a5201c4eba68688fa6246ad0378108ccd6b0b2eeee68aead271b1b8d", func := "loop.example/wateronheights/laws.FnWaterOf", spec := "fnWaterOf", inPlace := ["slices.overlaps[loop.example/wateronheights/impl.standing]"], unfollowed := true, recurses := true, named := ["loop.example/wateronheights/impl.steps"], apart := false, laid := [("loop.example/wateronheights/impl.steps", laid_loop_example_wateronheights_impl_steps)] }
def FnWaterOfSaid : Prop := fnWaterOfRow.holds Tryd.pinned (OpenSpec.ofChange fnWaterOfSpec)

/-- ITS FALSE NEIGHBOUR: 'it returns false'. Refute it at one input. -/
def fnWaterOfWrong : ChangeSpec := { name := "fnWaterOf", vars := ["loop.example/wateronheights/impl.steps"], fn := fun _ => fun
  | [d, g1] => { results := [.lit (.bool false)], args := [d], vars := [g1] }
  | _ => none }
def FnWaterOfWrongFalsely : Prop := fnWaterOfRow.holds Tryd.pinned (OpenSpec.ofChange fnWaterOfWrong)

/-- 'laws.FnLakesOf': WHATEVER THE INPUT: true; the input reads as it did. -/
def fnLakesOfSpec : ChangeSpec := { name := "fnLakesOf", vars := ["loop.example/wateronheights/impl.steps"], fn := fun _ => fun
  | [d, g1] => { results := [.lit (.bool true)], args := [d], vars := [g1] }
  | _ => none }
def fnLakesOfRow : OpenClaim := { program := "ytlbnphbkcacfmaadoor", sum := "7cb3d8b6a5201c4eba68688fa6246ad0378108ccd6b0b2eeee68aead271b1b8d", func := "loop.example/wateronheights/laws.FnLakesOf", spec := "fnLakesOf", inPlace := ["slices.overlaps[loop.example/wateronheights/impl.standing]"], unfollowed := true, recurses := true, named := ["loop.example/wateronheights/impl.steps"], apart := false, laid := [("loop.example/wateronheights/impl.steps", laid_loop_example_wateronheights_impl_steps)] }
def FnLakesOfSaid : Prop := fnLakesOfRow.holds Tryd.pinned (OpenSpec.ofChange fnLakesOfSpec)

/-- ITS FALSE NEIGHBOUR: 'it returns false'. Refute it at one input. -/
def fnLakesOfWrong : ChangeSpec := { name := "fnLakesOf", vars := ["loop.example/wateronheights/impl.steps"], fn := fun _ => fun
  | [d, g1] => { results := [.lit (.bool false)], args := [d], vars := [g1] }
  | _ => none }
def FnLakesOfWrongFalsely : Prop := fnLakesOfRow.holds Tryd.pinned (OpenSpec.ofChange fnLakesOfWrong)

/-- 'laws.FnLakesHoldAll': WHATEVER THE INPUT: true; the input reads as it did. -/
def fnLakesHoldAllSpec : ChangeSpec := { name := "fnLakesHoldAll", vars := ["loop.example/wateronheights/impl.steps"], fn := fun _ => fun
  | [d, g1] => { results := [.lit (.bool true)], args := [d], vars := [g1] }
  | _ => none }
def fnLakesHoldAllRow : OpenClaim := { program := "ytlbnphbkcacfmaadoor", sum := "7cb3d8b6a5201c4eba68688fa6246ad0378108ccd6b0b2eeee68aead271b1b8d", func := "loop.example/wateronheights/laws.FnLakesHoldAll", spec := "fnLakesHoldAll", inPlace := ["slices.overlaps[loop.example/wateronheights/impl.standing]"], unfollowed := true, recurses := true, named := ["loop.example/wateronheights/impl.steps"], apart := false, laid := [("loop.example/wateronheights/impl.steps", laid_loop_example_wateronheights_impl_steps)] }
def FnLakesHoldAllSaid : Prop := fnLakesHoldAllRow.holds Tryd.pinned (OpenSpec.ofChange fnLakesHoldAllSpec)

/-- ITS FALSE NEIGHBOUR: 'it returns false'. Refute it at one input. -/
def fnLakesHoldAllWrong : ChangeSpec := { name := "fnLakesHoldAll", vars := ["loop.example/wateronheights/impl.steps"], fn := fun _ => fun
  | [d, g1] => { results := [.lit (.bool false)], args := [d], vars := [g1] }
  | _ => none }
def FnLakesHoldAllWrongFalsely : Prop := fnLakesHoldAllRow.holds Tryd.pinned (OpenSpec.ofChange fnLakesHoldAllWrong)

/-- 'laws.FnFlowOf': WHATEVER THE INPUT: true; the input reads as it did. -/
def fnFlowOfSpec : ChangeSpec := { name := "fnFlowOf", vars := ["loop.example/wateronheights/impl.steps"], fn := fun _ => fun
  | [d, g1] => { results := [.lit (.bool true)], args := [d], vars := [g1] }
  | _ => none }
def fnFlowOfRow : OpenClaim := { program := "ytlbnphbkcacfmaadoor", sum := "7cb3d8b6a5201c4eba68688fa6246ad0378108ccd6b0b2eeee68aead271b1b8d", func := "loop.example/wateronheights/laws.FnFlowOf", spec := "fnFlowOf", inPlace := ["slices.overlaps[loop.example/wateronheights/impl.standing]"], unfollowed := true, recurses := true, named := ["loop.example/wateronheights/impl.steps"], apart := false, laid := [("loop.example/wateronheights/impl.steps", laid_loop_example_wateronheights_impl_steps)] }
def FnFlowOfSaid : Prop := fnFlowOfRow.holds Tryd.pinned (OpenSpec.ofChange fnFlowOfSpec)

/-- ITS FALSE NEIGHBOUR: 'it returns false'. Refute it at one input. -/
def fnFlowOfWrong : ChangeSpec := { name := "fnFlowOf", vars := ["loop.example/wateronheights/impl.steps"], fn := fun _ => fun
  | [d, g1] => { results := [.lit (.bool false)], args := [d], vars := [g1] }
  | _ => none }
def FnFlowOfWrongFalsely : Prop := fnFlowOfRow.holds Tryd.pinned (OpenSpec.ofChange fnFlowOfWrong)

/-- 'laws.FnExactFlowOf': WHATEVER THE INPUT: true; the input reads as it did. -/
def fnExactFlowOfSpec : ChangeSpec := { name := "fnExactFlowOf", vars := ["loop.example/wateronheights/impl.steps"], fn := fun _ => fun
  | [d, g1] => { results := [.lit (.bool true)], args := [d], vars := [g1] }
  | _ => none }
def fnExactFlowOfRow : OpenClaim := { program := "ytlbnphbkcacfmaadoor", sum := "7cb3d8b6a5201c4eba68688fa6246ad0378108ccd6b0b2eeee68aead271b1b8d", func := "loop.example/wateronheights/laws.FnExactFlowOf", spec := "fnExactFlowOf", inPlace := ["slices.overlaps[loop.example/wateronheights/impl.standing]"], unfollowed := true, recurses := true, named := ["loop.example/wateronheights/impl.steps"], apart := false, laid := [("loop.example/wateronheights/impl.steps", laid_loop_example_wateronheights_impl_steps)] }
def FnExactFlowOfSaid : Prop := fnExactFlowOfRow.holds Tryd.pinned (OpenSpec.ofChange fnExactFlowOfSpec)

/-- ITS FALSE NEIGHBOUR: 'it returns false'. Refute it at one input. -/
def fnExactFlowOfWrong : ChangeSpec := { name := "fnExactFlowOf", vars := ["loop.example/wateronheights/impl.steps"], fn := fun _ => fun
  | [d, g1] => { results := [.lit (.bool false)], args := [d], vars := [g1] }
  | _ => none }
def FnExactFlowOfWrongFalsely : Prop := fnExactFlowOfRow.holds Tryd.pinned (OpenSpec.ofChange fnExactFlowOfWrong)

/-- 'laws.FnExactSpanOf': WHATEVER THE INPUT: true; the input reads as it did. -/
def fnExactSpanOfSpec : ChangeSpec := { name := "fnExactSpanOf", vars := ["loop.example/wateronheights/impl.steps"], fn := fun _ => fun
  | [d, g1] => { results := [.lit (.bool true)], args := [d], vars := [g1] }
  | _ => none }
def fnExactSpanOfRow : OpenClaim := { program := "ytlbnphbkcacfmaadoor", sum := "7cb3d8b6a5201c4eba68688fa6246ad0378108ccd6b0b2eeee68aead271b1b8d", func := "loop.example/wateronheights/laws.FnExactSpanOf", spec := "fnExactSpanOf", unfollowed := true, recurses := true, named := ["loop.example/wateronheights/impl.steps"], apart := false, laid := [("loop.example/wateronheights/impl.steps", laid_loop_example_wateronheights_impl_steps)] }
def FnExactSpanOfSaid : Prop := fnExactSpanOfRow.holds Tryd.pinned (OpenSpec.ofChange fnExactSpanOfSpec)

/-- ITS FALSE NEIGHBOUR: 'it returns false'. Refute it at one input. -/
def fnExactSpanOfWrong : ChangeSpec := { name := "fnExactSpanOf", vars := ["loop.example/wateronheights/impl.steps"], fn := fun _ => fun
  | [d, g1] => { results := [.lit (.bool false)], args := [d], vars := [g1] }
  | _ => none }
def FnExactSpanOfWrongFalsely : Prop := fnExactSpanOfRow.holds Tryd.pinned (OpenSpec.ofChange fnExactSpanOfWrong)

/- THE SECOND FORM. 'bulk': how many values and letters a reading holds, each counted each time it is reached (what is shared counts as often as it is met; a slice's spare places count too). A statement '..UptoSaid' is the law's where the arguments, and the package variables that the reading takes, are together of bulk at most 1048576: NARROWER than '..Said'. Prove '..Said' where nothing that the law and all that it calls make is longer than what came in: it says more and counts as full. Else prove '..UptoSaid'. A law counts once. -/
mutual
def uptoBulk {H : Type} : DataW H → Nat
  | .lit (.string bytes) => bytes.length + 1
  | .lit _ => 1
  | .nil => 1
  | .ptr d => uptoBulk d + 1
  | .slice elems spare => uptoBulkAll elems + uptoBulkAll spare + 1
  | .agg parts => uptoBulkAll parts + 1
  | .iface _ d => uptoBulk d + 1
  | .map entries => uptoBulkEntries entries + 1
  | .held _ => 1
def uptoBulkAll {H : Type} : List (DataW H) → Nat
  | [] => 0
  | d :: r => uptoBulk d + uptoBulkAll r
def uptoBulkEntries {H : Type} : List (Lit × DataW H) → Nat
  | [] => 0
  | x :: r => uptoBulkEntry x + uptoBulkEntries r
def uptoBulkEntry {H : Type} : Lit × DataW H → Nat
  | (.string bytes, d) => bytes.length + uptoBulk d + 1
  | (_, d) => uptoBulk d + 1
 end
def uptoSmall : (H : Type) → List (DataW H) → Bool := fun _ ds => decide (uptoBulkAll ds ≤ 1048576)
def OpenSpec.upto (s : _root_.Go.ChangeSpec) : _root_.Go.OpenSpec := { _root_.Go.OpenSpec.ofChange s with cond := some uptoSmall }

/-- 'laws.FnDepthsOf', WHERE WHAT IT READS IS OF BULK AT MOST 1048576: true; the input reads as it did. -/
def fnDepthsOfUptoRow : OpenClaim := { program := "ytlbnphbkcacfmaadoor", sum := "7cb3d8b6a5201c4eba68688fa6246ad0378108ccd6b0b2eeee68aead271b1b8d", func := "loop.example/wateronheights/laws.FnDepthsOf", spec := "fnDepthsOf", inPlace := ["slices.overlaps[loop.example/wateronheights/impl.standing]"], unfollowed := true, recurses := true, named := ["loop.example/wateronheights/impl.steps"], apart := false, laid := [("loop.example/wateronheights/impl.steps", laid_loop_example_wateronheights_impl_steps)], narrowed := true }
def FnDepthsOfUptoSaid : Prop := fnDepthsOfUptoRow.holds Tryd.pinned (OpenSpec.upto fnDepthsOfSpec)

/-- 'laws.FnExactDepthsOf', WHERE WHAT IT READS IS OF BULK AT MOST 1048576: true; the input reads as it did. -/
def fnExactDepthsOfUptoRow : OpenClaim := { program := "ytlbnphbkcacfmaadoor", sum := "7cb3d8b6a5201c4eba68688fa6246ad0378108ccd6b0b2eeee68aead271b1b8d", func := "loop.example/wateronheights/laws.FnExactDepthsOf", spec := "fnExactDepthsOf", inPlace := ["slices.overlaps[loop.example/wateronheights/impl.standing]"], unfollowed := true, recurses := true, named := ["loop.example/wateronheights/impl.steps"], apart := false, laid := [("loop.example/wateronheights/impl.steps", laid_loop_example_wateronheights_impl_steps)], narrowed := true }
def FnExactDepthsOfUptoSaid : Prop := fnExactDepthsOfUptoRow.holds Tryd.pinned (OpenSpec.upto fnExactDepthsOfSpec)

/-- 'laws.FnHigherFillsHigher', WHERE WHAT IT READS IS OF BULK AT MOST 1048576: true; the input reads as it did. -/
def fnHigherFillsHigherUptoRow : OpenClaim := { program := "ytlbnphbkcacfmaadoor", sum := "7cb3d8b6a5201c4eba68688fa6246ad0378108ccd6b0b2eeee68aead271b1b8d", func := "loop.example/wateronheights/laws.FnHigherFillsHigher", spec := "fnHigherFillsHigher", inPlace := ["slices.overlaps[loop.example/wateronheights/impl.standing]"], unfollowed := true, recurses := true, named := ["loop.example/wateronheights/impl.steps"], apart := false, laid := [("loop.example/wateronheights/impl.steps", laid_loop_example_wateronheights_impl_steps)], narrowed := true }
def FnHigherFillsHigherUptoSaid : Prop := fnHigherFillsHigherUptoRow.holds Tryd.pinned (OpenSpec.upto fnHigherFillsHigherSpec)

/-- 'laws.FnExactWaterOf', WHERE WHAT IT READS IS OF BULK AT MOST 1048576: true; the input reads as it did. -/
def fnExactWaterOfUptoRow : OpenClaim := { program := "ytlbnphbkcacfmaadoor", sum := "7cb3d8b6a5201c4eba68688fa6246ad0378108ccd6b0b2eeee68aead271b1b8d", func := "loop.example/wateronheights/laws.FnExactWaterOf", spec := "fnExactWaterOf", inPlace := ["slices.overlaps[loop.example/wateronheights/impl.standing]"], unfollowed := true, recurses := true, named := ["loop.example/wateronheights/impl.steps"], apart := false, laid := [("loop.example/wateronheights/impl.steps", laid_loop_example_wateronheights_impl_steps)], narrowed := true }
def FnExactWaterOfUptoSaid : Prop := fnExactWaterOfUptoRow.holds Tryd.pinned (OpenSpec.upto fnExactWaterOfSpec)

/-- 'laws.FnExactLakesOf', WHERE WHAT IT READS IS OF BULK AT MOST 1048576: true; the input reads as it did. -/
def fnExactLakesOfUptoRow : OpenClaim := { program := "ytlbnphbkcacfmaadoor", sum := "7cb3d8b6a5201c4eba68688fa6246ad0378108ccd6b0b2eeee68aead271b1b8d", func := "loop.example/wateronheights/laws.FnExactLakesOf", spec := "fnExactLakesOf", inPlace := ["slices.overlaps[loop.example/wateronheights/impl.standing]"], unfollowed := true, recurses := true, named := ["loop.example/wateronheights/impl.steps"], apart := false, laid := [("loop.example/wateronheights/impl.steps", laid_loop_example_wateronheights_impl_steps)], narrowed := true }
def FnExactLakesOfUptoSaid : Prop := fnExactLakesOfUptoRow.holds Tryd.pinned (OpenSpec.upto fnExactLakesOfSpec)

/-- 'laws.FnWaterOf', WHERE WHAT IT READS IS OF BULK AT MOST 1048576: true; the input reads as it did. -/
def fnWaterOfUptoRow : OpenClaim := { program := "ytlbnphbkcacfmaadoor", sum := "7cb3d8b6a5201c4eba68688fa6246ad0378108ccd6b0b2eeee68aead271b1b8d", func := "loop.example/wateronheights/laws.FnWaterOf", spec := "fnWaterOf", inPlace := ["slices.overlaps[loop.example/wateronheights/impl.standing]"], unfollowed := true, recurses := true, named := ["loop.example/wateronheights/impl.steps"], apart := false, laid := [("loop.example/wateronheights/impl.steps", laid_loop_example_wateronheights_impl_steps)], narrowed := true }
def FnWaterOfUptoSaid : Prop := fnWaterOfUptoRow.holds Tryd.pinned (OpenSpec.upto fnWaterOfSpec)

/-- 'laws.FnLakesOf', WHERE WHAT IT READS IS OF BULK AT MOST 1048576: true; the input reads as it did. -/
def fnLakesOfUptoRow : OpenClaim := { program := "ytlbnphbkcacfmaadoor", sum := "7cb3d8b6a5201c4eba68688fa6246ad0378108ccd6b0b2eeee68aead271b1b8d", func := "loop.example/wateronheights/laws.FnLakesOf", spec := "fnLakesOf", inPlace := ["slices.overlaps[loop.example/wateronheights/impl.standing]"], unfollowed := true, recurses := true, named := ["loop.example/wateronheights/impl.steps"], apart := false, laid := [("loop.example/wateronheights/impl.steps", laid_loop_example_wateronheights_impl_steps)], narrowed := true }
def FnLakesOfUptoSaid : Prop := fnLakesOfUptoRow.holds Tryd.pinned (OpenSpec.upto fnLakesOfSpec)

/-- 'laws.FnLakesHoldAll', WHERE WHAT IT READS IS OF BULK AT MOST 1048576: true; the input reads as it did. -/
def fnLakesHoldAllUptoRow : OpenClaim := { program := "ytlbnphbkcacfmaadoor", sum := "7cb3d8b6a5201c4eba68688fa6246ad0378108ccd6b0b2eeee68aead271b1b8d", func := "loop.example/wateronheights/laws.FnLakesHoldAll", spec := "fnLakesHoldAll", inPlace := ["slices.overlaps[loop.example/wateronheights/impl.standing]"], unfollowed := true, recurses := true, named := ["loop.example/wateronheights/impl.steps"], apart := false, laid := [("loop.example/wateronheights/impl.steps", laid_loop_example_wateronheights_impl_steps)], narrowed := true }
def FnLakesHoldAllUptoSaid : Prop := fnLakesHoldAllUptoRow.holds Tryd.pinned (OpenSpec.upto fnLakesHoldAllSpec)

/-- 'laws.FnFlowOf', WHERE WHAT IT READS IS OF BULK AT MOST 1048576: true; the input reads as it did. -/
def fnFlowOfUptoRow : OpenClaim := { program := "ytlbnphbkcacfmaadoor", sum := "7cb3d8b6a5201c4eba68688fa6246ad0378108ccd6b0b2eeee68aead271b1b8d", func := "loop.example/wateronheights/laws.FnFlowOf", spec := "fnFlowOf", inPlace := ["slices.overlaps[loop.example/wateronheights/impl.standing]"], unfollowed := true, recurses := true, named := ["loop.example/wateronheights/impl.steps"], apart := false, laid := [("loop.example/wateronheights/impl.steps", laid_loop_example_wateronheights_impl_steps)], narrowed := true }
def FnFlowOfUptoSaid : Prop := fnFlowOfUptoRow.holds Tryd.pinned (OpenSpec.upto fnFlowOfSpec)

/-- 'laws.FnExactFlowOf', WHERE WHAT IT READS IS OF BULK AT MOST 1048576: true; the input reads as it did. -/
def fnExactFlowOfUptoRow : OpenClaim := { program := "ytlbnphbkcacfmaadoor", sum := "7cb3d8b6a5201c4eba68688fa6246ad0378108ccd6b0b2eeee68aead271b1b8d", func := "loop.example/wateronheights/laws.FnExactFlowOf", spec := "fnExactFlowOf", inPlace := ["slices.overlaps[loop.example/wateronheights/impl.standing]"], unfollowed := true, recurses := true, named := ["loop.example/wateronheights/impl.steps"], apart := false, laid := [("loop.example/wateronheights/impl.steps", laid_loop_example_wateronheights_impl_steps)], narrowed := true }
def FnExactFlowOfUptoSaid : Prop := fnExactFlowOfUptoRow.holds Tryd.pinned (OpenSpec.upto fnExactFlowOfSpec)

/-- 'laws.FnExactSpanOf', WHERE WHAT IT READS IS OF BULK AT MOST 1048576: true; the input reads as it did. -/
def fnExactSpanOfUptoRow : OpenClaim := { program := "ytlbnphbkcacfmaadoor", sum := "7cb3d8b6a5201c4eba68688fa6246ad0378108ccd6b0b2eeee68aead271b1b8d", func := "loop.example/wateronheights/laws.FnExactSpanOf", spec := "fnExactSpanOf", unfollowed := true, recurses := true, named := ["loop.example/wateronheights/impl.steps"], apart := false, laid := [("loop.example/wateronheights/impl.steps", laid_loop_example_wateronheights_impl_steps)], narrowed := true }
def FnExactSpanOfUptoSaid : Prop := fnExactSpanOfUptoRow.holds Tryd.pinned (OpenSpec.upto fnExactSpanOfSpec)

end Rows
end Go.Proofs.YtlbnphbkcacfmaaDoor
