/-
  NARROWER THAN 'FOR EVERY INPUT', by the rows' own cells (each row's printed sentence says how): FnPeaksOf: laid · FnPitsOf: laid · FnWaterOf: laid · FnLakesOf: laid · FnLakesHoldAll: laid · FnWaterFlowsOnWater: laid · FnHigherFillsHigher: laid · FnExactPeaksOf: laid · FnExactPitsOf: laid · FnExactWaterOf: laid · FnExactLakesOf: laid.
  DERIVED. THE GIVEN ROWS OF THIS SEAT. 11 by the template 'for every input the law returns true; each argument reads behind the call as it read before'; 0 by the template 'total and deterministic' (their statements: YtjkhpaidkhgcgaaDoorTotals.lean).
  GIVEN WITH THE SEED: the statements are not yours to turn. If you find one false, say at which input.
  Laid BY PROGRAM, IN A SANDBOX (cutbox-rows.mjs): the forced cells as the released guide's own fill.sh prints them over the translation 6e39a3707f4aa94e… (all of the seat's roots in one cut). By AI agents, Wed Nov 11 2026. No macro, syntax, notation, axiom, sorry.
-/
import Derived.Test.YtjkhpaidkhgcgaaDoorChecked
import GoSem.Claim
import GoSem.ClaimJoined
import GoSem.ClaimMapViews
import Derived.JoinedTies
import Derived.KernelRfl
namespace Go.Proofs.YtjkhpaidkhgcgaaDoor
/- THE CELL 'sum', in the pinned program and in every row, IS THE sha256 OF THE DUMP (.gsa) THAT YtjkhpaidkhgcgaaDoorProg.lean LOADS. Nothing in Lean hashes anything: it is a label: what it is worth is what the hold of that sum in a sandbox is worth. -/
noncomputable def Tryd.pinned : Pinned := { name := "ytjkhpaidkhgcgaadoor", sum := "6e39a3707f4aa94e490ddf4d21ebbfb7b250cb2b1e8383b9a2a197184e3137b4", checked := Tryd.checked }
namespace Rows
def none {H : Type} : Left H := { results := [], args := [] }

/- WHAT THE LISTED PACKAGE-LEVEL VARIABLES READ AS WHEN THE CALL BEGINS. Each datum BY PROGRAM (the guide's laid-datum.mjs) off the statement by which the dump's own 'gosem.cut.vars' lays the variable. In a bare row this is a premise. The card (YtjkhpaidkhgcgaaDoorCards.lean) ties it to the program's text. -/
def laid_loop_example_wateronheights_impl_steps {H : Type} : DataW H := .agg [.agg [.lit (.int .i64 (-1)), .lit (.int .i64 0)], .agg [.lit (.int .i64 0), .lit (.int .i64 (-1))], .agg [.lit (.int .i64 0), .lit (.int .i64 1)], .agg [.lit (.int .i64 1), .lit (.int .i64 0)]]

/-- 'laws.FnPeaksOf': WHATEVER THE INPUT: true; the input reads as it did. -/
def fnPeaksOfSpec : ChangeSpec := { name := "fnPeaksOf", vars := ["loop.example/wateronheights/impl.steps"], fn := fun _ => fun
  | [d, g1] => { results := [.lit (.bool true)], args := [d], vars := [g1] }
  | _ => none }
def fnPeaksOfRow : OpenClaim := { program := "ytjkhpaidkhgcgaadoor", sum := "6e39a3707f4aa94e490ddf4d21ebbfb7b250cb2b1e8383b9a2a197184e3137b4", func := "loop.example/wateronheights/laws.FnPeaksOf", spec := "fnPeaksOf", unfollowed := true, recurses := true, named := ["loop.example/wateronheights/impl.steps"], apart := false, laid := [("loop.example/wateronheights/impl.steps", laid_loop_example_wateronheights_impl_steps)] }
def FnPeaksOfSaid : Prop := fnPeaksOfRow.holds Tryd.pinned (OpenSpec.ofChange fnPeaksOfSpec)

/-- ITS FALSE NEIGHBOUR: 'it returns false'. Refute it at one input. -/
def fnPeaksOfWrong : ChangeSpec := { name := "fnPeaksOf", vars := ["loop.example/wateronheights/impl.steps"], fn := fun _ => fun
  | [d, g1] => { results := [.lit (.bool false)], args := [d], vars := [g1] }
  | _ => none }
def FnPeaksOfWrongFalsely : Prop := fnPeaksOfRow.holds Tryd.pinned (OpenSpec.ofChange fnPeaksOfWrong)

/-- 'laws.FnPitsOf': WHATEVER THE INPUT: true; the input reads as it did. -/
def fnPitsOfSpec : ChangeSpec := { name := "fnPitsOf", vars := ["loop.example/wateronheights/impl.steps"], fn := fun _ => fun
  | [d, g1] => { results := [.lit (.bool true)], args := [d], vars := [g1] }
  | _ => none }
def fnPitsOfRow : OpenClaim := { program := "ytjkhpaidkhgcgaadoor", sum := "6e39a3707f4aa94e490ddf4d21ebbfb7b250cb2b1e8383b9a2a197184e3137b4", func := "loop.example/wateronheights/laws.FnPitsOf", spec := "fnPitsOf", unfollowed := true, recurses := true, named := ["loop.example/wateronheights/impl.steps"], apart := false, laid := [("loop.example/wateronheights/impl.steps", laid_loop_example_wateronheights_impl_steps)] }
def FnPitsOfSaid : Prop := fnPitsOfRow.holds Tryd.pinned (OpenSpec.ofChange fnPitsOfSpec)

/-- ITS FALSE NEIGHBOUR: 'it returns false'. Refute it at one input. -/
def fnPitsOfWrong : ChangeSpec := { name := "fnPitsOf", vars := ["loop.example/wateronheights/impl.steps"], fn := fun _ => fun
  | [d, g1] => { results := [.lit (.bool false)], args := [d], vars := [g1] }
  | _ => none }
def FnPitsOfWrongFalsely : Prop := fnPitsOfRow.holds Tryd.pinned (OpenSpec.ofChange fnPitsOfWrong)

/-- 'laws.FnWaterOf': WHATEVER THE INPUT: true; the input reads as it did. -/
def fnWaterOfSpec : ChangeSpec := { name := "fnWaterOf", vars := ["loop.example/wateronheights/impl.steps"], fn := fun _ => fun
  | [d, g1] => { results := [.lit (.bool true)], args := [d], vars := [g1] }
  | _ => none }
def fnWaterOfRow : OpenClaim := { program := "ytjkhpaidkhgcgaadoor", sum := "6e39a3707f4aa94e490ddf4d21ebbfb7b250cb2b1e8383b9a2a197184e3137b4", func := "loop.example/wateronheights/laws.FnWaterOf", spec := "fnWaterOf", inPlace := ["slices.overlaps[loop.example/wateronheights/impl.standing]"], unfollowed := true, recurses := true, named := ["loop.example/wateronheights/impl.steps"], apart := false, laid := [("loop.example/wateronheights/impl.steps", laid_loop_example_wateronheights_impl_steps)] }
def FnWaterOfSaid : Prop := fnWaterOfRow.holds Tryd.pinned (OpenSpec.ofChange fnWaterOfSpec)

/-- ITS FALSE NEIGHBOUR: 'it returns false'. Refute it at one input. -/
def fnWaterOfWrong : ChangeSpec := { name := "fnWaterOf", vars := ["loop.example/wateronheights/impl.steps"], fn := fun _ => fun
  | [d, g1] => { results := [.lit (.bool false)], args := [d], vars := [g1] }
  | _ => none }
def FnWaterOfWrongFalsely : Prop := fnWaterOfRow.holds Tryd.pinned (OpenSpec.ofChange fnWaterOfWrong)

/-- 'laws.FnLakesOf': WHATEVER THE INPUT: true; the input reads as it did. -/
def fnLakesOfSpec : ChangeSpec := { name := "fnLakesOf", vars := ["loop.example/wateronheights/impl.steps"], fn := fun _ => fun
  | [d, g1] => { results := [.lit (.bool true)], args := [d], vars := [g1] }
  | _ => none }
def fnLakesOfRow : OpenClaim := { program := "ytjkhpaidkhgcgaadoor", sum := "6e39a3707f4aa94e490ddf4d21ebbfb7b250cb2b1e8383b9a2a197184e3137b4", func := "loop.example/wateronheights/laws.FnLakesOf", spec := "fnLakesOf", inPlace := ["slices.overlaps[loop.example/wateronheights/impl.standing]"], unfollowed := true, recurses := true, named := ["loop.example/wateronheights/impl.steps"], apart := false, laid := [("loop.example/wateronheights/impl.steps", laid_loop_example_wateronheights_impl_steps)] }
def FnLakesOfSaid : Prop := fnLakesOfRow.holds Tryd.pinned (OpenSpec.ofChange fnLakesOfSpec)

/-- ITS FALSE NEIGHBOUR: 'it returns false'. Refute it at one input. -/
def fnLakesOfWrong : ChangeSpec := { name := "fnLakesOf", vars := ["loop.example/wateronheights/impl.steps"], fn := fun _ => fun
  | [d, g1] => { results := [.lit (.bool false)], args := [d], vars := [g1] }
  | _ => none }
def FnLakesOfWrongFalsely : Prop := fnLakesOfRow.holds Tryd.pinned (OpenSpec.ofChange fnLakesOfWrong)

/-- 'laws.FnLakesHoldAll': WHATEVER THE INPUT: true; the input reads as it did. -/
def fnLakesHoldAllSpec : ChangeSpec := { name := "fnLakesHoldAll", vars := ["loop.example/wateronheights/impl.steps"], fn := fun _ => fun
  | [d, g1] => { results := [.lit (.bool true)], args := [d], vars := [g1] }
  | _ => none }
def fnLakesHoldAllRow : OpenClaim := { program := "ytjkhpaidkhgcgaadoor", sum := "6e39a3707f4aa94e490ddf4d21ebbfb7b250cb2b1e8383b9a2a197184e3137b4", func := "loop.example/wateronheights/laws.FnLakesHoldAll", spec := "fnLakesHoldAll", inPlace := ["slices.overlaps[loop.example/wateronheights/impl.standing]"], unfollowed := true, recurses := true, named := ["loop.example/wateronheights/impl.steps"], apart := false, laid := [("loop.example/wateronheights/impl.steps", laid_loop_example_wateronheights_impl_steps)] }
def FnLakesHoldAllSaid : Prop := fnLakesHoldAllRow.holds Tryd.pinned (OpenSpec.ofChange fnLakesHoldAllSpec)

/-- ITS FALSE NEIGHBOUR: 'it returns false'. Refute it at one input. -/
def fnLakesHoldAllWrong : ChangeSpec := { name := "fnLakesHoldAll", vars := ["loop.example/wateronheights/impl.steps"], fn := fun _ => fun
  | [d, g1] => { results := [.lit (.bool false)], args := [d], vars := [g1] }
  | _ => none }
def FnLakesHoldAllWrongFalsely : Prop := fnLakesHoldAllRow.holds Tryd.pinned (OpenSpec.ofChange fnLakesHoldAllWrong)

/-- 'laws.FnWaterFlowsOnWater': WHATEVER THE INPUT: true; the input reads as it did. -/
def fnWaterFlowsOnWaterSpec : ChangeSpec := { name := "fnWaterFlowsOnWater", vars := ["loop.example/wateronheights/impl.steps"], fn := fun _ => fun
  | [d, g1] => { results := [.lit (.bool true)], args := [d], vars := [g1] }
  | _ => none }
def fnWaterFlowsOnWaterRow : OpenClaim := { program := "ytjkhpaidkhgcgaadoor", sum := "6e39a3707f4aa94e490ddf4d21ebbfb7b250cb2b1e8383b9a2a197184e3137b4", func := "loop.example/wateronheights/laws.FnWaterFlowsOnWater", spec := "fnWaterFlowsOnWater", inPlace := ["slices.overlaps[loop.example/wateronheights/impl.standing]"], unfollowed := true, recurses := true, named := ["loop.example/wateronheights/impl.steps"], apart := false, laid := [("loop.example/wateronheights/impl.steps", laid_loop_example_wateronheights_impl_steps)] }
def FnWaterFlowsOnWaterSaid : Prop := fnWaterFlowsOnWaterRow.holds Tryd.pinned (OpenSpec.ofChange fnWaterFlowsOnWaterSpec)

/-- ITS FALSE NEIGHBOUR: 'it returns false'. Refute it at one input. -/
def fnWaterFlowsOnWaterWrong : ChangeSpec := { name := "fnWaterFlowsOnWater", vars := ["loop.example/wateronheights/impl.steps"], fn := fun _ => fun
  | [d, g1] => { results := [.lit (.bool false)], args := [d], vars := [g1] }
  | _ => none }
def FnWaterFlowsOnWaterWrongFalsely : Prop := fnWaterFlowsOnWaterRow.holds Tryd.pinned (OpenSpec.ofChange fnWaterFlowsOnWaterWrong)

/-- 'laws.FnHigherFillsHigher': WHATEVER THE INPUT: true; the input reads as it did. -/
def fnHigherFillsHigherSpec : ChangeSpec := { name := "fnHigherFillsHigher", vars := ["loop.example/wateronheights/impl.steps"], fn := fun _ => fun
  | [d, g1] => { results := [.lit (.bool true)], args := [d], vars := [g1] }
  | _ => none }
def fnHigherFillsHigherRow : OpenClaim := { program := "ytjkhpaidkhgcgaadoor", sum := "6e39a3707f4aa94e490ddf4d21ebbfb7b250cb2b1e8383b9a2a197184e3137b4", func := "loop.example/wateronheights/laws.FnHigherFillsHigher", spec := "fnHigherFillsHigher", inPlace := ["slices.overlaps[loop.example/wateronheights/impl.standing]"], unfollowed := true, recurses := true, named := ["loop.example/wateronheights/impl.steps"], apart := false, laid := [("loop.example/wateronheights/impl.steps", laid_loop_example_wateronheights_impl_steps)] }
def FnHigherFillsHigherSaid : Prop := fnHigherFillsHigherRow.holds Tryd.pinned (OpenSpec.ofChange fnHigherFillsHigherSpec)

/-- ITS FALSE NEIGHBOUR: 'it returns false'. Refute it at one input. -/
def fnHigherFillsHigherWrong : ChangeSpec := { name := "fnHigherFillsHigher", vars := ["loop.example/wateronheights/impl.steps"], fn := fun _ => fun
  | [d, g1] => { results := [.lit (.bool false)], args := [d], vars := [g1] }
  | _ => none }
def FnHigherFillsHigherWrongFalsely : Prop := fnHigherFillsHigherRow.holds Tryd.pinned (OpenSpec.ofChange fnHigherFillsHigherWrong)

/-- 'laws.FnExactPeaksOf': WHATEVER THE INPUT: true; the input reads as it did. -/
def fnExactPeaksOfSpec : ChangeSpec := { name := "fnExactPeaksOf", vars := ["loop.example/wateronheights/impl.steps"], fn := fun _ => fun
  | [d, g1] => { results := [.lit (.bool true)], args := [d], vars := [g1] }
  | _ => none }
def fnExactPeaksOfRow : OpenClaim := { program := "ytjkhpaidkhgcgaadoor", sum := "6e39a3707f4aa94e490ddf4d21ebbfb7b250cb2b1e8383b9a2a197184e3137b4", func := "loop.example/wateronheights/laws.FnExactPeaksOf", spec := "fnExactPeaksOf", unfollowed := true, recurses := true, named := ["loop.example/wateronheights/impl.steps"], apart := false, laid := [("loop.example/wateronheights/impl.steps", laid_loop_example_wateronheights_impl_steps)] }
def FnExactPeaksOfSaid : Prop := fnExactPeaksOfRow.holds Tryd.pinned (OpenSpec.ofChange fnExactPeaksOfSpec)

/-- ITS FALSE NEIGHBOUR: 'it returns false'. Refute it at one input. -/
def fnExactPeaksOfWrong : ChangeSpec := { name := "fnExactPeaksOf", vars := ["loop.example/wateronheights/impl.steps"], fn := fun _ => fun
  | [d, g1] => { results := [.lit (.bool false)], args := [d], vars := [g1] }
  | _ => none }
def FnExactPeaksOfWrongFalsely : Prop := fnExactPeaksOfRow.holds Tryd.pinned (OpenSpec.ofChange fnExactPeaksOfWrong)

/-- 'laws.FnExactPitsOf': WHATEVER THE INPUT: true; the input reads as it did. -/
def fnExactPitsOfSpec : ChangeSpec := { name := "fnExactPitsOf", vars := ["loop.example/wateronheights/impl.steps"], fn := fun _ => fun
  | [d, g1] => { results := [.lit (.bool true)], args := [d], vars := [g1] }
  | _ => none }
def fnExactPitsOfRow : OpenClaim := { program := "ytjkhpaidkhgcgaadoor", sum := "6e39a3707f4aa94e490ddf4d21ebbfb7b250cb2b1e8383b9a2a197184e3137b4", func := "loop.example/wateronheights/laws.FnExactPitsOf", spec := "fnExactPitsOf", unfollowed := true, recurses := true, named := ["loop.example/wateronheights/impl.steps"], apart := false, laid := [("loop.example/wateronheights/impl.steps", laid_loop_example_wateronheights_impl_steps)] }
def FnExactPitsOfSaid : Prop := fnExactPitsOfRow.holds Tryd.pinned (OpenSpec.ofChange fnExactPitsOfSpec)

/-- ITS FALSE NEIGHBOUR: 'it returns false'. Refute it at one input. -/
def fnExactPitsOfWrong : ChangeSpec := { name := "fnExactPitsOf", vars := ["loop.example/wateronheights/impl.steps"], fn := fun _ => fun
  | [d, g1] => { results := [.lit (.bool false)], args := [d], vars := [g1] }
  | _ => none }
def FnExactPitsOfWrongFalsely : Prop := fnExactPitsOfRow.holds Tryd.pinned (OpenSpec.ofChange fnExactPitsOfWrong)

/-- 'laws.FnExactWaterOf': WHATEVER THE INPUT: true; the input reads as it did. -/
def fnExactWaterOfSpec : ChangeSpec := { name := "fnExactWaterOf", vars := ["loop.example/wateronheights/impl.steps"], fn := fun _ => fun
  | [d, g1] => { results := [.lit (.bool true)], args := [d], vars := [g1] }
  | _ => none }
def fnExactWaterOfRow : OpenClaim := { program := "ytjkhpaidkhgcgaadoor", sum := "6e39a3707f4aa94e490ddf4d21ebbfb7b250cb2b1e8383b9a2a197184e3137b4", func := "loop.example/wateronheights/laws.FnExactWaterOf", spec := "fnExactWaterOf", inPlace := ["slices.overlaps[loop.example/wateronheights/impl.standing]"], unfollowed := true, recurses := true, named := ["loop.example/wateronheights/impl.steps"], apart := false, laid := [("loop.example/wateronheights/impl.steps", laid_loop_example_wateronheights_impl_steps)] }
def FnExactWaterOfSaid : Prop := fnExactWaterOfRow.holds Tryd.pinned (OpenSpec.ofChange fnExactWaterOfSpec)

/-- ITS FALSE NEIGHBOUR: 'it returns false'. Refute it at one input. -/
def fnExactWaterOfWrong : ChangeSpec := { name := "fnExactWaterOf", vars := ["loop.example/wateronheights/impl.steps"], fn := fun _ => fun
  | [d, g1] => { results := [.lit (.bool false)], args := [d], vars := [g1] }
  | _ => none }
def FnExactWaterOfWrongFalsely : Prop := fnExactWaterOfRow.holds Tryd.pinned (OpenSpec.ofChange fnExactWaterOfWrong)

/-- 'laws.FnExactLakesOf': WHATEVER THE INPUT: true; the input reads as it did. -/
def fnExactLakesOfSpec : ChangeSpec := { name := "fnExactLakesOf", vars := ["loop.example/wateronheights/impl.steps"], fn := fun _ => fun
  | [d, g1] => { results := [.lit (.bool true)], args := [d], vars := [g1] }
  | _ => none }
def fnExactLakesOfRow : OpenClaim := { program := "ytjkhpaidkhgcgaadoor", sum := "6e39a3707f4aa94e490ddf4d21ebbfb7b250cb2b1e8383b9a2a197184e3137b4", func := "loop.example/wateronheights/laws.FnExactLakesOf", spec := "fnExactLakesOf", inPlace := ["slices.overlaps[loop.example/wateronheights/impl.standing]"], unfollowed := true, recurses := true, named := ["loop.example/wateronheights/impl.steps"], apart := false, laid := [("loop.example/wateronheights/impl.steps", laid_loop_example_wateronheights_impl_steps)] }
def FnExactLakesOfSaid : Prop := fnExactLakesOfRow.holds Tryd.pinned (OpenSpec.ofChange fnExactLakesOfSpec)

/-- ITS FALSE NEIGHBOUR: 'it returns false'. Refute it at one input. -/
def fnExactLakesOfWrong : ChangeSpec := { name := "fnExactLakesOf", vars := ["loop.example/wateronheights/impl.steps"], fn := fun _ => fun
  | [d, g1] => { results := [.lit (.bool false)], args := [d], vars := [g1] }
  | _ => none }
def FnExactLakesOfWrongFalsely : Prop := fnExactLakesOfRow.holds Tryd.pinned (OpenSpec.ofChange fnExactLakesOfWrong)

/- THE SECOND FORM. 'bulk': how many values and letters a reading holds, each counted each time it is reached (what is shared counts as often as it is met; a slice's spare places count too). A statement '..UptoSaid' is the law's where the arguments, and the package variables that the reading takes, are together of bulk at most 1048576: NARROWER than '..Said'. Prove '..Said' where nothing that the law and all that it calls make is longer than what came in: it says more and counts as full. Else prove '..UptoSaid'. A law counts once. -/
mutual
def uptoBulk {H : Type} : DataW H → Nat
  | .lit (.string bytes) => bytes.length + 1
  | .lit _ => 1
  | .nil => 1
  | .ptr d => uptoBulk d + 1
  | .slice elems spare => uptoBulkAll elems + uptoBulkAll spare + 1
  | .agg parts => uptoBulkAll parts + 1
  | .iface _ d => uptoBulk d + 1
  | .map entries => uptoBulkEntries entries + 1
  | .held _ => 1
def uptoBulkAll {H : Type} : List (DataW H) → Nat
  | [] => 0
  | d :: r => uptoBulk d + uptoBulkAll r
def uptoBulkEntries {H : Type} : List (Lit × DataW H) → Nat
  | [] => 0
  | x :: r => uptoBulkEntry x + uptoBulkEntries r
def uptoBulkEntry {H : Type} : Lit × DataW H → Nat
  | (.string bytes, d) => bytes.length + uptoBulk d + 1
  | (_, d) => uptoBulk d + 1
 end
def uptoSmall : (H : Type) → List (DataW H) → Bool := fun _ ds => decide (uptoBulkAll ds ≤ 1048576)
def OpenSpec.upto (s : _root_.Go.ChangeSpec) : _root_.Go.OpenSpec := { _root_.Go.OpenSpec.ofChange s with cond := some uptoSmall }

/-- 'laws.FnPeaksOf', WHERE WHAT IT READS IS OF BULK AT MOST 1048576: true; the input reads as it did. -/
def fnPeaksOfUptoRow : OpenClaim := { program := "ytjkhpaidkhgcgaadoor", sum := "6e39a3707f4aa94e490ddf4d21ebbfb7b250cb2b1e8383b9a2a197184e3137b4", func := "loop.example/wateronheights/laws.FnPeaksOf", spec := "fnPeaksOf", unfollowed := true, recurses := true, named := ["loop.example/wateronheights/impl.steps"], apart := false, laid := [("loop.example/wateronheights/impl.steps", laid_loop_example_wateronheights_impl_steps)], narrowed := true }
def FnPeaksOfUptoSaid : Prop := fnPeaksOfUptoRow.holds Tryd.pinned (OpenSpec.upto fnPeaksOfSpec)

/-- 'laws.FnPitsOf', WHERE WHAT IT READS IS OF BULK AT MOST 1048576: true; the input reads as it did. -/
def fnPitsOfUptoRow : OpenClaim := { program := "ytjkhpaidkhgcgaadoor", sum := "6e39a3707f4aa94e490ddf4d21ebbfb7b250cb2b1e8383b9a2a197184e3137b4", func := "loop.example/wateronheights/laws.FnPitsOf", spec := "fnPitsOf", unfollowed := true, recurses := true, named := ["loop.example/wateronheights/impl.steps"], apart := false, laid := [("loop.example/wateronheights/impl.steps", laid_loop_example_wateronheights_impl_steps)], narrowed := true }
def FnPitsOfUptoSaid : Prop := fnPitsOfUptoRow.holds Tryd.pinned (OpenSpec.upto fnPitsOfSpec)

/-- 'laws.FnWaterOf', WHERE WHAT IT READS IS OF BULK AT MOST 1048576: true; the input reads as it did. -/
def fnWaterOfUptoRow : OpenClaim := { program := "ytjkhpaidkhgcgaadoor", sum := "6e39a3707f4aa94e490ddf4d21ebbfb7b250cb2b1e8383b9a2a197184e3137b4", func := "loop.example/wateronheights/laws.FnWaterOf", spec := "fnWaterOf", inPlace := ["slices.overlaps[loop.example/wateronheights/impl.standing]"], unfollowed := true, recurses := true, named := ["loop.example/wateronheights/impl.steps"], apart := false, laid := [("loop.example/wateronheights/impl.steps", laid_loop_example_wateronheights_impl_steps)], narrowed := true }
def FnWaterOfUptoSaid : Prop := fnWaterOfUptoRow.holds Tryd.pinned (OpenSpec.upto fnWaterOfSpec)

/-- 'laws.FnLakesOf', WHERE WHAT IT READS IS OF BULK AT MOST 1048576: true; the input reads as it did. -/
def fnLakesOfUptoRow : OpenClaim := { program := "ytjkhpaidkhgcgaadoor", sum := "6e39a3707f4aa94e490ddf4d21ebbfb7b250cb2b1e8383b9a2a197184e3137b4", func := "loop.example/wateronheights/laws.FnLakesOf", spec := "fnLakesOf", inPlace := ["slices.overlaps[loop.example/wateronheights/impl.standing]"], unfollowed := true, recurses := true, named := ["loop.example/wateronheights/impl.steps"], apart := false, laid := [("loop.example/wateronheights/impl.steps", laid_loop_example_wateronheights_impl_steps)], narrowed := true }
def FnLakesOfUptoSaid : Prop := fnLakesOfUptoRow.holds Tryd.pinned (OpenSpec.upto fnLakesOfSpec)

/-- 'laws.FnLakesHoldAll', WHERE WHAT IT READS IS OF BULK AT MOST 1048576: true; the input reads as it did. -/
def fnLakesHoldAllUptoRow : OpenClaim := { program := "ytjkhpaidkhgcgaadoor", sum := "6e39a3707f4aa94e490ddf4d21ebbfb7b250cb2b1e8383b9a2a197184e3137b4", func := "loop.example/wateronheights/laws.FnLakesHoldAll", spec := "fnLakesHoldAll", inPlace := ["slices.overlaps[loop.example/wateronheights/impl.standing]"], unfollowed := true, recurses := true, named := ["loop.example/wateronheights/impl.steps"], apart := false, laid := [("loop.example/wateronheights/impl.steps", laid_loop_example_wateronheights_impl_steps)], narrowed := true }
def FnLakesHoldAllUptoSaid : Prop := fnLakesHoldAllUptoRow.holds Tryd.pinned (OpenSpec.upto fnLakesHoldAllSpec)

/-- 'laws.FnWaterFlowsOnWater', WHERE WHAT IT READS IS OF BULK AT MOST 1048576: true; the input reads as it did. -/
def fnWaterFlowsOnWaterUptoRow : OpenClaim := { program := "ytjkhpaidkhgcgaadoor", sum := "6e39a3707f4aa94e490ddf4d21ebbfb7b250cb2b1e8383b9a2a197184e3137b4", func := "loop.example/wateronheights/laws.FnWaterFlowsOnWater", spec := "fnWaterFlowsOnWater", inPlace := ["slices.overlaps[loop.example/wateronheights/impl.standing]"], unfollowed := true, recurses := true, named := ["loop.example/wateronheights/impl.steps"], apart := false, laid := [("loop.example/wateronheights/impl.steps", laid_loop_example_wateronheights_impl_steps)], narrowed := true }
def FnWaterFlowsOnWaterUptoSaid : Prop := fnWaterFlowsOnWaterUptoRow.holds Tryd.pinned (OpenSpec.upto fnWaterFlowsOnWaterSpec)

/-- 'laws.FnHigherFillsHigher', WHERE WHAT IT READS IS OF BULK AT MOST 1048576: true; the input reads as it did. -/
def fnHigherFillsHigherUptoRow : OpenClaim := { program := "ytjkhpaidkhgcgaadoor", sum := "6e39a3707f4aa94e490ddf4d21ebbfb7b250cb2b1e8383b9a2a197184e3137b4", func := "loop.example/wateronheights/laws.FnHigherFillsHigher", spec := "fnHigherFillsHigher", inPlace := ["slices.overlaps[loop.example/wateronheights/impl.standing]"], unfollowed := true, recurses := true, named := ["loop.example/wateronheights/impl.steps"], apart := false, laid := [("loop.example/wateronheights/impl.steps", laid_loop_example_wateronheights_impl_steps)], narrowed := true }
def FnHigherFillsHigherUptoSaid : Prop := fnHigherFillsHigherUptoRow.holds Tryd.pinned (OpenSpec.upto fnHigherFillsHigherSpec)

/-- 'laws.FnExactPeaksOf', WHERE WHAT IT READS IS OF BULK AT MOST 1048576: true; the input reads as it did. -/
def fnExactPeaksOfUptoRow : OpenClaim := { program := "ytjkhpaidkhgcgaadoor", sum := "6e39a3707f4aa94e490ddf4d21ebbfb7b250cb2b1e8383b9a2a197184e3137b4", func := "loop.example/wateronheights/laws.FnExactPeaksOf", spec := "fnExactPeaksOf", unfollowed := true, recurses := true, named := ["loop.example/wateronheights/impl.steps"], apart := false, laid := [("loop.example/wateronheights/impl.steps", laid_loop_example_wateronheights_impl_steps)], narrowed := true }
def FnExactPeaksOfUptoSaid : Prop := fnExactPeaksOfUptoRow.holds Tryd.pinned (OpenSpec.upto fnExactPeaksOfSpec)

/-- 'laws.FnExactPitsOf', WHERE WHAT IT READS IS OF BULK AT MOST 1048576: true; the input reads as it did. -/
def fnExactPitsOfUptoRow : OpenClaim := { program := "ytjkhpaidkhgcgaadoor", sum := "6e39a3707f4aa94e490ddf4d21ebbfb7b250cb2b1e8383b9a2a197184e3137b4", func := "loop.example/wateronheights/laws.FnExactPitsOf", spec := "fnExactPitsOf", unfollowed := true, recurses := true, named := ["loop.example/wateronheights/impl.steps"], apart := false, laid := [("loop.example/wateronheights/impl.steps", laid_loop_example_wateronheights_impl_steps)], narrowed := true }
def FnExactPitsOfUptoSaid : Prop := fnExactPitsOfUptoRow.holds Tryd.pinned (OpenSpec.upto fnExactPitsOfSpec)

/-- 'laws.FnExactWaterOf', WHERE WHAT IT READS IS OF BULK AT MOST 1048576: true; the input reads as it did. -/
def fnExactWaterOfUptoRow : OpenClaim := { program := "ytjkhpaidkhgcgaadoor", sum := "6e39a3707f4aa94e490ddf4d21ebbfb7b250cb2b1e8383b9a2a197184e3137b4", func := "loop.example/wateronheights/laws.FnExactWaterOf", spec := "fnExactWaterOf", inPlace := ["slices.overlaps[loop.example/wateronheights/impl.standing]"], unfollowed := true, recurses := true, named := ["loop.example/wateronheights/impl.steps"], apart := false, laid := [("loop.example/wateronheights/impl.steps", laid_loop_example_wateronheights_impl_steps)], narrowed := true }
def FnExactWaterOfUptoSaid : Prop := fnExactWaterOfUptoRow.holds Tryd.pinned (OpenSpec.upto fnExactWaterOfSpec)

/-- 'laws.FnExactLakesOf', WHERE WHAT IT READS IS OF BULK AT MOST 1048576: true; the input reads as it did. -/
def fnExactLakesOfUptoRow : OpenClaim := { program := "ytjkhpaidkhgcgaadoor", sum := "6e39a3707f4aa94e490ddf4d21ebbfb7b250cb2b1e8383b9a2a197184e3137b4", func := "loop.example/wateronheights/laws.FnExactLakesOf", spec := "fnExactLakesOf", inPlace := ["slices.overlaps[loop.example/wateronheights/impl.standing]"], unfollowed := true, recurses := true, named := ["loop.example/wateronheights/impl.steps"], apart := false, laid := [("loop.example/wateronheights/impl.steps", laid_loop_example_wateronheights_impl_steps)], narrowed := true }
def FnExactLakesOfUptoSaid : Prop := fnExactLakesOfUptoRow.holds Tryd.pinned (OpenSpec.upto fnExactLakesOfSpec)

end Rows
end Go.Proofs.YtjkhpaidkhgcgaaDoor
