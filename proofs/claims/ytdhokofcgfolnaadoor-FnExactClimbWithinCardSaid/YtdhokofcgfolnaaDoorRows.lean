/-
  NARROWER THAN 'FOR EVERY INPUT', by the rows' own cells (each row's printed sentence says how): FnClimbBetween: laid · FnClimbWithin: laid · FnFewestSteps: laid · FnSteepBetween: laid · FnPassesNeedClimbs: laid · FnExactClimbBetween: laid · FnExactClimbWithin: laid · FnExactWayOf: laid · FnExactFewestSteps: laid · FnExactSteepBetween: laid · FnWayOf: laid · FnWaysBack: laid.
  DERIVED. THE GIVEN ROWS OF THIS SEAT. 12 by the template 'for every input the law returns true; each argument reads behind the call as it read before'; 0 by the template 'total and deterministic' (their statements: YtdhokofcgfolnaaDoorTotals.lean).
  GIVEN WITH THE SEED: the statements are not yours to turn. If you find one false, say at which input.
  Laid BY PROGRAM, IN A SANDBOX (cutbox-rows.mjs): the forced cells as the released guide's own fill.sh prints them over the translation 17d2a7447ffe8b5d… (all of the seat's roots in one cut). By AI agents, Wed Nov 11 2026. No macro, syntax, notation, axiom, sorry.
-/
import Derived.Test.YtdhokofcgfolnaaDoorChecked
import GoSem.Claim
import GoSem.ClaimJoined
import GoSem.ClaimMapViews
import Derived.JoinedTies
import Derived.KernelRfl
namespace Go.Proofs.YtdhokofcgfolnaaDoor
/- THE CELL 'sum', in the pinned program and in every row, IS THE sha256 OF THE DUMP (.gsa) THAT YtdhokofcgfolnaaDoorProg.lean LOADS. Nothing in Lean hashes anything: it is a label: what it is worth is what the hold of that sum in a sandbox is worth. -/
noncomputable def Tryd.pinned : Pinned := { name := "ytdhokofcgfolnaadoor", sum := "17d2a7447ffe8b5d78de42738b2c5de9757497463bc7fd71505a7e16672a442f", checked := Tryd.checked }
namespace Rows
def none {H : Type} : Left H := { results := [], args := [] }

/- WHAT THE LISTED PACKAGE-LEVEL VARIABLES READ AS WHEN THE CALL BEGINS. Each datum BY PROGRAM (the guide's laid-datum.mjs) off the statement by which the dump's own 'gosem.cut.vars' lays the variable. In a bare row this is a premise. The card (YtdhokofcgfolnaaDoorCards.lean) ties it to the program's text. -/
def laid_loop_example_wateronheights_impl_steps {H : Type} : DataW H := .agg [.agg [.lit (.int .i64 (-1)), .lit (.int .i64 0)], .agg [.lit (.int .i64 0), .lit (.int .i64 (-1))], .agg [.lit (.int .i64 0), .lit (.int .i64 1)], .agg [.lit (.int .i64 1), .lit (.int .i64 0)]]

/-- 'laws.FnClimbBetween': WHATEVER THE INPUT: true; the input reads as it did. -/
def fnClimbBetweenSpec : ChangeSpec := { name := "fnClimbBetween", vars := ["loop.example/wateronheights/impl.steps"], fn := fun _ => fun
  | [d, g1] => { results := [.lit (.bool true)], args := [d], vars := [g1] }
  | _ => none }
def fnClimbBetweenRow : OpenClaim := { program := "ytdhokofcgfolnaadoor", sum := "17d2a7447ffe8b5d78de42738b2c5de9757497463bc7fd71505a7e16672a442f", func := "loop.example/wateronheights/laws.FnClimbBetween", spec := "fnClimbBetween", unfollowed := true, recurses := true, named := ["loop.example/wateronheights/impl.steps"], apart := false, laid := [("loop.example/wateronheights/impl.steps", laid_loop_example_wateronheights_impl_steps)] }
def FnClimbBetweenSaid : Prop := fnClimbBetweenRow.holds Tryd.pinned (OpenSpec.ofChange fnClimbBetweenSpec)

/-- ITS FALSE NEIGHBOUR: 'it returns false'. Refute it at one input. -/
def fnClimbBetweenWrong : ChangeSpec := { name := "fnClimbBetween", vars := ["loop.example/wateronheights/impl.steps"], fn := fun _ => fun
  | [d, g1] => { results := [.lit (.bool false)], args := [d], vars := [g1] }
  | _ => none }
def FnClimbBetweenWrongFalsely : Prop := fnClimbBetweenRow.holds Tryd.pinned (OpenSpec.ofChange fnClimbBetweenWrong)

/-- 'laws.FnClimbWithin': WHATEVER THE INPUT: true; the input reads as it did. -/
def fnClimbWithinSpec : ChangeSpec := { name := "fnClimbWithin", vars := ["loop.example/wateronheights/impl.steps"], fn := fun _ => fun
  | [d, g1] => { results := [.lit (.bool true)], args := [d], vars := [g1] }
  | _ => none }
def fnClimbWithinRow : OpenClaim := { program := "ytdhokofcgfolnaadoor", sum := "17d2a7447ffe8b5d78de42738b2c5de9757497463bc7fd71505a7e16672a442f", func := "loop.example/wateronheights/laws.FnClimbWithin", spec := "fnClimbWithin", unfollowed := true, recurses := true, named := ["loop.example/wateronheights/impl.steps"], apart := false, laid := [("loop.example/wateronheights/impl.steps", laid_loop_example_wateronheights_impl_steps)] }
def FnClimbWithinSaid : Prop := fnClimbWithinRow.holds Tryd.pinned (OpenSpec.ofChange fnClimbWithinSpec)

/-- ITS FALSE NEIGHBOUR: 'it returns false'. Refute it at one input. -/
def fnClimbWithinWrong : ChangeSpec := { name := "fnClimbWithin", vars := ["loop.example/wateronheights/impl.steps"], fn := fun _ => fun
  | [d, g1] => { results := [.lit (.bool false)], args := [d], vars := [g1] }
  | _ => none }
def FnClimbWithinWrongFalsely : Prop := fnClimbWithinRow.holds Tryd.pinned (OpenSpec.ofChange fnClimbWithinWrong)

/-- 'laws.FnFewestSteps': WHATEVER THE INPUT: true; the input reads as it did. -/
def fnFewestStepsSpec : ChangeSpec := { name := "fnFewestSteps", vars := ["loop.example/wateronheights/impl.steps"], fn := fun _ => fun
  | [d, g1] => { results := [.lit (.bool true)], args := [d], vars := [g1] }
  | _ => none }
def fnFewestStepsRow : OpenClaim := { program := "ytdhokofcgfolnaadoor", sum := "17d2a7447ffe8b5d78de42738b2c5de9757497463bc7fd71505a7e16672a442f", func := "loop.example/wateronheights/laws.FnFewestSteps", spec := "fnFewestSteps", unfollowed := true, recurses := true, named := ["loop.example/wateronheights/impl.steps"], apart := false, laid := [("loop.example/wateronheights/impl.steps", laid_loop_example_wateronheights_impl_steps)] }
def FnFewestStepsSaid : Prop := fnFewestStepsRow.holds Tryd.pinned (OpenSpec.ofChange fnFewestStepsSpec)

/-- ITS FALSE NEIGHBOUR: 'it returns false'. Refute it at one input. -/
def fnFewestStepsWrong : ChangeSpec := { name := "fnFewestSteps", vars := ["loop.example/wateronheights/impl.steps"], fn := fun _ => fun
  | [d, g1] => { results := [.lit (.bool false)], args := [d], vars := [g1] }
  | _ => none }
def FnFewestStepsWrongFalsely : Prop := fnFewestStepsRow.holds Tryd.pinned (OpenSpec.ofChange fnFewestStepsWrong)

/-- 'laws.FnSteepBetween': WHATEVER THE INPUT: true; the input reads as it did. -/
def fnSteepBetweenSpec : ChangeSpec := { name := "fnSteepBetween", vars := ["loop.example/wateronheights/impl.steps"], fn := fun _ => fun
  | [d, g1] => { results := [.lit (.bool true)], args := [d], vars := [g1] }
  | _ => none }
def fnSteepBetweenRow : OpenClaim := { program := "ytdhokofcgfolnaadoor", sum := "17d2a7447ffe8b5d78de42738b2c5de9757497463bc7fd71505a7e16672a442f", func := "loop.example/wateronheights/laws.FnSteepBetween", spec := "fnSteepBetween", unfollowed := true, recurses := true, named := ["loop.example/wateronheights/impl.steps"], apart := false, laid := [("loop.example/wateronheights/impl.steps", laid_loop_example_wateronheights_impl_steps)] }
def FnSteepBetweenSaid : Prop := fnSteepBetweenRow.holds Tryd.pinned (OpenSpec.ofChange fnSteepBetweenSpec)

/-- ITS FALSE NEIGHBOUR: 'it returns false'. Refute it at one input. -/
def fnSteepBetweenWrong : ChangeSpec := { name := "fnSteepBetween", vars := ["loop.example/wateronheights/impl.steps"], fn := fun _ => fun
  | [d, g1] => { results := [.lit (.bool false)], args := [d], vars := [g1] }
  | _ => none }
def FnSteepBetweenWrongFalsely : Prop := fnSteepBetweenRow.holds Tryd.pinned (OpenSpec.ofChange fnSteepBetweenWrong)

/-- 'laws.FnPassesNeedClimbs': WHATEVER THE INPUT: true; the input reads as it did. -/
def fnPassesNeedClimbsSpec : ChangeSpec := { name := "fnPassesNeedClimbs", vars := ["loop.example/wateronheights/impl.steps"], fn := fun _ => fun
  | [d, g1] => { results := [.lit (.bool true)], args := [d], vars := [g1] }
  | _ => none }
def fnPassesNeedClimbsRow : OpenClaim := { program := "ytdhokofcgfolnaadoor", sum := "17d2a7447ffe8b5d78de42738b2c5de9757497463bc7fd71505a7e16672a442f", func := "loop.example/wateronheights/laws.FnPassesNeedClimbs", spec := "fnPassesNeedClimbs", inPlace := ["slices.overlaps[loop.example/wateronheights/impl.standing]"], unfollowed := true, recurses := true, named := ["loop.example/wateronheights/impl.steps"], apart := false, laid := [("loop.example/wateronheights/impl.steps", laid_loop_example_wateronheights_impl_steps)] }
def FnPassesNeedClimbsSaid : Prop := fnPassesNeedClimbsRow.holds Tryd.pinned (OpenSpec.ofChange fnPassesNeedClimbsSpec)

/-- ITS FALSE NEIGHBOUR: 'it returns false'. Refute it at one input. -/
def fnPassesNeedClimbsWrong : ChangeSpec := { name := "fnPassesNeedClimbs", vars := ["loop.example/wateronheights/impl.steps"], fn := fun _ => fun
  | [d, g1] => { results := [.lit (.bool false)], args := [d], vars := [g1] }
  | _ => none }
def FnPassesNeedClimbsWrongFalsely : Prop := fnPassesNeedClimbsRow.holds Tryd.pinned (OpenSpec.ofChange fnPassesNeedClimbsWrong)

/-- 'laws.FnExactClimbBetween': WHATEVER THE INPUT: true; the input reads as it did. -/
def fnExactClimbBetweenSpec : ChangeSpec := { name := "fnExactClimbBetween", vars := ["loop.example/wateronheights/impl.steps"], fn := fun _ => fun
  | [d1, d2, d3, g1] => { results := [.lit (.bool true)], args := [d1, d2, d3], vars := [g1] }
  | _ => none }
def fnExactClimbBetweenRow : OpenClaim := { program := "ytdhokofcgfolnaadoor", sum := "17d2a7447ffe8b5d78de42738b2c5de9757497463bc7fd71505a7e16672a442f", func := "loop.example/wateronheights/laws.FnExactClimbBetween", spec := "fnExactClimbBetween", unfollowed := true, recurses := true, named := ["loop.example/wateronheights/impl.steps"], apart := false, laid := [("loop.example/wateronheights/impl.steps", laid_loop_example_wateronheights_impl_steps)] }
def FnExactClimbBetweenSaid : Prop := fnExactClimbBetweenRow.holds Tryd.pinned (OpenSpec.ofChange fnExactClimbBetweenSpec)

/-- ITS FALSE NEIGHBOUR: 'it returns false'. Refute it at one input. -/
def fnExactClimbBetweenWrong : ChangeSpec := { name := "fnExactClimbBetween", vars := ["loop.example/wateronheights/impl.steps"], fn := fun _ => fun
  | [d1, d2, d3, g1] => { results := [.lit (.bool false)], args := [d1, d2, d3], vars := [g1] }
  | _ => none }
def FnExactClimbBetweenWrongFalsely : Prop := fnExactClimbBetweenRow.holds Tryd.pinned (OpenSpec.ofChange fnExactClimbBetweenWrong)

/-- 'laws.FnExactClimbWithin': WHATEVER THE INPUT: true; the input reads as it did. -/
def fnExactClimbWithinSpec : ChangeSpec := { name := "fnExactClimbWithin", vars := ["loop.example/wateronheights/impl.steps"], fn := fun _ => fun
  | [d1, d2, d3, d4, g1] => { results := [.lit (.bool true)], args := [d1, d2, d3, d4], vars := [g1] }
  | _ => none }
def fnExactClimbWithinRow : OpenClaim := { program := "ytdhokofcgfolnaadoor", sum := "17d2a7447ffe8b5d78de42738b2c5de9757497463bc7fd71505a7e16672a442f", func := "loop.example/wateronheights/laws.FnExactClimbWithin", spec := "fnExactClimbWithin", unfollowed := true, recurses := true, named := ["loop.example/wateronheights/impl.steps"], apart := false, laid := [("loop.example/wateronheights/impl.steps", laid_loop_example_wateronheights_impl_steps)] }
def FnExactClimbWithinSaid : Prop := fnExactClimbWithinRow.holds Tryd.pinned (OpenSpec.ofChange fnExactClimbWithinSpec)

/-- ITS FALSE NEIGHBOUR: 'it returns false'. Refute it at one input. -/
def fnExactClimbWithinWrong : ChangeSpec := { name := "fnExactClimbWithin", vars := ["loop.example/wateronheights/impl.steps"], fn := fun _ => fun
  | [d1, d2, d3, d4, g1] => { results := [.lit (.bool false)], args := [d1, d2, d3, d4], vars := [g1] }
  | _ => none }
def FnExactClimbWithinWrongFalsely : Prop := fnExactClimbWithinRow.holds Tryd.pinned (OpenSpec.ofChange fnExactClimbWithinWrong)

/-- 'laws.FnExactWayOf': WHATEVER THE INPUT: true; the input reads as it did. -/
def fnExactWayOfSpec : ChangeSpec := { name := "fnExactWayOf", vars := ["loop.example/wateronheights/impl.steps"], fn := fun _ => fun
  | [d1, d2, d3, g1] => { results := [.lit (.bool true)], args := [d1, d2, d3], vars := [g1] }
  | _ => none }
def fnExactWayOfRow : OpenClaim := { program := "ytdhokofcgfolnaadoor", sum := "17d2a7447ffe8b5d78de42738b2c5de9757497463bc7fd71505a7e16672a442f", func := "loop.example/wateronheights/laws.FnExactWayOf", spec := "fnExactWayOf", unfollowed := true, recurses := true, named := ["loop.example/wateronheights/impl.steps"], apart := false, laid := [("loop.example/wateronheights/impl.steps", laid_loop_example_wateronheights_impl_steps)] }
def FnExactWayOfSaid : Prop := fnExactWayOfRow.holds Tryd.pinned (OpenSpec.ofChange fnExactWayOfSpec)

/-- ITS FALSE NEIGHBOUR: 'it returns false'. Refute it at one input. -/
def fnExactWayOfWrong : ChangeSpec := { name := "fnExactWayOf", vars := ["loop.example/wateronheights/impl.steps"], fn := fun _ => fun
  | [d1, d2, d3, g1] => { results := [.lit (.bool false)], args := [d1, d2, d3], vars := [g1] }
  | _ => none }
def FnExactWayOfWrongFalsely : Prop := fnExactWayOfRow.holds Tryd.pinned (OpenSpec.ofChange fnExactWayOfWrong)

/-- 'laws.FnExactFewestSteps': WHATEVER THE INPUT: true; the input reads as it did. -/
def fnExactFewestStepsSpec : ChangeSpec := { name := "fnExactFewestSteps", vars := ["loop.example/wateronheights/impl.steps"], fn := fun _ => fun
  | [d1, d2, d3, g1] => { results := [.lit (.bool true)], args := [d1, d2, d3], vars := [g1] }
  | _ => none }
def fnExactFewestStepsRow : OpenClaim := { program := "ytdhokofcgfolnaadoor", sum := "17d2a7447ffe8b5d78de42738b2c5de9757497463bc7fd71505a7e16672a442f", func := "loop.example/wateronheights/laws.FnExactFewestSteps", spec := "fnExactFewestSteps", unfollowed := true, recurses := true, named := ["loop.example/wateronheights/impl.steps"], apart := false, laid := [("loop.example/wateronheights/impl.steps", laid_loop_example_wateronheights_impl_steps)] }
def FnExactFewestStepsSaid : Prop := fnExactFewestStepsRow.holds Tryd.pinned (OpenSpec.ofChange fnExactFewestStepsSpec)

/-- ITS FALSE NEIGHBOUR: 'it returns false'. Refute it at one input. -/
def fnExactFewestStepsWrong : ChangeSpec := { name := "fnExactFewestSteps", vars := ["loop.example/wateronheights/impl.steps"], fn := fun _ => fun
  | [d1, d2, d3, g1] => { results := [.lit (.bool false)], args := [d1, d2, d3], vars := [g1] }
  | _ => none }
def FnExactFewestStepsWrongFalsely : Prop := fnExactFewestStepsRow.holds Tryd.pinned (OpenSpec.ofChange fnExactFewestStepsWrong)

/-- 'laws.FnExactSteepBetween': WHATEVER THE INPUT: true; the input reads as it did. -/
def fnExactSteepBetweenSpec : ChangeSpec := { name := "fnExactSteepBetween", vars := ["loop.example/wateronheights/impl.steps"], fn := fun _ => fun
  | [d1, d2, d3, g1] => { results := [.lit (.bool true)], args := [d1, d2, d3], vars := [g1] }
  | _ => none }
def fnExactSteepBetweenRow : OpenClaim := { program := "ytdhokofcgfolnaadoor", sum := "17d2a7447ffe8b5d78de42738b2c5de9757497463bc7fd71505a7e16672a442f", func := "loop.example/wateronheights/laws.FnExactSteepBetween", spec := "fnExactSteepBetween", unfollowed := true, recurses := true, named := ["loop.example/wateronheights/impl.steps"], apart := false, laid := [("loop.example/wateronheights/impl.steps", laid_loop_example_wateronheights_impl_steps)] }
def FnExactSteepBetweenSaid : Prop := fnExactSteepBetweenRow.holds Tryd.pinned (OpenSpec.ofChange fnExactSteepBetweenSpec)

/-- ITS FALSE NEIGHBOUR: 'it returns false'. Refute it at one input. -/
def fnExactSteepBetweenWrong : ChangeSpec := { name := "fnExactSteepBetween", vars := ["loop.example/wateronheights/impl.steps"], fn := fun _ => fun
  | [d1, d2, d3, g1] => { results := [.lit (.bool false)], args := [d1, d2, d3], vars := [g1] }
  | _ => none }
def FnExactSteepBetweenWrongFalsely : Prop := fnExactSteepBetweenRow.holds Tryd.pinned (OpenSpec.ofChange fnExactSteepBetweenWrong)

/-- 'laws.FnWayOf': WHATEVER THE INPUT: true; the input reads as it did. -/
def fnWayOfSpec : ChangeSpec := { name := "fnWayOf", vars := ["loop.example/wateronheights/impl.steps"], fn := fun _ => fun
  | [d, g1] => { results := [.lit (.bool true)], args := [d], vars := [g1] }
  | _ => none }
def fnWayOfRow : OpenClaim := { program := "ytdhokofcgfolnaadoor", sum := "17d2a7447ffe8b5d78de42738b2c5de9757497463bc7fd71505a7e16672a442f", func := "loop.example/wateronheights/laws.FnWayOf", spec := "fnWayOf", unfollowed := true, recurses := true, named := ["loop.example/wateronheights/impl.steps"], apart := false, laid := [("loop.example/wateronheights/impl.steps", laid_loop_example_wateronheights_impl_steps)] }
def FnWayOfSaid : Prop := fnWayOfRow.holds Tryd.pinned (OpenSpec.ofChange fnWayOfSpec)

/-- ITS FALSE NEIGHBOUR: 'it returns false'. Refute it at one input. -/
def fnWayOfWrong : ChangeSpec := { name := "fnWayOf", vars := ["loop.example/wateronheights/impl.steps"], fn := fun _ => fun
  | [d, g1] => { results := [.lit (.bool false)], args := [d], vars := [g1] }
  | _ => none }
def FnWayOfWrongFalsely : Prop := fnWayOfRow.holds Tryd.pinned (OpenSpec.ofChange fnWayOfWrong)

/-- 'laws.FnWaysBack': WHATEVER THE INPUT: true; the input reads as it did. -/
def fnWaysBackSpec : ChangeSpec := { name := "fnWaysBack", vars := ["loop.example/wateronheights/impl.steps"], fn := fun _ => fun
  | [d, g1] => { results := [.lit (.bool true)], args := [d], vars := [g1] }
  | _ => none }
def fnWaysBackRow : OpenClaim := { program := "ytdhokofcgfolnaadoor", sum := "17d2a7447ffe8b5d78de42738b2c5de9757497463bc7fd71505a7e16672a442f", func := "loop.example/wateronheights/laws.FnWaysBack", spec := "fnWaysBack", unfollowed := true, recurses := true, named := ["loop.example/wateronheights/impl.steps"], apart := false, laid := [("loop.example/wateronheights/impl.steps", laid_loop_example_wateronheights_impl_steps)] }
def FnWaysBackSaid : Prop := fnWaysBackRow.holds Tryd.pinned (OpenSpec.ofChange fnWaysBackSpec)

/-- ITS FALSE NEIGHBOUR: 'it returns false'. Refute it at one input. -/
def fnWaysBackWrong : ChangeSpec := { name := "fnWaysBack", vars := ["loop.example/wateronheights/impl.steps"], fn := fun _ => fun
  | [d, g1] => { results := [.lit (.bool false)], args := [d], vars := [g1] }
  | _ => none }
def FnWaysBackWrongFalsely : Prop := fnWaysBackRow.holds Tryd.pinned (OpenSpec.ofChange fnWaysBackWrong)

/- THE SECOND FORM. 'bulk': how many values and letters a reading holds, each counted each time it is reached (what is shared counts as often as it is met; a slice's spare places count too). A statement '..UptoSaid' is the law's where the arguments, and the package variables that the reading takes, are together of bulk at most 1048576: NARROWER than '..Said'. Prove '..Said' where nothing that the law and all that it calls make is longer than what came in: it says more and counts as full. Else prove '..UptoSaid'. A law counts once. -/
mutual
def uptoBulk {H : Type} : DataW H → Nat
  | .lit (.string bytes) => bytes.length + 1
  | .lit _ => 1
  | .nil => 1
  | .ptr d => uptoBulk d + 1
  | .slice elems spare => uptoBulkAll elems + uptoBulkAll spare + 1
  | .agg parts => uptoBulkAll parts + 1
  | .iface _ d => uptoBulk d + 1
  | .map entries => uptoBulkEntries entries + 1
  | .held _ => 1
def uptoBulkAll {H : Type} : List (DataW H) → Nat
  | [] => 0
  | d :: r => uptoBulk d + uptoBulkAll r
def uptoBulkEntries {H : Type} : List (Lit × DataW H) → Nat
  | [] => 0
  | x :: r => uptoBulkEntry x + uptoBulkEntries r
def uptoBulkEntry {H : Type} : Lit × DataW H → Nat
  | (.string bytes, d) => bytes.length + uptoBulk d + 1
  | (_, d) => uptoBulk d + 1
 end
def uptoSmall : (H : Type) → List (DataW H) → Bool := fun _ ds => decide (uptoBulkAll ds ≤ 1048576)
def OpenSpec.upto (s : _root_.Go.ChangeSpec) : _root_.Go.OpenSpec := { _root_.Go.OpenSpec.ofChange s with cond := some uptoSmall }

/-- 'laws.FnClimbBetween', WHERE WHAT IT READS IS OF BULK AT MOST 1048576: true; the input reads as it did. -/
def fnClimbBetweenUptoRow : OpenClaim := { program := "ytdhokofcgfolnaadoor", sum := "17d2a7447ffe8b5d78de42738b2c5de9757497463bc7fd71505a7e16672a442f", func := "loop.example/wateronheights/laws.FnClimbBetween", spec := "fnClimbBetween", unfollowed := true, recurses := true, named := ["loop.example/wateronheights/impl.steps"], apart := false, laid := [("loop.example/wateronheights/impl.steps", laid_loop_example_wateronheights_impl_steps)], narrowed := true }
def FnClimbBetweenUptoSaid : Prop := fnClimbBetweenUptoRow.holds Tryd.pinned (OpenSpec.upto fnClimbBetweenSpec)

/-- 'laws.FnClimbWithin', WHERE WHAT IT READS IS OF BULK AT MOST 1048576: true; the input reads as it did. -/
def fnClimbWithinUptoRow : OpenClaim := { program := "ytdhokofcgfolnaadoor", sum := "17d2a7447ffe8b5d78de42738b2c5de9757497463bc7fd71505a7e16672a442f", func := "loop.example/wateronheights/laws.FnClimbWithin", spec := "fnClimbWithin", unfollowed := true, recurses := true, named := ["loop.example/wateronheights/impl.steps"], apart := false, laid := [("loop.example/wateronheights/impl.steps", laid_loop_example_wateronheights_impl_steps)], narrowed := true }
def FnClimbWithinUptoSaid : Prop := fnClimbWithinUptoRow.holds Tryd.pinned (OpenSpec.upto fnClimbWithinSpec)

/-- 'laws.FnFewestSteps', WHERE WHAT IT READS IS OF BULK AT MOST 1048576: true; the input reads as it did. -/
def fnFewestStepsUptoRow : OpenClaim := { program := "ytdhokofcgfolnaadoor", sum := "17d2a7447ffe8b5d78de42738b2c5de9757497463bc7fd71505a7e16672a442f", func := "loop.example/wateronheights/laws.FnFewestSteps", spec := "fnFewestSteps", unfollowed := true, recurses := true, named := ["loop.example/wateronheights/impl.steps"], apart := false, laid := [("loop.example/wateronheights/impl.steps", laid_loop_example_wateronheights_impl_steps)], narrowed := true }
def FnFewestStepsUptoSaid : Prop := fnFewestStepsUptoRow.holds Tryd.pinned (OpenSpec.upto fnFewestStepsSpec)

/-- 'laws.FnSteepBetween', WHERE WHAT IT READS IS OF BULK AT MOST 1048576: true; the input reads as it did. -/
def fnSteepBetweenUptoRow : OpenClaim := { program := "ytdhokofcgfolnaadoor", sum := "17d2a7447ffe8b5d78de42738b2c5de9757497463bc7fd71505a7e16672a442f", func := "loop.example/wateronheights/laws.FnSteepBetween", spec := "fnSteepBetween", unfollowed := true, recurses := true, named := ["loop.example/wateronheights/impl.steps"], apart := false, laid := [("loop.example/wateronheights/impl.steps", laid_loop_example_wateronheights_impl_steps)], narrowed := true }
def FnSteepBetweenUptoSaid : Prop := fnSteepBetweenUptoRow.holds Tryd.pinned (OpenSpec.upto fnSteepBetweenSpec)

/-- 'laws.FnPassesNeedClimbs', WHERE WHAT IT READS IS OF BULK AT MOST 1048576: true; the input reads as it did. -/
def fnPassesNeedClimbsUptoRow : OpenClaim := { program := "ytdhokofcgfolnaadoor", sum := "17d2a7447ffe8b5d78de42738b2c5de9757497463bc7fd71505a7e16672a442f", func := "loop.example/wateronheights/laws.FnPassesNeedClimbs", spec := "fnPassesNeedClimbs", inPlace := ["slices.overlaps[loop.example/wateronheights/impl.standing]"], unfollowed := true, recurses := true, named := ["loop.example/wateronheights/impl.steps"], apart := false, laid := [("loop.example/wateronheights/impl.steps", laid_loop_example_wateronheights_impl_steps)], narrowed := true }
def FnPassesNeedClimbsUptoSaid : Prop := fnPassesNeedClimbsUptoRow.holds Tryd.pinned (OpenSpec.upto fnPassesNeedClimbsSpec)

/-- 'laws.FnExactClimbBetween', WHERE WHAT IT READS IS OF BULK AT MOST 1048576: true; the input reads as it did. -/
def fnExactClimbBetweenUptoRow : OpenClaim := { program := "ytdhokofcgfolnaadoor", sum := "17d2a7447ffe8b5d78de42738b2c5de9757497463bc7fd71505a7e16672a442f", func := "loop.example/wateronheights/laws.FnExactClimbBetween", spec := "fnExactClimbBetween", unfollowed := true, recurses := true, named := ["loop.example/wateronheights/impl.steps"], apart := false, laid := [("loop.example/wateronheights/impl.steps", laid_loop_example_wateronheights_impl_steps)], narrowed := true }
def FnExactClimbBetweenUptoSaid : Prop := fnExactClimbBetweenUptoRow.holds Tryd.pinned (OpenSpec.upto fnExactClimbBetweenSpec)

/-- 'laws.FnExactClimbWithin', WHERE WHAT IT READS IS OF BULK AT MOST 1048576: true; the input reads as it did. -/
def fnExactClimbWithinUptoRow : OpenClaim := { program := "ytdhokofcgfolnaadoor", sum := "17d2a7447ffe8b5d78de42738b2c5de9757497463bc7fd71505a7e16672a442f", func := "loop.example/wateronheights/laws.FnExactClimbWithin", spec := "fnExactClimbWithin", unfollowed := true, recurses := true, named := ["loop.example/wateronheights/impl.steps"], apart := false, laid := [("loop.example/wateronheights/impl.steps", laid_loop_example_wateronheights_impl_steps)], narrowed := true }
def FnExactClimbWithinUptoSaid : Prop := fnExactClimbWithinUptoRow.holds Tryd.pinned (OpenSpec.upto fnExactClimbWithinSpec)

/-- 'laws.FnExactWayOf', WHERE WHAT IT READS IS OF BULK AT MOST 1048576: true; the input reads as it did. -/
def fnExactWayOfUptoRow : OpenClaim := { program := "ytdhokofcgfolnaadoor", sum := "17d2a7447ffe8b5d78de42738b2c5de9757497463bc7fd71505a7e16672a442f", func := "loop.example/wateronheights/laws.FnExactWayOf", spec := "fnExactWayOf", unfollowed := true, recurses := true, named := ["loop.example/wateronheights/impl.steps"], apart := false, laid := [("loop.example/wateronheights/impl.steps", laid_loop_example_wateronheights_impl_steps)], narrowed := true }
def FnExactWayOfUptoSaid : Prop := fnExactWayOfUptoRow.holds Tryd.pinned (OpenSpec.upto fnExactWayOfSpec)

/-- 'laws.FnExactFewestSteps', WHERE WHAT IT READS IS OF BULK AT MOST 1048576: true; the input reads as it did. -/
def fnExactFewestStepsUptoRow : OpenClaim := { program := "ytdhokofcgfolnaadoor", sum := "17d2a7447ffe8b5d78de42738b2c5de9757497463bc7fd71505a7e16672a442f", func := "loop.example/wateronheights/laws.FnExactFewestSteps", spec := "fnExactFewestSteps", unfollowed := true, recurses := true, named := ["loop.example/wateronheights/impl.steps"], apart := false, laid := [("loop.example/wateronheights/impl.steps", laid_loop_example_wateronheights_impl_steps)], narrowed := true }
def FnExactFewestStepsUptoSaid : Prop := fnExactFewestStepsUptoRow.holds Tryd.pinned (OpenSpec.upto fnExactFewestStepsSpec)

/-- 'laws.FnExactSteepBetween', WHERE WHAT IT READS IS OF BULK AT MOST 1048576: true; the input reads as it did. -/
def fnExactSteepBetweenUptoRow : OpenClaim := { program := "ytdhokofcgfolnaadoor", sum := "17d2a7447ffe8b5d78de42738b2c5de9757497463bc7fd71505a7e16672a442f", func := "loop.example/wateronheights/laws.FnExactSteepBetween", spec := "fnExactSteepBetween", unfollowed := true, recurses := true, named := ["loop.example/wateronheights/impl.steps"], apart := false, laid := [("loop.example/wateronheights/impl.steps", laid_loop_example_wateronheights_impl_steps)], narrowed := true }
def FnExactSteepBetweenUptoSaid : Prop := fnExactSteepBetweenUptoRow.holds Tryd.pinned (OpenSpec.upto fnExactSteepBetweenSpec)

/-- 'laws.FnWayOf', WHERE WHAT IT READS IS OF BULK AT MOST 1048576: true; the input reads as it did. -/
def fnWayOfUptoRow : OpenClaim := { program := "ytdhokofcgfolnaadoor", sum := "17d2a7447ffe8b5d78de42738b2c5de9757497463bc7fd71505a7e16672a442f", func := "loop.example/wateronheights/laws.FnWayOf", spec := "fnWayOf", unfollowed := true, recurses := true, named := ["loop.example/wateronheights/impl.steps"], apart := false, laid := [("loop.example/wateronheights/impl.steps", laid_loop_example_wateronheights_impl_steps)], narrowed := true }
def FnWayOfUptoSaid : Prop := fnWayOfUptoRow.holds Tryd.pinned (OpenSpec.upto fnWayOfSpec)

/-- 'laws.FnWaysBack', WHERE WHAT IT READS IS OF BULK AT MOST 1048576: true; the input reads as it did. -/
def fnWaysBackUptoRow : OpenClaim := { program := "ytdhokofcgfolnaadoor", sum := "17d2a7447ffe8b5d78de42738b2c5de9757497463bc7fd71505a7e16672a442f", func := "loop.example/wateronheights/laws.FnWaysBack", spec := "fnWaysBack", unfollowed := true, recurses := true, named := ["loop.example/wateronheights/impl.steps"], apart := false, laid := [("loop.example/wateronheights/impl.steps", laid_loop_example_wateronheights_impl_steps)], narrowed := true }
def FnWaysBackUptoSaid : Prop := fnWaysBackUptoRow.holds Tryd.pinned (OpenSpec.upto fnWaysBackSpec)

end Rows
end Go.Proofs.YtdhokofcgfolnaaDoor
