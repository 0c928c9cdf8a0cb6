/-
  NARROWER THAN 'FOR EVERY INPUT', by the rows' own cells (each row's printed sentence says how): FnExactClimbWithin: laid · FnExactWayOf: laid · FnExactFewestSteps: laid · FnExactSteepBetween: laid.
  DERIVED. THE GIVEN ROWS OF THIS SEAT. 4 by the template 'for every input the law returns true; each argument reads behind the call as it read before'; 0 by the template 'total and deterministic' (their statements: YtfndejjaedandabDoorTotals.lean).
  GIVEN WITH THE SEED: the statements are not yours to turn. If you find one false, say at which input.
  Laid BY PROGRAM, IN A SANDBOX (cutbox-rows.mjs): the forced cells as the released guide's own fill.sh prints them over the translation 05f0f7c237664f0b… (all of the seat's roots in one cut). By AI agents, Wed Nov 11 2026. No macro, syntax, notation, axiom, sorry.
-/
import Derived.Test.YtfndejjaedandabDoorChecked
import GoSem.Claim
import GoSem.ClaimJoined
import GoSem.ClaimMapViews
import Derived.JoinedTies
import Derived.KernelRfl
namespace Go.Proofs.YtfndejjaedandabDoor
/- THE CELL 'sum', in the pinned program and in every row, IS THE sha256 OF THE DUMP (.gsa) THAT YtfndejjaedandabDoorProg.lean LOADS. Nothing in Lean hashes anything: it is a label: what it is worth is what the hold of that sum in a sandbox is worth. -/
noncomputable def Tryd.pinned : Pinned := { name := "ytfndejjaedandabdoor", sum := "05f0f7c237664f0b3519a2696f53186bbe50087576f77bb8d31c70947cafac4e", checked := Tryd.checked }
namespace Rows
def none {H : Type} : Left H := { results := [], args := [] }

/- WHAT THE LISTED PACKAGE-LEVEL VARIABLES READ AS WHEN THE CALL BEGINS. Each datum BY PROGRAM (the guide's laid-datum.mjs) off the statement by which the dump's own 'gosem.cut.vars' lays the variable. In a bare row this is a premise. The card (YtfndejjaedandabDoorCards.lean) ties it to the program's text. -/
def laid_loop_example_wateronheights_impl_steps {H : Type} : DataW H := .agg [.agg [.lit (.int .i64 (-1)), .lit (.int .i64 0)], .agg [.lit (.int .i64 0), .lit (.int .i64 (-1))], .agg [.lit (.int .i64 0), .lit (.int .i64 1)], .agg [.lit (.int .i64 1), .lit (.int .i64 0)]]

/-- 'laws.FnExactClimbWithin': WHATEVER THE INPUT: true; the input reads as it did. -/
def fnExactClimbWithinSpec : ChangeSpec := { name := "fnExactClimbWithin", vars := ["loop.example/wateronheights/impl.steps"], fn := fun _ => fun
  | [d1, d2, d3, d4, g1] => { results := [.lit (.bool true)], args := [d1, d2, d3, d4], vars := [g1] }
  | _ => none }
def fnExactClimbWithinRow : OpenClaim := { program := "ytfndejjaedandabdoor", sum := "05f0f7c237664f0b3519a2696f53186bbe50087576f77bb8d31c70947cafac4e", func := "loop.example/wateronheights/laws.FnExactClimbWithin", spec := "fnExactClimbWithin", unfollowed := true, recurses := true, named := ["loop.example/wateronheights/impl.steps"], apart := false, laid := [("loop.example/wateronheights/impl.steps", laid_loop_example_wateronheights_impl_steps)] }
def FnExactClimbWithinSaid : Prop := fnExactClimbWithinRow.holds Tryd.pinned (OpenSpec.ofChange fnExactClimbWithinSpec)

/-- ITS FALSE NEIGHBOUR: 'it returns false'. Refute it at one input. -/
def fnExactClimbWithinWrong : ChangeSpec := { name := "fnExactClimbWithin", vars := ["loop.example/wateronheights/impl.steps"], fn := fun _ => fun
  | [d1, d2, d3, d4, g1] => { results := [.lit (.bool false)], args := [d1, d2, d3, d4], vars := [g1] }
  | _ => none }
def FnExactClimbWithinWrongFalsely : Prop := fnExactClimbWithinRow.holds Tryd.pinned (OpenSpec.ofChange fnExactClimbWithinWrong)

/-- 'laws.FnExactWayOf': WHATEVER THE INPUT: true; the input reads as it did. -/
def fnExactWayOfSpec : ChangeSpec := { name := "fnExactWayOf", vars := ["loop.example/wateronheights/impl.steps"], fn := fun _ => fun
  | [d1, d2, d3, g1] => { results := [.lit (.bool true)], args := [d1, d2, d3], vars := [g1] }
  | _ => none }
def fnExactWayOfRow : OpenClaim := { program := "ytfndejjaedandabdoor", sum := "05f0f7c237664f0b3519a2696f53186bbe50087576f77bb8d31c70947cafac4e", func := "loop.example/wateronheights/laws.FnExactWayOf", spec := "fnExactWayOf", unfollowed := true, recurses := true, named := ["loop.example/wateronheights/impl.steps"], apart := false, laid := [("loop.example/wateronheights/impl.steps", laid_loop_example_wateronheights_impl_steps)] }
def FnExactWayOfSaid : Prop := fnExactWayOfRow.holds Tryd.pinned (OpenSpec.ofChange fnExactWayOfSpec)

/-- ITS FALSE NEIGHBOUR: 'it returns false'. Refute it at one input. -/
def fnExactWayOfWrong : ChangeSpec := { name := "fnExactWayOf", vars := ["loop.example/wateronheights/impl.steps"], fn := fun _ => fun
  | [d1, d2, d3, g1] => { results := [.lit (.bool false)], args := [d1, d2, d3], vars := [g1] }
  | _ => none }
def FnExactWayOfWrongFalsely : Prop := fnExactWayOfRow.holds Tryd.pinned (OpenSpec.ofChange fnExactWayOfWrong)

/-- 'laws.FnExactFewestSteps': WHATEVER THE INPUT: true; the input reads as it did. -/
def fnExactFewestStepsSpec : ChangeSpec := { name := "fnExactFewestSteps", vars := ["loop.example/wateronheights/impl.steps"], fn := fun _ => fun
  | [d1, d2, d3, g1] => { results := [.lit (.bool true)], args := [d1, d2, d3], vars := [g1] }
  | _ => none }
def fnExactFewestStepsRow : OpenClaim := { program := "ytfndejjaedandabdoor", sum := "05f0f7c237664f0b3519a2696f53186bbe50087576f77bb8d31c70947cafac4e", func := "loop.example/wateronheights/laws.FnExactFewestSteps", spec := "fnExactFewestSteps", unfollowed := true, recurses := true, named := ["loop.example/wateronheights/impl.steps"], apart := false, laid := [("loop.example/wateronheights/impl.steps", laid_loop_example_wateronheights_impl_steps)] }
def FnExactFewestStepsSaid : Prop := fnExactFewestStepsRow.holds Tryd.pinned (OpenSpec.ofChange fnExactFewestStepsSpec)

/-- ITS FALSE NEIGHBOUR: 'it returns false'. Refute it at one input. -/
def fnExactFewestStepsWrong : ChangeSpec := { name := "fnExactFewestSteps", vars := ["loop.example/wateronheights/impl.steps"], fn := fun _ => fun
  | [d1, d2, d3, g1] => { results := [.lit (.bool false)], args := [d1, d2, d3], vars := [g1] }
  | _ => none }
def FnExactFewestStepsWrongFalsely : Prop := fnExactFewestStepsRow.holds Tryd.pinned (OpenSpec.ofChange fnExactFewestStepsWrong)

/-- 'laws.FnExactSteepBetween': WHATEVER THE INPUT: true; the input reads as it did. -/
def fnExactSteepBetweenSpec : ChangeSpec := { name := "fnExactSteepBetween", vars := ["loop.example/wateronheights/impl.steps"], fn := fun _ => fun
  | [d1, d2, d3, g1] => { results := [.lit (.bool true)], args := [d1, d2, d3], vars := [g1] }
  | _ => none }
def fnExactSteepBetweenRow : OpenClaim := { program := "ytfndejjaedandabdoor", sum := "05f0f7c237664f0b3519a2696f53186bbe50087576f77bb8d31c70947cafac4e", func := "loop.example/wateronheights/laws.FnExactSteepBetween", spec := "fnExactSteepBetween", unfollowed := true, recurses := true, named := ["loop.example/wateronheights/impl.steps"], apart := false, laid := [("loop.example/wateronheights/impl.steps", laid_loop_example_wateronheights_impl_steps)] }
def FnExactSteepBetweenSaid : Prop := fnExactSteepBetweenRow.holds Tryd.pinned (OpenSpec.ofChange fnExactSteepBetweenSpec)

/-- ITS FALSE NEIGHBOUR: 'it returns false'. Refute it at one input. -/
def fnExactSteepBetweenWrong : ChangeSpec := { name := "fnExactSteepBetween", vars := ["loop.example/wateronheights/impl.steps"], fn := fun _ => fun
  | [d1, d2, d3, g1] => { results := [.lit (.bool false)], args := [d1, d2, d3], vars := [g1] }
  | _ => none }
def FnExactSteepBetweenWrongFalsely : Prop := fnExactSteepBetweenRow.holds Tryd.pinned (OpenSpec.ofChange fnExactSteepBetweenWrong)

/- THE SECOND FORM. 'bulk': how many values and letters a reading holds, each counted each time it is reached (what is shared counts as often as it is met; a slice's spare places count too). A statement '..UptoSaid' is the law's where the arguments, and the package variables that the reading takes, are together of bulk at most 1048576: NARROWER than '..Said'. Prove '..Said' where nothing that the law and all that it calls make is longer than what came in: it says more and counts as full. Else prove '..UptoSaid'. A law counts once. -/
mutual
def uptoBulk {H : Type} : DataW H → Nat
  | .lit (.string bytes) => bytes.length + 1
  | .lit _ => 1
  | .nil => 1
  | .ptr d => uptoBulk d + 1
  | .slice elems spare => uptoBulkAll elems + uptoBulkAll spare + 1
  | .agg parts => uptoBulkAll parts + 1
  | .iface _ d => uptoBulk d + 1
  | .map entries => uptoBulkEntries entries + 1
  | .held _ => 1
def uptoBulkAll {H : Type} : List (DataW H) → Nat
  | [] => 0
  | d :: r => uptoBulk d + uptoBulkAll r
def uptoBulkEntries {H : Type} : List (Lit × DataW H) → Nat
  | [] => 0
  | x :: r => uptoBulkEntry x + uptoBulkEntries r
def uptoBulkEntry {H : Type} : Lit × DataW H → Nat
  | (.string bytes, d) => bytes.length + uptoBulk d + 1
  | (_, d) => uptoBulk d + 1
 end
def uptoSmall : (H : Type) → List (DataW H) → Bool := fun _ ds => decide (uptoBulkAll ds ≤ 1048576)
def OpenSpec.upto (s : _root_.Go.ChangeSpec) : _root_.Go.OpenSpec := { _root_.Go.OpenSpec.ofChange s with cond := some uptoSmall }

/-- 'laws.FnExactClimbWithin', WHERE WHAT IT READS IS OF BULK AT MOST 1048576: true; the input reads as it did. -/
def fnExactClimbWithinUptoRow : OpenClaim := { program := "ytfndejjaedandabdoor", sum := "05f0f7c237664f0b3519a2696f53186bbe50087576f77bb8d31c70947cafac4e", func := "loop.example/wateronheights/laws.FnExactClimbWithin", spec := "fnExactClimbWithin", unfollowed := true, recurses := true, named := ["loop.example/wateronheights/impl.steps"], apart := false, laid := [("loop.example/wateronheights/impl.steps", laid_loop_example_wateronheights_impl_steps)], narrowed := true }
def FnExactClimbWithinUptoSaid : Prop := fnExactClimbWithinUptoRow.holds Tryd.pinned (OpenSpec.upto fnExactClimbWithinSpec)

/-- 'laws.FnExactWayOf', WHERE WHAT IT READS IS OF BULK AT MOST 1048576: true; the input reads as it did. -/
def fnExactWayOfUptoRow : OpenClaim := { program := "ytfndejjaedandabdoor", sum := "05f0f7c237664f0b3519a2696f53186bbe50087576f77bb8d31c70947cafac4e", func := "loop.example/wateronheights/laws.FnExactWayOf", spec := "fnExactWayOf", unfollowed := true, recurses := true, named := ["loop.example/wateronheights/impl.steps"], apart := false, laid := [("loop.example/wateronheights/impl.steps", laid_loop_example_wateronheights_impl_steps)], narrowed := true }
def FnExactWayOfUptoSaid : Prop := fnExactWayOfUptoRow.holds Tryd.pinned (OpenSpec.upto fnExactWayOfSpec)

/-- 'laws.FnExactFewestSteps', WHERE WHAT IT READS IS OF BULK AT MOST 1048576: true; the input reads as it did. -/
def fnExactFewestStepsUptoRow : OpenClaim := { program := "ytfndejjaedandabdoor", sum := "05f0f7c237664f0b3519a2696f53186bbe50087576f77bb8d31c70947cafac4e", func := "loop.example/wateronheights/laws.FnExactFewestSteps", spec := "fnExactFewestSteps", unfollowed := true, recurses := true, named := ["loop.example/wateronheights/impl.steps"], apart := false, laid := [("loop.example/wateronheights/impl.steps", laid_loop_example_wateronheights_impl_steps)], narrowed := true }
def FnExactFewestStepsUptoSaid : Prop := fnExactFewestStepsUptoRow.holds Tryd.pinned (OpenSpec.upto fnExactFewestStepsSpec)

/-- 'laws.FnExactSteepBetween', WHERE WHAT IT READS IS OF BULK AT MOST 1048576: true; the input reads as it did. -/
def fnExactSteepBetweenUptoRow : OpenClaim := { program := "ytfndejjaedandabdoor", sum := "05f0f7c237664f0b3519a2696f53186bbe50087576f77bb8d31c70947cafac4e", func := "loop.example/wateronheights/laws.FnExactSteepBetween", spec := "fnExactSteepBetween", unfollowed := true, recurses := true, named := ["loop.example/wateronheights/impl.steps"], apart := false, laid := [("loop.example/wateronheights/impl.steps", laid_loop_example_wateronheights_impl_steps)], narrowed := true }
def FnExactSteepBetweenUptoSaid : Prop := fnExactSteepBetweenUptoRow.holds Tryd.pinned (OpenSpec.upto fnExactSteepBetweenSpec)

end Rows
end Go.Proofs.YtfndejjaedandabDoor
