/-
  NARROWER THAN 'FOR EVERY INPUT', by the rows' own cells (each row's printed sentence says how): FnFillByQueue: laid · FnExactFillByQueue: laid · FnSpillOf: laid · FnPassBetween: laid · FnKeepsOf: laid · FnStandsOf: laid · FnPassesOverPits: laid · FnMergesOf: laid · FnExactPassBetween: laid · FnExactKeepsOf: laid · FnExactStandsOf: laid · FnExactMergesOf: laid.
  DERIVED. THE GIVEN ROWS OF THIS SEAT. 12 by the template 'for every input the law returns true; each argument reads behind the call as it read before'; 0 by the template 'total and deterministic' (their statements: YthlanmnjkonbjaaDoorTotals.lean).
  GIVEN WITH THE SEED: the statements are not yours to turn. If you find one false, say at which input.
  Laid BY PROGRAM, IN A SANDBOX (cutbox-rows.mjs): the forced cells as the released guide's own fill.sh prints them over the translation 7d7d8874e9b58915… (all of the seat's roots in one cut). By AI agents, Wed Nov 11 2026. No macro, syntax, notation, axiom, sorry.
-/
import Derived.Test.YthlanmnjkonbjaaDoorChecked
import GoSem.Claim
import GoSem.ClaimJoined
import GoSem.ClaimMapViews
import Derived.JoinedTies
import Derived.KernelRfl
namespace Go.Proofs.YthlanmnjkonbjaaDoor
/- THE CELL 'sum', in the pinned program and in every row, IS THE sha256 OF THE DUMP (.gsa) THAT YthlanmnjkonbjaaDoorProg.lean LOADS. Nothing in Lean hashes anything: it is a label: what it is worth is what the hold of that sum in a sandbox is worth. -/
noncomputable def Tryd.pinned : Pinned := { name := "ythlanmnjkonbjaadoor", sum := "7d7d8874e9b58915a8af0a9559eec8e803dedd66d043d4546edca9051838da22", checked := Tryd.checked }
namespace Rows
def none {H : Type} : Left H := { results := [], args := [] }

/- WHAT THE LISTED PACKAGE-LEVEL VARIABLES READ AS WHEN THE CALL BEGINS. Each datum BY PROGRAM (the guide's laid-datum.mjs) off the statement by which the dump's own 'gosem.cut.vars' lays the variable. In a bare row this is a premise. The card (YthlanmnjkonbjaaDoorCards.lean) ties it to the program's text. -/
def laid_loop_example_wateronheights_impl_steps {H : Type} : DataW H := .agg [.agg [.lit (.int .i64 (-1)), .lit (.int .i64 0)], .agg [.lit (.int .i64 0), .lit (.int .i64 (-1))], .agg [.lit (.int .i64 0), .lit (.int .i64 1)], .agg [.lit (.int .i64 1), .lit (.int .i64 0)]]

/-- 'laws.FnFillByQueue': WHATEVER THE INPUT: true; the input reads as it did. -/
def fnFillByQueueSpec : ChangeSpec := { name := "fnFillByQueue", vars := ["loop.example/wateronheights/impl.steps"], fn := fun _ => fun
  | [d, g1] => { results := [.lit (.bool true)], args := [d], vars := [g1] }
  | _ => none }
def fnFillByQueueRow : OpenClaim := { program := "ythlanmnjkonbjaadoor", sum := "7d7d8874e9b58915a8af0a9559eec8e803dedd66d043d4546edca9051838da22", func := "loop.example/wateronheights/laws.FnFillByQueue", spec := "fnFillByQueue", inPlace := ["slices.overlaps[loop.example/wateronheights/impl.standing]"], unfollowed := true, recurses := true, named := ["loop.example/wateronheights/impl.steps"], apart := false, laid := [("loop.example/wateronheights/impl.steps", laid_loop_example_wateronheights_impl_steps)] }
def FnFillByQueueSaid : Prop := fnFillByQueueRow.holds Tryd.pinned (OpenSpec.ofChange fnFillByQueueSpec)

/-- ITS FALSE NEIGHBOUR: 'it returns false'. Refute it at one input. -/
def fnFillByQueueWrong : ChangeSpec := { name := "fnFillByQueue", vars := ["loop.example/wateronheights/impl.steps"], fn := fun _ => fun
  | [d, g1] => { results := [.lit (.bool false)], args := [d], vars := [g1] }
  | _ => none }
def FnFillByQueueWrongFalsely : Prop := fnFillByQueueRow.holds Tryd.pinned (OpenSpec.ofChange fnFillByQueueWrong)

/-- 'laws.FnExactFillByQueue': WHATEVER THE INPUT: true; the input reads as it did. -/
def fnExactFillByQueueSpec : ChangeSpec := { name := "fnExactFillByQueue", vars := ["loop.example/wateronheights/impl.steps"], fn := fun _ => fun
  | [d, g1] => { results := [.lit (.bool true)], args := [d], vars := [g1] }
  | _ => none }
def fnExactFillByQueueRow : OpenClaim := { program := "ythlanmnjkonbjaadoor", sum := "7d7d8874e9b58915a8af0a9559eec8e803dedd66d043d4546edca9051838da22", func := "loop.example/wateronheights/laws.FnExactFillByQueue", spec := "fnExactFillByQueue", inPlace := ["slices.overlaps[loop.example/wateronheights/impl.standing]"], unfollowed := true, recurses := true, named := ["loop.example/wateronheights/impl.steps"], apart := false, laid := [("loop.example/wateronheights/impl.steps", laid_loop_example_wateronheights_impl_steps)] }
def FnExactFillByQueueSaid : Prop := fnExactFillByQueueRow.holds Tryd.pinned (OpenSpec.ofChange fnExactFillByQueueSpec)

/-- ITS FALSE NEIGHBOUR: 'it returns false'. Refute it at one input. -/
def fnExactFillByQueueWrong : ChangeSpec := { name := "fnExactFillByQueue", vars := ["loop.example/wateronheights/impl.steps"], fn := fun _ => fun
  | [d, g1] => { results := [.lit (.bool false)], args := [d], vars := [g1] }
  | _ => none }
def FnExactFillByQueueWrongFalsely : Prop := fnExactFillByQueueRow.holds Tryd.pinned (OpenSpec.ofChange fnExactFillByQueueWrong)

/-- 'laws.FnSpillOf': WHATEVER THE INPUT: true; the input reads as it did. -/
def fnSpillOfSpec : ChangeSpec := { name := "fnSpillOf", vars := ["loop.example/wateronheights/impl.steps"], fn := fun _ => fun
  | [d, g1] => { results := [.lit (.bool true)], args := [d], vars := [g1] }
  | _ => none }
def fnSpillOfRow : OpenClaim := { program := "ythlanmnjkonbjaadoor", sum := "7d7d8874e9b58915a8af0a9559eec8e803dedd66d043d4546edca9051838da22", func := "loop.example/wateronheights/laws.FnSpillOf", spec := "fnSpillOf", inPlace := ["slices.overlaps[loop.example/wateronheights/impl.standing]"], unfollowed := true, recurses := true, named := ["loop.example/wateronheights/impl.steps"], apart := false, laid := [("loop.example/wateronheights/impl.steps", laid_loop_example_wateronheights_impl_steps)] }
def FnSpillOfSaid : Prop := fnSpillOfRow.holds Tryd.pinned (OpenSpec.ofChange fnSpillOfSpec)

/-- ITS FALSE NEIGHBOUR: 'it returns false'. Refute it at one input. -/
def fnSpillOfWrong : ChangeSpec := { name := "fnSpillOf", vars := ["loop.example/wateronheights/impl.steps"], fn := fun _ => fun
  | [d, g1] => { results := [.lit (.bool false)], args := [d], vars := [g1] }
  | _ => none }
def FnSpillOfWrongFalsely : Prop := fnSpillOfRow.holds Tryd.pinned (OpenSpec.ofChange fnSpillOfWrong)

/-- 'laws.FnPassBetween': WHATEVER THE INPUT: true; the input reads as it did. -/
def fnPassBetweenSpec : ChangeSpec := { name := "fnPassBetween", vars := ["loop.example/wateronheights/impl.steps"], fn := fun _ => fun
  | [d, g1] => { results := [.lit (.bool true)], args := [d], vars := [g1] }
  | _ => none }
def fnPassBetweenRow : OpenClaim := { program := "ythlanmnjkonbjaadoor", sum := "7d7d8874e9b58915a8af0a9559eec8e803dedd66d043d4546edca9051838da22", func := "loop.example/wateronheights/laws.FnPassBetween", spec := "fnPassBetween", inPlace := ["slices.overlaps[loop.example/wateronheights/impl.standing]"], unfollowed := true, recurses := true, named := ["loop.example/wateronheights/impl.steps"], apart := false, laid := [("loop.example/wateronheights/impl.steps", laid_loop_example_wateronheights_impl_steps)] }
def FnPassBetweenSaid : Prop := fnPassBetweenRow.holds Tryd.pinned (OpenSpec.ofChange fnPassBetweenSpec)

/-- ITS FALSE NEIGHBOUR: 'it returns false'. Refute it at one input. -/
def fnPassBetweenWrong : ChangeSpec := { name := "fnPassBetween", vars := ["loop.example/wateronheights/impl.steps"], fn := fun _ => fun
  | [d, g1] => { results := [.lit (.bool false)], args := [d], vars := [g1] }
  | _ => none }
def FnPassBetweenWrongFalsely : Prop := fnPassBetweenRow.holds Tryd.pinned (OpenSpec.ofChange fnPassBetweenWrong)

/-- 'laws.FnKeepsOf': WHATEVER THE INPUT: true; the input reads as it did. -/
def fnKeepsOfSpec : ChangeSpec := { name := "fnKeepsOf", vars := ["loop.example/wateronheights/impl.steps"], fn := fun _ => fun
  | [d, g1] => { results := [.lit (.bool true)], args := [d], vars := [g1] }
  | _ => none }
def fnKeepsOfRow : OpenClaim := { program := "ythlanmnjkonbjaadoor", sum := "7d7d8874e9b58915a8af0a9559eec8e803dedd66d043d4546edca9051838da22", func := "loop.example/wateronheights/laws.FnKeepsOf", spec := "fnKeepsOf", inPlace := ["slices.overlaps[loop.example/wateronheights/impl.standing]"], unfollowed := true, recurses := true, named := ["loop.example/wateronheights/impl.steps"], apart := false, laid := [("loop.example/wateronheights/impl.steps", laid_loop_example_wateronheights_impl_steps)] }
def FnKeepsOfSaid : Prop := fnKeepsOfRow.holds Tryd.pinned (OpenSpec.ofChange fnKeepsOfSpec)

/-- ITS FALSE NEIGHBOUR: 'it returns false'. Refute it at one input. -/
def fnKeepsOfWrong : ChangeSpec := { name := "fnKeepsOf", vars := ["loop.example/wateronheights/impl.steps"], fn := fun _ => fun
  | [d, g1] => { results := [.lit (.bool false)], args := [d], vars := [g1] }
  | _ => none }
def FnKeepsOfWrongFalsely : Prop := fnKeepsOfRow.holds Tryd.pinned (OpenSpec.ofChange fnKeepsOfWrong)

/-- 'laws.FnStandsOf': WHATEVER THE INPUT: true; the input reads as it did. -/
def fnStandsOfSpec : ChangeSpec := { name := "fnStandsOf", vars := ["loop.example/wateronheights/impl.steps"], fn := fun _ => fun
  | [d, g1] => { results := [.lit (.bool true)], args := [d], vars := [g1] }
  | _ => none }
def fnStandsOfRow : OpenClaim := { program := "ythlanmnjkonbjaadoor", sum := "7d7d8874e9b58915a8af0a9559eec8e803dedd66d043d4546edca9051838da22", func := "loop.example/wateronheights/laws.FnStandsOf", spec := "fnStandsOf", inPlace := ["slices.overlaps[loop.example/wateronheights/impl.standing]"], unfollowed := true, recurses := true, named := ["loop.example/wateronheights/impl.steps"], apart := false, laid := [("loop.example/wateronheights/impl.steps", laid_loop_example_wateronheights_impl_steps)] }
def FnStandsOfSaid : Prop := fnStandsOfRow.holds Tryd.pinned (OpenSpec.ofChange fnStandsOfSpec)

/-- ITS FALSE NEIGHBOUR: 'it returns false'. Refute it at one input. -/
def fnStandsOfWrong : ChangeSpec := { name := "fnStandsOf", vars := ["loop.example/wateronheights/impl.steps"], fn := fun _ => fun
  | [d, g1] => { results := [.lit (.bool false)], args := [d], vars := [g1] }
  | _ => none }
def FnStandsOfWrongFalsely : Prop := fnStandsOfRow.holds Tryd.pinned (OpenSpec.ofChange fnStandsOfWrong)

/-- 'laws.FnPassesOverPits': WHATEVER THE INPUT: true; the input reads as it did. -/
def fnPassesOverPitsSpec : ChangeSpec := { name := "fnPassesOverPits", vars := ["loop.example/wateronheights/impl.steps"], fn := fun _ => fun
  | [d, g1] => { results := [.lit (.bool true)], args := [d], vars := [g1] }
  | _ => none }
def fnPassesOverPitsRow : OpenClaim := { program := "ythlanmnjkonbjaadoor", sum := "7d7d8874e9b58915a8af0a9559eec8e803dedd66d043d4546edca9051838da22", func := "loop.example/wateronheights/laws.FnPassesOverPits", spec := "fnPassesOverPits", inPlace := ["slices.overlaps[loop.example/wateronheights/impl.standing]"], unfollowed := true, recurses := true, named := ["loop.example/wateronheights/impl.steps"], apart := false, laid := [("loop.example/wateronheights/impl.steps", laid_loop_example_wateronheights_impl_steps)] }
def FnPassesOverPitsSaid : Prop := fnPassesOverPitsRow.holds Tryd.pinned (OpenSpec.ofChange fnPassesOverPitsSpec)

/-- ITS FALSE NEIGHBOUR: 'it returns false'. Refute it at one input. -/
def fnPassesOverPitsWrong : ChangeSpec := { name := "fnPassesOverPits", vars := ["loop.example/wateronheights/impl.steps"], fn := fun _ => fun
  | [d, g1] => { results := [.lit (.bool false)], args := [d], vars := [g1] }
  | _ => none }
def FnPassesOverPitsWrongFalsely : Prop := fnPassesOverPitsRow.holds Tryd.pinned (OpenSpec.ofChange fnPassesOverPitsWrong)

/-- 'laws.FnMergesOf': WHATEVER THE INPUT: true; the input reads as it did. -/
def fnMergesOfSpec : ChangeSpec := { name := "fnMergesOf", vars := ["loop.example/wateronheights/impl.steps"], fn := fun _ => fun
  | [d, g1] => { results := [.lit (.bool true)], args := [d], vars := [g1] }
  | _ => none }
def fnMergesOfRow : OpenClaim := { program := "ythlanmnjkonbjaadoor", sum := "7d7d8874e9b58915a8af0a9559eec8e803dedd66d043d4546edca9051838da22", func := "loop.example/wateronheights/laws.FnMergesOf", spec := "fnMergesOf", inPlace := ["slices.overlaps[loop.example/wateronheights/impl.standing]"], unfollowed := true, recurses := true, named := ["loop.example/wateronheights/impl.steps"], apart := false, laid := [("loop.example/wateronheights/impl.steps", laid_loop_example_wateronheights_impl_steps)] }
def FnMergesOfSaid : Prop := fnMergesOfRow.holds Tryd.pinned (OpenSpec.ofChange fnMergesOfSpec)

/-- ITS FALSE NEIGHBOUR: 'it returns false'. Refute it at one input. -/
def fnMergesOfWrong : ChangeSpec := { name := "fnMergesOf", vars := ["loop.example/wateronheights/impl.steps"], fn := fun _ => fun
  | [d, g1] => { results := [.lit (.bool false)], args := [d], vars := [g1] }
  | _ => none }
def FnMergesOfWrongFalsely : Prop := fnMergesOfRow.holds Tryd.pinned (OpenSpec.ofChange fnMergesOfWrong)

/-- 'laws.FnExactPassBetween': WHATEVER THE INPUT: true; the input reads as it did. -/
def fnExactPassBetweenSpec : ChangeSpec := { name := "fnExactPassBetween", vars := ["loop.example/wateronheights/impl.steps"], fn := fun _ => fun
  | [d1, d2, d3, g1] => { results := [.lit (.bool true)], args := [d1, d2, d3], vars := [g1] }
  | _ => none }
def fnExactPassBetweenRow : OpenClaim := { program := "ythlanmnjkonbjaadoor", sum := "7d7d8874e9b58915a8af0a9559eec8e803dedd66d043d4546edca9051838da22", func := "loop.example/wateronheights/laws.FnExactPassBetween", spec := "fnExactPassBetween", inPlace := ["slices.overlaps[loop.example/wateronheights/impl.standing]"], unfollowed := true, recurses := true, named := ["loop.example/wateronheights/impl.steps"], apart := false, laid := [("loop.example/wateronheights/impl.steps", laid_loop_example_wateronheights_impl_steps)] }
def FnExactPassBetweenSaid : Prop := fnExactPassBetweenRow.holds Tryd.pinned (OpenSpec.ofChange fnExactPassBetweenSpec)

/-- ITS FALSE NEIGHBOUR: 'it returns false'. Refute it at one input. -/
def fnExactPassBetweenWrong : ChangeSpec := { name := "fnExactPassBetween", vars := ["loop.example/wateronheights/impl.steps"], fn := fun _ => fun
  | [d1, d2, d3, g1] => { results := [.lit (.bool false)], args := [d1, d2, d3], vars := [g1] }
  | _ => none }
def FnExactPassBetweenWrongFalsely : Prop := fnExactPassBetweenRow.holds Tryd.pinned (OpenSpec.ofChange fnExactPassBetweenWrong)

/-- 'laws.FnExactKeepsOf': WHATEVER THE INPUT: true; the input reads as it did. -/
def fnExactKeepsOfSpec : ChangeSpec := { name := "fnExactKeepsOf", vars := ["loop.example/wateronheights/impl.steps"], fn := fun _ => fun
  | [d, g1] => { results := [.lit (.bool true)], args := [d], vars := [g1] }
  | _ => none }
def fnExactKeepsOfRow : OpenClaim := { program := "ythlanmnjkonbjaadoor", sum := "7d7d8874e9b58915a8af0a9559eec8e803dedd66d043d4546edca9051838da22", func := "loop.example/wateronheights/laws.FnExactKeepsOf", spec := "fnExactKeepsOf", inPlace := ["slices.overlaps[loop.example/wateronheights/impl.standing]"], unfollowed := true, recurses := true, named := ["loop.example/wateronheights/impl.steps"], apart := false, laid := [("loop.example/wateronheights/impl.steps", laid_loop_example_wateronheights_impl_steps)] }
def FnExactKeepsOfSaid : Prop := fnExactKeepsOfRow.holds Tryd.pinned (OpenSpec.ofChange fnExactKeepsOfSpec)

/-- ITS FALSE NEIGHBOUR: 'it returns false'. Refute it at one input. -/
def fnExactKeepsOfWrong : ChangeSpec := { name := "fnExactKeepsOf", vars := ["loop.example/wateronheights/impl.steps"], fn := fun _ => fun
  | [d, g1] => { results := [.lit (.bool false)], args := [d], vars := [g1] }
  | _ => none }
def FnExactKeepsOfWrongFalsely : Prop := fnExactKeepsOfRow.holds Tryd.pinned (OpenSpec.ofChange fnExactKeepsOfWrong)

/-- 'laws.FnExactStandsOf': WHATEVER THE INPUT: true; the input reads as it did. -/
def fnExactStandsOfSpec : ChangeSpec := { name := "fnExactStandsOf", vars := ["loop.example/wateronheights/impl.steps"], fn := fun _ => fun
  | [d, g1] => { results := [.lit (.bool true)], args := [d], vars := [g1] }
  | _ => none }
def fnExactStandsOfRow : OpenClaim := { program := "ythlanmnjkonbjaadoor", sum := "7d7d8874e9b58915a8af0a9559eec8e803dedd66d043d4546edca9051838da22", func := "loop.example/wateronheights/laws.FnExactStandsOf", spec := "fnExactStandsOf", inPlace := ["slices.overlaps[loop.example/wateronheights/impl.standing]"], unfollowed := true, recurses := true, named := ["loop.example/wateronheights/impl.steps"], apart := false, laid := [("loop.example/wateronheights/impl.steps", laid_loop_example_wateronheights_impl_steps)] }
def FnExactStandsOfSaid : Prop := fnExactStandsOfRow.holds Tryd.pinned (OpenSpec.ofChange fnExactStandsOfSpec)

/-- ITS FALSE NEIGHBOUR: 'it returns false'. Refute it at one input. -/
def fnExactStandsOfWrong : ChangeSpec := { name := "fnExactStandsOf", vars := ["loop.example/wateronheights/impl.steps"], fn := fun _ => fun
  | [d, g1] => { results := [.lit (.bool false)], args := [d], vars := [g1] }
  | _ => none }
def FnExactStandsOfWrongFalsely : Prop := fnExactStandsOfRow.holds Tryd.pinned (OpenSpec.ofChange fnExactStandsOfWrong)

/-- 'laws.FnExactMergesOf': WHATEVER THE INPUT: true; the input reads as it did. -/
def fnExactMergesOfSpec : ChangeSpec := { name := "fnExactMergesOf", vars := ["loop.example/wateronheights/impl.steps"], fn := fun _ => fun
  | [d, g1] => { results := [.lit (.bool true)], args := [d], vars := [g1] }
  | _ => none }
def fnExactMergesOfRow : OpenClaim := { program := "ythlanmnjkonbjaadoor", sum := "7d7d8874e9b58915a8af0a9559eec8e803dedd66d043d4546edca9051838da22", func := "loop.example/wateronheights/laws.FnExactMergesOf", spec := "fnExactMergesOf", unfollowed := true, recurses := true, named := ["loop.example/wateronheights/impl.steps"], apart := false, laid := [("loop.example/wateronheights/impl.steps", laid_loop_example_wateronheights_impl_steps)] }
def FnExactMergesOfSaid : Prop := fnExactMergesOfRow.holds Tryd.pinned (OpenSpec.ofChange fnExactMergesOfSpec)

/-- ITS FALSE NEIGHBOUR: 'it returns false'. Refute it at one input. -/
def fnExactMergesOfWrong : ChangeSpec := { name := "fnExactMergesOf", vars := ["loop.example/wateronheights/impl.steps"], fn := fun _ => fun
  | [d, g1] => { results := [.lit (.bool false)], args := [d], vars := [g1] }
  | _ => none }
def FnExactMergesOfWrongFalsely : Prop := fnExactMergesOfRow.holds Tryd.pinned (OpenSpec.ofChange fnExactMergesOfWrong)

/- THE SECOND FORM. 'bulk': how many values and letters a reading holds, each counted each time it is reached (what is shared counts as often as it is met; a slice's spare places count too). A statement '..UptoSaid' is the law's where the arguments, and the package variables that the reading takes, are together of bulk at most 1048576: NARROWER than '..Said'. Prove '..Said' where nothing that the law and all that it calls make is longer than what came in: it says more and counts as full. Else prove '..UptoSaid'. A law counts once. -/
mutual
def uptoBulk {H : Type} : DataW H → Nat
  | .lit (.string bytes) => bytes.length + 1
  | .lit _ => 1
  | .nil => 1
  | .ptr d => uptoBulk d + 1
  | .slice elems spare => uptoBulkAll elems + uptoBulkAll spare + 1
  | .agg parts => uptoBulkAll parts + 1
  | .iface _ d => uptoBulk d + 1
  | .map entries => uptoBulkEntries entries + 1
  | .held _ => 1
def uptoBulkAll {H : Type} : List (DataW H) → Nat
  | [] => 0
  | d :: r => uptoBulk d + uptoBulkAll r
def uptoBulkEntries {H : Type} : List (Lit × DataW H) → Nat
  | [] => 0
  | x :: r => uptoBulkEntry x + uptoBulkEntries r
def uptoBulkEntry {H : Type} : Lit × DataW H → Nat
  | (.string bytes, d) => bytes.length + uptoBulk d + 1
  | (_, d) => uptoBulk d + 1
 end
def uptoSmall : (H : Type) → List (DataW H) → Bool := fun _ ds => decide (uptoBulkAll ds ≤ 1048576)
def OpenSpec.upto (s : _root_.Go.ChangeSpec) : _root_.Go.OpenSpec := { _root_.Go.OpenSpec.ofChange s with cond := some uptoSmall }

/-- 'laws.FnFillByQueue', WHERE WHAT IT READS IS OF BULK AT MOST 1048576: true; the input reads as it did. -/
def fnFillByQueueUptoRow : OpenClaim := { program := "ythlanmnjkonbjaadoor", sum := "7d7d8874e9b58915a8af0a9559eec8e803dedd66d043d4546edca9051838da22", func := "loop.example/wateronheights/laws.FnFillByQueue", spec := "fnFillByQueue", inPlace := ["slices.overlaps[loop.example/wateronheights/impl.standing]"], unfollowed := true, recurses := true, named := ["loop.example/wateronheights/impl.steps"], apart := false, laid := [("loop.example/wateronheights/impl.steps", laid_loop_example_wateronheights_impl_steps)], narrowed := true }
def FnFillByQueueUptoSaid : Prop := fnFillByQueueUptoRow.holds Tryd.pinned (OpenSpec.upto fnFillByQueueSpec)

/-- 'laws.FnExactFillByQueue', WHERE WHAT IT READS IS OF BULK AT MOST 1048576: true; the input reads as it did. -/
def fnExactFillByQueueUptoRow : OpenClaim := { program := "ythlanmnjkonbjaadoor", sum := "7d7d8874e9b58915a8af0a9559eec8e803dedd66d043d4546edca9051838da22", func := "loop.example/wateronheights/laws.FnExactFillByQueue", spec := "fnExactFillByQueue", inPlace := ["slices.overlaps[loop.example/wateronheights/impl.standing]"], unfollowed := true, recurses := true, named := ["loop.example/wateronheights/impl.steps"], apart := false, laid := [("loop.example/wateronheights/impl.steps", laid_loop_example_wateronheights_impl_steps)], narrowed := true }
def FnExactFillByQueueUptoSaid : Prop := fnExactFillByQueueUptoRow.holds Tryd.pinned (OpenSpec.upto fnExactFillByQueueSpec)

/-- 'laws.FnSpillOf', WHERE WHAT IT READS IS OF BULK AT MOST 1048576: true; the input reads as it did. -/
def fnSpillOfUptoRow : OpenClaim := { program := "ythlanmnjkonbjaadoor", sum := "7d7d8874e9b58915a8af0a9559eec8e803dedd66d043d4546edca9051838da22", func := "loop.example/wateronheights/laws.FnSpillOf", spec := "fnSpillOf", inPlace := ["slices.overlaps[loop.example/wateronheights/impl.standing]"], unfollowed := true, recurses := true, named := ["loop.example/wateronheights/impl.steps"], apart := false, laid := [("loop.example/wateronheights/impl.steps", laid_loop_example_wateronheights_impl_steps)], narrowed := true }
def FnSpillOfUptoSaid : Prop := fnSpillOfUptoRow.holds Tryd.pinned (OpenSpec.upto fnSpillOfSpec)

/-- 'laws.FnPassBetween', WHERE WHAT IT READS IS OF BULK AT MOST 1048576: true; the input reads as it did. -/
def fnPassBetweenUptoRow : OpenClaim := { program := "ythlanmnjkonbjaadoor", sum := "7d7d8874e9b58915a8af0a9559eec8e803dedd66d043d4546edca9051838da22", func := "loop.example/wateronheights/laws.FnPassBetween", spec := "fnPassBetween", inPlace := ["slices.overlaps[loop.example/wateronheights/impl.standing]"], unfollowed := true, recurses := true, named := ["loop.example/wateronheights/impl.steps"], apart := false, laid := [("loop.example/wateronheights/impl.steps", laid_loop_example_wateronheights_impl_steps)], narrowed := true }
def FnPassBetweenUptoSaid : Prop := fnPassBetweenUptoRow.holds Tryd.pinned (OpenSpec.upto fnPassBetweenSpec)

/-- 'laws.FnKeepsOf', WHERE WHAT IT READS IS OF BULK AT MOST 1048576: true; the input reads as it did. -/
def fnKeepsOfUptoRow : OpenClaim := { program := "ythlanmnjkonbjaadoor", sum := "7d7d8874e9b58915a8af0a9559eec8e803dedd66d043d4546edca9051838da22", func := "loop.example/wateronheights/laws.FnKeepsOf", spec := "fnKeepsOf", inPlace := ["slices.overlaps[loop.example/wateronheights/impl.standing]"], unfollowed := true, recurses := true, named := ["loop.example/wateronheights/impl.steps"], apart := false, laid := [("loop.example/wateronheights/impl.steps", laid_loop_example_wateronheights_impl_steps)], narrowed := true }
def FnKeepsOfUptoSaid : Prop := fnKeepsOfUptoRow.holds Tryd.pinned (OpenSpec.upto fnKeepsOfSpec)

/-- 'laws.FnStandsOf', WHERE WHAT IT READS IS OF BULK AT MOST 1048576: true; the input reads as it did. -/
def fnStandsOfUptoRow : OpenClaim := { program := "ythlanmnjkonbjaadoor", sum := "7d7d8874e9b58915a8af0a9559eec8e803dedd66d043d4546edca9051838da22", func := "loop.example/wateronheights/laws.FnStandsOf", spec := "fnStandsOf", inPlace := ["slices.overlaps[loop.example/wateronheights/impl.standing]"], unfollowed := true, recurses := true, named := ["loop.example/wateronheights/impl.steps"], apart := false, laid := [("loop.example/wateronheights/impl.steps", laid_loop_example_wateronheights_impl_steps)], narrowed := true }
def FnStandsOfUptoSaid : Prop := fnStandsOfUptoRow.holds Tryd.pinned (OpenSpec.upto fnStandsOfSpec)

/-- 'laws.FnPassesOverPits', WHERE WHAT IT READS IS OF BULK AT MOST 1048576: true; the input reads as it did. -/
def fnPassesOverPitsUptoRow : OpenClaim := { program := "ythlanmnjkonbjaadoor", sum := "7d7d8874e9b58915a8af0a9559eec8e803dedd66d043d4546edca9051838da22", func := "loop.example/wateronheights/laws.FnPassesOverPits", spec := "fnPassesOverPits", inPlace := ["slices.overlaps[loop.example/wateronheights/impl.standing]"], unfollowed := true, recurses := true, named := ["loop.example/wateronheights/impl.steps"], apart := false, laid := [("loop.example/wateronheights/impl.steps", laid_loop_example_wateronheights_impl_steps)], narrowed := true }
def FnPassesOverPitsUptoSaid : Prop := fnPassesOverPitsUptoRow.holds Tryd.pinned (OpenSpec.upto fnPassesOverPitsSpec)

/-- 'laws.FnMergesOf', WHERE WHAT IT READS IS OF BULK AT MOST 1048576: true; the input reads as it did. -/
def fnMergesOfUptoRow : OpenClaim := { program := "ythlanmnjkonbjaadoor", sum := "7d7d8874e9b58915a8af0a9559eec8e803dedd66d043d4546edca9051838da22", func := "loop.example/wateronheights/laws.FnMergesOf", spec := "fnMergesOf", inPlace := ["slices.overlaps[loop.example/wateronheights/impl.standing]"], unfollowed := true, recurses := true, named := ["loop.example/wateronheights/impl.steps"], apart := false, laid := [("loop.example/wateronheights/impl.steps", laid_loop_example_wateronheights_impl_steps)], narrowed := true }
def FnMergesOfUptoSaid : Prop := fnMergesOfUptoRow.holds Tryd.pinned (OpenSpec.upto fnMergesOfSpec)

/-- 'laws.FnExactPassBetween', WHERE WHAT IT READS IS OF BULK AT MOST 1048576: true; the input reads as it did. -/
def fnExactPassBetweenUptoRow : OpenClaim := { program := "ythlanmnjkonbjaadoor", sum := "7d7d8874e9b58915a8af0a9559eec8e803dedd66d043d4546edca9051838da22", func := "loop.example/wateronheights/laws.FnExactPassBetween", spec := "fnExactPassBetween", inPlace := ["slices.overlaps[loop.example/wateronheights/impl.standing]"], unfollowed := true, recurses := true, named := ["loop.example/wateronheights/impl.steps"], apart := false, laid := [("loop.example/wateronheights/impl.steps", laid_loop_example_wateronheights_impl_steps)], narrowed := true }
def FnExactPassBetweenUptoSaid : Prop := fnExactPassBetweenUptoRow.holds Tryd.pinned (OpenSpec.upto fnExactPassBetweenSpec)

/-- 'laws.FnExactKeepsOf', WHERE WHAT IT READS IS OF BULK AT MOST 1048576: true; the input reads as it did. -/
def fnExactKeepsOfUptoRow : OpenClaim := { program := "ythlanmnjkonbjaadoor", sum := "7d7d8874e9b58915a8af0a9559eec8e803dedd66d043d4546edca9051838da22", func := "loop.example/wateronheights/laws.FnExactKeepsOf", spec := "fnExactKeepsOf", inPlace := ["slices.overlaps[loop.example/wateronheights/impl.standing]"], unfollowed := true, recurses := true, named := ["loop.example/wateronheights/impl.steps"], apart := false, laid := [("loop.example/wateronheights/impl.steps", laid_loop_example_wateronheights_impl_steps)], narrowed := true }
def FnExactKeepsOfUptoSaid : Prop := fnExactKeepsOfUptoRow.holds Tryd.pinned (OpenSpec.upto fnExactKeepsOfSpec)

/-- 'laws.FnExactStandsOf', WHERE WHAT IT READS IS OF BULK AT MOST 1048576: true; the input reads as it did. -/
def fnExactStandsOfUptoRow : OpenClaim := { program := "ythlanmnjkonbjaadoor", sum := "7d7d8874e9b58915a8af0a9559eec8e803dedd66d043d4546edca9051838da22", func := "loop.example/wateronheights/laws.FnExactStandsOf", spec := "fnExactStandsOf", inPlace := ["slices.overlaps[loop.example/wateronheights/impl.standing]"], unfollowed := true, recurses := true, named := ["loop.example/wateronheights/impl.steps"], apart := false, laid := [("loop.example/wateronheights/impl.steps", laid_loop_example_wateronheights_impl_steps)], narrowed := true }
def FnExactStandsOfUptoSaid : Prop := fnExactStandsOfUptoRow.holds Tryd.pinned (OpenSpec.upto fnExactStandsOfSpec)

/-- 'laws.FnExactMergesOf', WHERE WHAT IT READS IS OF BULK AT MOST 1048576: true; the input reads as it did. -/
def fnExactMergesOfUptoRow : OpenClaim := { program := "ythlanmnjkonbjaadoor", sum := "7d7d8874e9b58915a8af0a9559eec8e803dedd66d043d4546edca9051838da22", func := "loop.example/wateronheights/laws.FnExactMergesOf", spec := "fnExactMergesOf", unfollowed := true, recurses := true, named := ["loop.example/wateronheights/impl.steps"], apart := false, laid := [("loop.example/wateronheights/impl.steps", laid_loop_example_wateronheights_impl_steps)], narrowed := true }
def FnExactMergesOfUptoSaid : Prop := fnExactMergesOfUptoRow.holds Tryd.pinned (OpenSpec.upto fnExactMergesOfSpec)

end Rows
end Go.Proofs.YthlanmnjkonbjaaDoor
