/-
  NARROWER THAN 'FOR EVERY INPUT', by the rows' own cells (each row's printed sentence says how): FnPeaksOf: laid · FnPitsOf: laid · FnExactPeaksOf: laid · FnExactPitsOf: laid · FnKeepsOf: laid · FnStandsOf: laid · FnPassesOverPits: laid · FnExactKeepsOf: laid · FnExactStandsOf: laid.
  DERIVED. THE GIVEN ROWS OF THIS SEAT. 9 by the template 'for every input the law returns true; each argument reads behind the call as it read before'; 0 by the template 'total and deterministic' (their statements: YtdjjimnfhfdjdaaDoorTotals.lean).
  GIVEN WITH THE SEED: the statements are not yours to turn. If you find one false, say at which input.
  Laid BY PROGRAM, IN A SANDBOX (cutbox-rows.mjs): the forced cells as the released guide's own fill.sh prints them over the translation 98a54155bb9256ae… (all of the seat's roots in one cut). By AI agents, Wed Nov 11 2026. No macro, syntax, notation, axiom, sorry.
-/
import Derived.Test.YtdjjimnfhfdjdaaDoorChecked
import GoSem.Claim
import GoSem.ClaimJoined
import GoSem.ClaimMapViews
import Derived.JoinedTies
import Derived.KernelRfl
namespace Go.Proofs.YtdjjimnfhfdjdaaDoor
/- THE CELL 'sum', in the pinned program and in every row, IS THE sha256 OF THE DUMP (.gsa) THAT YtdjjimnfhfdjdaaDoorProg.lean LOADS. Nothing in Lean hashes anything: it is a label: what it is worth is what the hold of that sum in a sandbox is worth. -/
noncomputable def Tryd.pinned : Pinned := { name := "ytdjjimnfhfdjdaadoor", sum := "98a54155bb9256ae73b27331850beda625349dda2e136466fc5be4779968bb06", checked := Tryd.checked }
namespace Rows
def none {H : Type} : Left H := { results := [], args := [] }

/- WHAT THE LISTED PACKAGE-LEVEL VARIABLES READ AS WHEN THE CALL BEGINS. Each datum BY PROGRAM (the guide's laid-datum.mjs) off the statement by which the dump's own 'gosem.cut.vars' lays the variable. In a bare row this is a premise. The card (YtdjjimnfhfdjdaaDoorCards.lean) ties it to the program's text. -/
def laid_loop_example_wateronheights_impl_steps {H : Type} : DataW H := .agg [.agg [.lit (.int .i64 (-1)), .lit (.int .i64 0)], .agg [.lit (.int .i64 0), .lit (.int .i64 (-1))], .agg [.lit (.int .i64 0), .lit (.int .i64 1)], .agg [.lit (.int .i64 1), .lit (.int .i64 0)]]

/-- 'laws.FnPeaksOf': WHATEVER THE INPUT: true; the input reads as it did. -/
def fnPeaksOfSpec : ChangeSpec := { name := "fnPeaksOf", vars := ["loop.example/wateronheights/impl.steps"], fn := fun _ => fun
  | [d, g1] => { results := [.lit (.bool true)], args := [d], vars := [g1] }
  | _ => none }
def fnPeaksOfRow : OpenClaim := { program := "ytdjjimnfhfdjdaadoor", sum := "98a54155bb9256ae73b27331850beda625349dda2e136466fc5be4779968bb06", func := "loop.example/wateronheights/laws.FnPeaksOf", spec := "fnPeaksOf", unfollowed := true, recurses := true, named := ["loop.example/wateronheights/impl.steps"], apart := false, laid := [("loop.example/wateronheights/impl.steps", laid_loop_example_wateronheights_impl_steps)] }
def FnPeaksOfSaid : Prop := fnPeaksOfRow.holds Tryd.pinned (OpenSpec.ofChange fnPeaksOfSpec)

/-- ITS FALSE NEIGHBOUR: 'it returns false'. Refute it at one input. -/
def fnPeaksOfWrong : ChangeSpec := { name := "fnPeaksOf", vars := ["loop.example/wateronheights/impl.steps"], fn := fun _ => fun
  | [d, g1] => { results := [.lit (.bool false)], args := [d], vars := [g1] }
  | _ => none }
def FnPeaksOfWrongFalsely : Prop := fnPeaksOfRow.holds Tryd.pinned (OpenSpec.ofChange fnPeaksOfWrong)

/-- 'laws.FnPitsOf': WHATEVER THE INPUT: true; the input reads as it did. -/
def fnPitsOfSpec : ChangeSpec := { name := "fnPitsOf", vars := ["loop.example/wateronheights/impl.steps"], fn := fun _ => fun
  | [d, g1] => { results := [.lit (.bool true)], args := [d], vars := [g1] }
  | _ => none }
def fnPitsOfRow : OpenClaim := { program := "ytdjjimnfhfdjdaadoor", sum := "98a54155bb9256ae73b27331850beda625349dda2e136466fc5be4779968bb06", func := "loop.example/wateronheights/laws.FnPitsOf", spec := "fnPitsOf", unfollowed := true, recurses := true, named := ["loop.example/wateronheights/impl.steps"], apart := false, laid := [("loop.example/wateronheights/impl.steps", laid_loop_example_wateronheights_impl_steps)] }
def FnPitsOfSaid : Prop := fnPitsOfRow.holds Tryd.pinned (OpenSpec.ofChange fnPitsOfSpec)

/-- ITS FALSE NEIGHBOUR: 'it returns false'. Refute it at one input. -/
def fnPitsOfWrong : ChangeSpec := { name := "fnPitsOf", vars := ["loop.example/wateronheights/impl.steps"], fn := fun _ => fun
  | [d, g1] => { results := [.lit (.bool false)], args := [d], vars := [g1] }
  | _ => none }
def FnPitsOfWrongFalsely : Prop := fnPitsOfRow.holds Tryd.pinned (OpenSpec.ofChange fnPitsOfWrong)

/-- 'laws.FnExactPeaksOf': WHATEVER THE INPUT: true; the input reads as it did. -/
def fnExactPeaksOfSpec : ChangeSpec := { name := "fnExactPeaksOf", vars := ["loop.example/wateronheights/impl.steps"], fn := fun _ => fun
  | [d, g1] => { results := [.lit (.bool true)], args := [d], vars := [g1] }
  | _ => none }
def fnExactPeaksOfRow : OpenClaim := { program := "ytdjjimnfhfdjdaadoor", sum := "98a54155bb9256ae73b27331850beda625349dda2e136466fc5be4779968bb06", func := "loop.example/wateronheights/laws.FnExactPeaksOf", spec := "fnExactPeaksOf", unfollowed := true, recurses := true, named := ["loop.example/wateronheights/impl.steps"], apart := false, laid := [("loop.example/wateronheights/impl.steps", laid_loop_example_wateronheights_impl_steps)] }
def FnExactPeaksOfSaid : Prop := fnExactPeaksOfRow.holds Tryd.pinned (OpenSpec.ofChange fnExactPeaksOfSpec)

/-- ITS FALSE NEIGHBOUR: 'it returns false'. Refute it at one input. -/
def fnExactPeaksOfWrong : ChangeSpec := { name := "fnExactPeaksOf", vars := ["loop.example/wateronheights/impl.steps"], fn := fun _ => fun
  | [d, g1] => { results := [.lit (.bool false)], args := [d], vars := [g1] }
  | _ => none }
def FnExactPeaksOfWrongFalsely : Prop := fnExactPeaksOfRow.holds Tryd.pinned (OpenSpec.ofChange fnExactPeaksOfWrong)

/-- 'laws.FnExactPitsOf': WHATEVER THE INPUT: true; the input reads as it did. -/
def fnExactPitsOfSpec : ChangeSpec := { name := "fnExactPitsOf", vars := ["loop.example/wateronheights/impl.steps"], fn := fun _ => fun
  | [d, g1] => { results := [.lit (.bool true)], args := [d], vars := [g1] }
  | _ => none }
def fnExactPitsOfRow : OpenClaim := { program := "ytdjjimnfhfdjdaadoor", sum := "98a54155bb9256ae73b27331850beda625349dda2e136466fc5be4779968bb06", func := "loop.example/wateronheights/laws.FnExactPitsOf", spec := "fnExactPitsOf", unfollowed := true, recurses := true, named := ["loop.example/wateronheights/impl.steps"], apart := false, laid := [("loop.example/wateronheights/impl.steps", laid_loop_example_wateronheights_impl_steps)] }
def FnExactPitsOfSaid : Prop := fnExactPitsOfRow.holds Tryd.pinned (OpenSpec.ofChange fnExactPitsOfSpec)

/-- ITS FALSE NEIGHBOUR: 'it returns false'. Refute it at one input. -/
def fnExactPitsOfWrong : ChangeSpec := { name := "fnExactPitsOf", vars := ["loop.example/wateronheights/impl.steps"], fn := fun _ => fun
  | [d, g1] => { results := [.lit (.bool false)], args := [d], vars := [g1] }
  | _ => none }
def FnExactPitsOfWrongFalsely : Prop := fnExactPitsOfRow.holds Tryd.pinned (OpenSpec.ofChange fnExactPitsOfWrong)

/-- 'laws.FnKeepsOf': WHATEVER THE INPUT: true; the input reads as it did. -/
def fnKeepsOfSpec : ChangeSpec := { name := "fnKeepsOf", vars := ["loop.example/wateronheights/impl.steps"], fn := fun _ => fun
  | [d, g1] => { results := [.lit (.bool true)], args := [d], vars := [g1] }
  | _ => none }
def fnKeepsOfRow : OpenClaim := { program := "ytdjjimnfhfdjdaadoor", sum := "98a54155bb9256ae73b27331850beda625349dda2e136466fc5be4779968bb06", func := "loop.example/wateronheights/laws.FnKeepsOf", spec := "fnKeepsOf", inPlace := ["slices.overlaps[loop.example/wateronheights/impl.standing]"], unfollowed := true, recurses := true, named := ["loop.example/wateronheights/impl.steps"], apart := false, laid := [("loop.example/wateronheights/impl.steps", laid_loop_example_wateronheights_impl_steps)] }
def FnKeepsOfSaid : Prop := fnKeepsOfRow.holds Tryd.pinned (OpenSpec.ofChange fnKeepsOfSpec)

/-- ITS FALSE NEIGHBOUR: 'it returns false'. Refute it at one input. -/
def fnKeepsOfWrong : ChangeSpec := { name := "fnKeepsOf", vars := ["loop.example/wateronheights/impl.steps"], fn := fun _ => fun
  | [d, g1] => { results := [.lit (.bool false)], args := [d], vars := [g1] }
  | _ => none }
def FnKeepsOfWrongFalsely : Prop := fnKeepsOfRow.holds Tryd.pinned (OpenSpec.ofChange fnKeepsOfWrong)

/-- 'laws.FnStandsOf': WHATEVER THE INPUT: true; the input reads as it did. -/
def fnStandsOfSpec : ChangeSpec := { name := "fnStandsOf", vars := ["loop.example/wateronheights/impl.steps"], fn := fun _ => fun
  | [d, g1] => { results := [.lit (.bool true)], args := [d], vars := [g1] }
  | _ => none }
def fnStandsOfRow : OpenClaim := { program := "ytdjjimnfhfdjdaadoor", sum := "98a54155bb9256ae73b27331850beda625349dda2e136466fc5be4779968bb06", func := "loop.example/wateronheights/laws.FnStandsOf", spec := "fnStandsOf", inPlace := ["slices.overlaps[loop.example/wateronheights/impl.standing]"], unfollowed := true, recurses := true, named := ["loop.example/wateronheights/impl.steps"], apart := false, laid := [("loop.example/wateronheights/impl.steps", laid_loop_example_wateronheights_impl_steps)] }
def FnStandsOfSaid : Prop := fnStandsOfRow.holds Tryd.pinned (OpenSpec.ofChange fnStandsOfSpec)

/-- ITS FALSE NEIGHBOUR: 'it returns false'. Refute it at one input. -/
def fnStandsOfWrong : ChangeSpec := { name := "fnStandsOf", vars := ["loop.example/wateronheights/impl.steps"], fn := fun _ => fun
  | [d, g1] => { results := [.lit (.bool false)], args := [d], vars := [g1] }
  | _ => none }
def FnStandsOfWrongFalsely : Prop := fnStandsOfRow.holds Tryd.pinned (OpenSpec.ofChange fnStandsOfWrong)

/-- 'laws.FnPassesOverPits': WHATEVER THE INPUT: true; the input reads as it did. -/
def fnPassesOverPitsSpec : ChangeSpec := { name := "fnPassesOverPits", vars := ["loop.example/wateronheights/impl.steps"], fn := fun _ => fun
  | [d, g1] => { results := [.lit (.bool true)], args := [d], vars := [g1] }
  | _ => none }
def fnPassesOverPitsRow : OpenClaim := { program := "ytdjjimnfhfdjdaadoor", sum := "98a54155bb9256ae73b27331850beda625349dda2e136466fc5be4779968bb06", func := "loop.example/wateronheights/laws.FnPassesOverPits", spec := "fnPassesOverPits", inPlace := ["slices.overlaps[loop.example/wateronheights/impl.standing]"], unfollowed := true, recurses := true, named := ["loop.example/wateronheights/impl.steps"], apart := false, laid := [("loop.example/wateronheights/impl.steps", laid_loop_example_wateronheights_impl_steps)] }
def FnPassesOverPitsSaid : Prop := fnPassesOverPitsRow.holds Tryd.pinned (OpenSpec.ofChange fnPassesOverPitsSpec)

/-- ITS FALSE NEIGHBOUR: 'it returns false'. Refute it at one input. -/
def fnPassesOverPitsWrong : ChangeSpec := { name := "fnPassesOverPits", vars := ["loop.example/wateronheights/impl.steps"], fn := fun _ => fun
  | [d, g1] => { results := [.lit (.bool false)], args := [d], vars := [g1] }
  | _ => none }
def FnPassesOverPitsWrongFalsely : Prop := fnPassesOverPitsRow.holds Tryd.pinned (OpenSpec.ofChange fnPassesOverPitsWrong)

/-- 'laws.FnExactKeepsOf': WHATEVER THE INPUT: true; the input reads as it did. -/
def fnExactKeepsOfSpec : ChangeSpec := { name := "fnExactKeepsOf", vars := ["loop.example/wateronheights/impl.steps"], fn := fun _ => fun
  | [d, g1] => { results := [.lit (.bool true)], args := [d], vars := [g1] }
  | _ => none }
def fnExactKeepsOfRow : OpenClaim := { program := "ytdjjimnfhfdjdaadoor", sum := "98a54155bb9256ae73b27331850beda625349dda2e136466fc5be4779968bb06", func := "loop.example/wateronheights/laws.FnExactKeepsOf", spec := "fnExactKeepsOf", inPlace := ["slices.overlaps[loop.example/wateronheights/impl.standing]"], unfollowed := true, recurses := true, named := ["loop.example/wateronheights/impl.steps"], apart := false, laid := [("loop.example/wateronheights/impl.steps", laid_loop_example_wateronheights_impl_steps)] }
def FnExactKeepsOfSaid : Prop := fnExactKeepsOfRow.holds Tryd.pinned (OpenSpec.ofChange fnExactKeepsOfSpec)

/-- ITS FALSE NEIGHBOUR: 'it returns false'. Refute it at one input. -/
def fnExactKeepsOfWrong : ChangeSpec := { name := "fnExactKeepsOf", vars := ["loop.example/wateronheights/impl.steps"], fn := fun _ => fun
  | [d, g1] => { results := [.lit (.bool false)], args := [d], vars := [g1] }
  | _ => none }
def FnExactKeepsOfWrongFalsely : Prop := fnExactKeepsOfRow.holds Tryd.pinned (OpenSpec.ofChange fnExactKeepsOfWrong)

/-- 'laws.FnExactStandsOf': WHATEVER THE INPUT: true; the input reads as it did. -/
def fnExactStandsOfSpec : ChangeSpec := { name := "fnExactStandsOf", vars := ["loop.example/wateronheights/impl.steps"], fn := fun _ => fun
  | [d, g1] => { results := [.lit (.bool true)], args := [d], vars := [g1] }
  | _ => none }
def fnExactStandsOfRow : OpenClaim := { program := "ytdjjimnfhfdjdaadoor", sum := "98a54155bb9256ae73b27331850beda625349dda2e136466fc5be4779968bb06", func := "loop.example/wateronheights/laws.FnExactStandsOf", spec := "fnExactStandsOf", inPlace := ["slices.overlaps[loop.example/wateronheights/impl.standing]"], unfollowed := true, recurses := true, named := ["loop.example/wateronheights/impl.steps"], apart := false, laid := [("loop.example/wateronheights/impl.steps", laid_loop_example_wateronheights_impl_steps)] }
def FnExactStandsOfSaid : Prop := fnExactStandsOfRow.holds Tryd.pinned (OpenSpec.ofChange fnExactStandsOfSpec)

/-- ITS FALSE NEIGHBOUR: 'it returns false'. Refute it at one input. -/
def fnExactStandsOfWrong : ChangeSpec := { name := "fnExactStandsOf", vars := ["loop.example/wateronheights/impl.steps"], fn := fun _ => fun
  | [d, g1] => { results := [.lit (.bool false)], args := [d], vars := [g1] }
  | _ => none }
def FnExactStandsOfWrongFalsely : Prop := fnExactStandsOfRow.holds Tryd.pinned (OpenSpec.ofChange fnExactStandsOfWrong)

/- THE SECOND FORM. 'bulk': how many values and letters a reading holds, each counted each time it is reached (what is shared counts as often as it is met; a slice's spare places count too). A statement '..UptoSaid' is the law's where the arguments, and the package variables that the reading takes, are together of bulk at most 1048576: NARROWER than '..Said'. Prove '..Said' where nothing that the law and all that it calls make is longer than what came in: it says more and counts as full. Else prove '..UptoSaid'. A law counts once. -/
mutual
def uptoBulk {H : Type} : DataW H → Nat
  | .lit (.string bytes) => bytes.length + 1
  | .lit _ => 1
  | .nil => 1
  | .ptr d => uptoBulk d + 1
  | .slice elems spare => uptoBulkAll elems + uptoBulkAll spare + 1
  | .agg parts => uptoBulkAll parts + 1
  | .iface _ d => uptoBulk d + 1
  | .map entries => uptoBulkEntries entries + 1
  | .held _ => 1
def uptoBulkAll {H : Type} : List (DataW H) → Nat
  | [] => 0
  | d :: r => uptoBulk d + uptoBulkAll r
def uptoBulkEntries {H : Type} : List (Lit × DataW H) → Nat
  | [] => 0
  | x :: r => uptoBulkEntry x + uptoBulkEntries r
def uptoBulkEntry {H : Type} : Lit × DataW H → Nat
  | (.string bytes, d) => bytes.length + uptoBulk d + 1
  | (_, d) => uptoBulk d + 1
 end
def uptoSmall : (H : Type) → List (DataW H) → Bool := fun _ ds => decide (uptoBulkAll ds ≤ 1048576)
def OpenSpec.upto (s : _root_.Go.ChangeSpec) : _root_.Go.OpenSpec := { _root_.Go.OpenSpec.ofChange s with cond := some uptoSmall }

/-- 'laws.FnPeaksOf', WHERE WHAT IT READS IS OF BULK AT MOST 1048576: true; the input reads as it did. -/
def fnPeaksOfUptoRow : OpenClaim := { program := "ytdjjimnfhfdjdaadoor", sum := "98a54155bb9256ae73b27331850beda625349dda2e136466fc5be4779968bb06", func := "loop.example/wateronheights/laws.FnPeaksOf", spec := "fnPeaksOf", unfollowed := true, recurses := true, named := ["loop.example/wateronheights/impl.steps"], apart := false, laid := [("loop.example/wateronheights/impl.steps", laid_loop_example_wateronheights_impl_steps)], narrowed := true }
def FnPeaksOfUptoSaid : Prop := fnPeaksOfUptoRow.holds Tryd.pinned (OpenSpec.upto fnPeaksOfSpec)

/-- 'laws.FnPitsOf', WHERE WHAT IT READS IS OF BULK AT MOST 1048576: true; the input reads as it did. -/
def fnPitsOfUptoRow : OpenClaim := { program := "ytdjjimnfhfdjdaadoor", sum := "98a54155bb9256ae73b27331850beda625349dda2e136466fc5be4779968bb06", func := "loop.example/wateronheights/laws.FnPitsOf", spec := "fnPitsOf", unfollowed := true, recurses := true, named := ["loop.example/wateronheights/impl.steps"], apart := false, laid := [("loop.example/wateronheights/impl.steps", laid_loop_example_wateronheights_impl_steps)], narrowed := true }
def FnPitsOfUptoSaid : Prop := fnPitsOfUptoRow.holds Tryd.pinned (OpenSpec.upto fnPitsOfSpec)

/-- 'laws.FnExactPeaksOf', WHERE WHAT IT READS IS OF BULK AT MOST 1048576: true; the input reads as it did. -/
def fnExactPeaksOfUptoRow : OpenClaim := { program := "ytdjjimnfhfdjdaadoor", sum := "98a54155bb9256ae73b27331850beda625349dda2e136466fc5be4779968bb06", func := "loop.example/wateronheights/laws.FnExactPeaksOf", spec := "fnExactPeaksOf", unfollowed := true, recurses := true, named := ["loop.example/wateronheights/impl.steps"], apart := false, laid := [("loop.example/wateronheights/impl.steps", laid_loop_example_wateronheights_impl_steps)], narrowed := true }
def FnExactPeaksOfUptoSaid : Prop := fnExactPeaksOfUptoRow.holds Tryd.pinned (OpenSpec.upto fnExactPeaksOfSpec)

/-- 'laws.FnExactPitsOf', WHERE WHAT IT READS IS OF BULK AT MOST 1048576: true; the input reads as it did. -/
def fnExactPitsOfUptoRow : OpenClaim := { program := "ytdjjimnfhfdjdaadoor", sum := "98a54155bb9256ae73b27331850beda625349dda2e136466fc5be4779968bb06", func := "loop.example/wateronheights/laws.FnExactPitsOf", spec := "fnExactPitsOf", unfollowed := true, recurses := true, named := ["loop.example/wateronheights/impl.steps"], apart := false, laid := [("loop.example/wateronheights/impl.steps", laid_loop_example_wateronheights_impl_steps)], narrowed := true }
def FnExactPitsOfUptoSaid : Prop := fnExactPitsOfUptoRow.holds Tryd.pinned (OpenSpec.upto fnExactPitsOfSpec)

/-- 'laws.FnKeepsOf', WHERE WHAT IT READS IS OF BULK AT MOST 1048576: true; the input reads as it did. -/
def fnKeepsOfUptoRow : OpenClaim := { program := "ytdjjimnfhfdjdaadoor", sum := "98a54155bb9256ae73b27331850beda625349dda2e136466fc5be4779968bb06", func := "loop.example/wateronheights/laws.FnKeepsOf", spec := "fnKeepsOf", inPlace := ["slices.overlaps[loop.example/wateronheights/impl.standing]"], unfollowed := true, recurses := true, named := ["loop.example/wateronheights/impl.steps"], apart := false, laid := [("loop.example/wateronheights/impl.steps", laid_loop_example_wateronheights_impl_steps)], narrowed := true }
def FnKeepsOfUptoSaid : Prop := fnKeepsOfUptoRow.holds Tryd.pinned (OpenSpec.upto fnKeepsOfSpec)

/-- 'laws.FnStandsOf', WHERE WHAT IT READS IS OF BULK AT MOST 1048576: true; the input reads as it did. -/
def fnStandsOfUptoRow : OpenClaim := { program := "ytdjjimnfhfdjdaadoor", sum := "98a54155bb9256ae73b27331850beda625349dda2e136466fc5be4779968bb06", func := "loop.example/wateronheights/laws.FnStandsOf", spec := "fnStandsOf", inPlace := ["slices.overlaps[loop.example/wateronheights/impl.standing]"], unfollowed := true, recurses := true, named := ["loop.example/wateronheights/impl.steps"], apart := false, laid := [("loop.example/wateronheights/impl.steps", laid_loop_example_wateronheights_impl_steps)], narrowed := true }
def FnStandsOfUptoSaid : Prop := fnStandsOfUptoRow.holds Tryd.pinned (OpenSpec.upto fnStandsOfSpec)

/-- 'laws.FnPassesOverPits', WHERE WHAT IT READS IS OF BULK AT MOST 1048576: true; the input reads as it did. -/
def fnPassesOverPitsUptoRow : OpenClaim := { program := "ytdjjimnfhfdjdaadoor", sum := "98a54155bb9256ae73b27331850beda625349dda2e136466fc5be4779968bb06", func := "loop.example/wateronheights/laws.FnPassesOverPits", spec := "fnPassesOverPits", inPlace := ["slices.overlaps[loop.example/wateronheights/impl.standing]"], unfollowed := true, recurses := true, named := ["loop.example/wateronheights/impl.steps"], apart := false, laid := [("loop.example/wateronheights/impl.steps", laid_loop_example_wateronheights_impl_steps)], narrowed := true }
def FnPassesOverPitsUptoSaid : Prop := fnPassesOverPitsUptoRow.holds Tryd.pinned (OpenSpec.upto fnPassesOverPitsSpec)

/-- 'laws.FnExactKeepsOf', WHERE WHAT IT READS IS OF BULK AT MOST 1048576: true; the input reads as it did. -/
def fnExactKeepsOfUptoRow : OpenClaim := { program := "ytdjjimnfhfdjdaadoor", sum := "98a54155bb9256ae73b27331850beda625349dda2e136466fc5be4779968bb06", func := "loop.example/wateronheights/laws.FnExactKeepsOf", spec := "fnExactKeepsOf", inPlace := ["slices.overlaps[loop.example/wateronheights/impl.standing]"], unfollowed := true, recurses := true, named := ["loop.example/wateronheights/impl.steps"], apart := false, laid := [("loop.example/wateronheights/impl.steps", laid_loop_example_wateronheights_impl_steps)], narrowed := true }
def FnExactKeepsOfUptoSaid : Prop := fnExactKeepsOfUptoRow.holds Tryd.pinned (OpenSpec.upto fnExactKeepsOfSpec)

/-- 'laws.FnExactStandsOf', WHERE WHAT IT READS IS OF BULK AT MOST 1048576: true; the input reads as it did. -/
def fnExactStandsOfUptoRow : OpenClaim := { program := "ytdjjimnfhfdjdaadoor", sum := "98a54155bb9256ae73b27331850beda625349dda2e136466fc5be4779968bb06", func := "loop.example/wateronheights/laws.FnExactStandsOf", spec := "fnExactStandsOf", inPlace := ["slices.overlaps[loop.example/wateronheights/impl.standing]"], unfollowed := true, recurses := true, named := ["loop.example/wateronheights/impl.steps"], apart := false, laid := [("loop.example/wateronheights/impl.steps", laid_loop_example_wateronheights_impl_steps)], narrowed := true }
def FnExactStandsOfUptoSaid : Prop := fnExactStandsOfUptoRow.holds Tryd.pinned (OpenSpec.upto fnExactStandsOfSpec)

end Rows
end Go.Proofs.YtdjjimnfhfdjdaaDoor
