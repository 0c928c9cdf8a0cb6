/-
  NARROWER THAN 'FOR EVERY INPUT', by the rows' own cells (each row's printed sentence says how): FnWayOf: laid · FnWaysBack: laid.
  DERIVED. THE GIVEN ROWS OF THIS SEAT. 2 by the template 'for every input the law returns true; each argument reads behind the call as it read before'; 0 by the template 'total and deterministic' (their statements: YtihbccknajhcbaaDoorTotals.lean).
  GIVEN WITH THE SEED: the statements are not yours to turn. If you find one false, say at which input.
  Laid BY PROGRAM, IN A SANDBOX (cutbox-rows.mjs): the forced cells as the released guide's own fill.sh prints them over the translation fcc8dbe821653ef1… (all of the seat's roots in one cut). By AI agents, Wed Nov 11 2026. No macro, syntax, notation, axiom, sorry.
-/
import Derived.Test.YtihbccknajhcbaaDoorChecked
import GoSem.Claim
import GoSem.ClaimJoined
import GoSem.ClaimMapViews
import Derived.JoinedTies
import Derived.KernelRfl
namespace Go.Proofs.YtihbccknajhcbaaDoor
/- THE CELL 'sum', in the pinned program and in every row, IS THE sha256 OF THE DUMP (.gsa) THAT YtihbccknajhcbaaDoorProg.lean LOADS. Nothing in Lean hashes anything: it is a label: what it is worth is what the hold of that sum in a sandbox is worth. -/
noncomputable def Tryd.pinned : Pinned := { name := "ytihbccknajhcbaadoor", sum := "fcc8dbe821653ef17558d10061db1b8e11300a37e5724ff3dfc5d2071ce8fd33", checked := Tryd.checked }
namespace Rows
def none {H : Type} : Left H := { results := [], args := [] }

/- WHAT THE LISTED PACKAGE-LEVEL VARIABLES READ AS WHEN THE CALL BEGINS. Each datum BY PROGRAM (the guide's laid-datum.mjs) off the statement by which the dump's own 'gosem.cut.vars' lays the variable. In a bare row this is a premise. The card (YtihbccknajhcbaaDoorCards.lean) ties it to the program's text. -/
def laid_loop_example_wateronheights_impl_steps {H : Type} : DataW H := .agg [.agg [.lit (.int .i64 (-1)), .lit (.int .i64 0)], .agg [.lit (.int .i64 0), .lit (.int .i64 (-1))], .agg [.lit (.int .i64 0), .lit (.int .i64 1)], .agg [.lit (.int .i64 1), .lit (.int .i64 0)]]

/-- 'laws.FnWayOf': WHATEVER THE INPUT: true; the input reads as it did. -/
def fnWayOfSpec : ChangeSpec := { name := "fnWayOf", vars := ["loop.example/wateronheights/impl.steps"], fn := fun _ => fun
  | [d, g1] => { results := [.lit (.bool true)], args := [d], vars := [g1] }
  | _ => none }
def fnWayOfRow : OpenClaim := { program := "ytihbccknajhcbaadoor", sum := "fcc8dbe821653ef17558d10061db1b8e11300a37e5724ff3dfc5d2071ce8fd33", func := "loop.example/wateronheights/laws.FnWayOf", spec := "fnWayOf", unfollowed := true, recurses := true, named := ["loop.example/wateronheights/impl.steps"], apart := false, laid := [("loop.example/wateronheights/impl.steps", laid_loop_example_wateronheights_impl_steps)] }
def FnWayOfSaid : Prop := fnWayOfRow.holds Tryd.pinned (OpenSpec.ofChange fnWayOfSpec)

/-- ITS FALSE NEIGHBOUR: 'it returns false'. Refute it at one input. -/
def fnWayOfWrong : ChangeSpec := { name := "fnWayOf", vars := ["loop.example/wateronheights/impl.steps"], fn := fun _ => fun
  | [d, g1] => { results := [.lit (.bool false)], args := [d], vars := [g1] }
  | _ => none }
def FnWayOfWrongFalsely : Prop := fnWayOfRow.holds Tryd.pinned (OpenSpec.ofChange fnWayOfWrong)

/-- 'laws.FnWaysBack': WHATEVER THE INPUT: true; the input reads as it did. -/
def fnWaysBackSpec : ChangeSpec := { name := "fnWaysBack", vars := ["loop.example/wateronheights/impl.steps"], fn := fun _ => fun
  | [d, g1] => { results := [.lit (.bool true)], args := [d], vars := [g1] }
  | _ => none }
def fnWaysBackRow : OpenClaim := { program := "ytihbccknajhcbaadoor", sum := "fcc8dbe821653ef17558d10061db1b8e11300a37e5724ff3dfc5d2071ce8fd33", func := "loop.example/wateronheights/laws.FnWaysBack", spec := "fnWaysBack", unfollowed := true, recurses := true, named := ["loop.example/wateronheights/impl.steps"], apart := false, laid := [("loop.example/wateronheights/impl.steps", laid_loop_example_wateronheights_impl_steps)] }
def FnWaysBackSaid : Prop := fnWaysBackRow.holds Tryd.pinned (OpenSpec.ofChange fnWaysBackSpec)

/-- ITS FALSE NEIGHBOUR: 'it returns false'. Refute it at one input. -/
def fnWaysBackWrong : ChangeSpec := { name := "fnWaysBack", vars := ["loop.example/wateronheights/impl.steps"], fn := fun _ => fun
  | [d, g1] => { results := [.lit (.bool false)], args := [d], vars := [g1] }
  | _ => none }
def FnWaysBackWrongFalsely : Prop := fnWaysBackRow.holds Tryd.pinned (OpenSpec.ofChange fnWaysBackWrong)

/- THE SECOND FORM. 'bulk': how many values and letters a reading holds, each counted each time it is reached (what is shared counts as often as it is met; a slice's spare places count too). A statement '..UptoSaid' is the law's where the arguments, and the package variables that the reading takes, are together of bulk at most 1048576: NARROWER than '..Said'. Prove '..Said' where nothing that the law and all that it calls make is longer than what came in: it says more and counts as full. Else prove '..UptoSaid'. A law counts once. -/
mutual
def uptoBulk {H : Type} : DataW H → Nat
  | .lit (.string bytes) => bytes.length + 1
  | .lit _ => 1
  | .nil => 1
  | .ptr d => uptoBulk d + 1
  | .slice elems spare => uptoBulkAll elems + uptoBulkAll spare + 1
  | .agg parts => uptoBulkAll parts + 1
  | .iface _ d => uptoBulk d + 1
  | .map entries => uptoBulkEntries entries + 1
  | .held _ => 1
def uptoBulkAll {H : Type} : List (DataW H) → Nat
  | [] => 0
  | d :: r => uptoBulk d + uptoBulkAll r
def uptoBulkEntries {H : Type} : List (Lit × DataW H) → Nat
  | [] => 0
  | x :: r => uptoBulkEntry x + uptoBulkEntries r
def uptoBulkEntry {H : Type} : Lit × DataW H → Nat
  | (.string bytes, d) => bytes.length + uptoBulk d + 1
  | (_, d) => uptoBulk d + 1
 end
def uptoSmall : (H : Type) → List (DataW H) → Bool := fun _ ds => decide (uptoBulkAll ds ≤ 1048576)
def OpenSpec.upto (s : _root_.Go.ChangeSpec) : _root_.Go.OpenSpec := { _root_.Go.OpenSpec.ofChange s with cond := some uptoSmall }

/-- 'laws.FnWayOf', WHERE WHAT IT READS IS OF BULK AT MOST 1048576: true; the input reads as it did. -/
def fnWayOfUptoRow : OpenClaim := { program := "ytihbccknajhcbaadoor", sum := "fcc8dbe821653ef17558d10061db1b8e11300a37e5724ff3dfc5d2071ce8fd33", func := "loop.example/wateronheights/laws.FnWayOf", spec := "fnWayOf", unfollowed := true, recurses := true, named := ["loop.example/wateronheights/impl.steps"], apart := false, laid := [("loop.example/wateronheights/impl.steps", laid_loop_example_wateronheights_impl_steps)], narrowed := true }
def FnWayOfUptoSaid : Prop := fnWayOfUptoRow.holds Tryd.pinned (OpenSpec.upto fnWayOfSpec)

/-- 'laws.FnWaysBack', WHERE WHAT IT READS IS OF BULK AT MOST 1048576: true; the input reads as it did. -/
def fnWaysBackUptoRow : OpenClaim := { program := "ytihbccknajhcbaadoor", sum := "fcc8dbe821653ef17558d10061db1b8e11300a37e5724ff3dfc5d2071ce8fd33", func := "loop.example/wateronheights/laws.FnWaysBack", spec := "fnWaysBack", unfollowed := true, recurses := true, named := ["loop.example/wateronheights/impl.steps"], apart := false, laid := [("loop.example/wateronheights/impl.steps", laid_loop_example_wateronheights_impl_steps)], narrowed := true }
def FnWaysBackUptoSaid : Prop := fnWaysBackUptoRow.holds Tryd.pinned (OpenSpec.upto fnWaysBackSpec)

end Rows
end Go.Proofs.YtihbccknajhcbaaDoor
