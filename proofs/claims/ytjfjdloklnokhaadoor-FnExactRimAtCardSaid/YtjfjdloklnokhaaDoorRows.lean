/-
  NARROWER THAN 'FOR EVERY INPUT', by the rows' own cells (each row's printed sentence says how): FnAroundOf: laid · FnOnEdge: laid · FnRimAt: laid · FnExactAroundOf: laid · FnExactOnEdge: laid · FnExactRimAt: laid.
  DERIVED. THE GIVEN ROWS OF THIS SEAT. 6 by the template 'for every input the law returns true; each argument reads behind the call as it read before'; 0 by the template 'total and deterministic' (their statements: YtjfjdloklnokhaaDoorTotals.lean).
  GIVEN WITH THE SEED: the statements are not yours to turn. If you find one false, say at which input.
  Laid BY PROGRAM, IN A SANDBOX (cutbox-rows.mjs): the forced cells as the released guide's own fill.sh prints them over the translation e759c867ba635623… (all of the seat's roots in one cut). By AI agents, Wed Nov 11 2026. No macro, syntax, notation, axiom, sorry.
-/
import Derived.Test.YtjfjdloklnokhaaDoorChecked
import GoSem.Claim
import GoSem.ClaimJoined
import GoSem.ClaimMapViews
import Derived.JoinedTies
import Derived.KernelRfl
namespace Go.Proofs.YtjfjdloklnokhaaDoor
/- THE CELL 'sum', in the pinned program and in every row, IS THE sha256 OF THE DUMP (.gsa) THAT YtjfjdloklnokhaaDoorProg.lean LOADS. Nothing in Lean hashes anything: it is a label: what it is worth is what the hold of that sum in a sandbox is worth. -/
noncomputable def Tryd.pinned : Pinned := { name := "ytjfjdloklnokhaadoor", sum := "e759c867ba635623577194d3eb918736ec0ce65b60358c79c1539d9a156fe65a", checked := Tryd.checked }
namespace Rows
def none {H : Type} : Left H := { results := [], args := [] }

/- WHAT THE LISTED PACKAGE-LEVEL VARIABLES READ AS WHEN THE CALL BEGINS. Each datum BY PROGRAM (the guide's laid-datum.mjs) off the statement by which the dump's own 'gosem.cut.vars' lays the variable. In a bare row this is a premise. The card (YtjfjdloklnokhaaDoorCards.lean) ties it to the program's text. -/
def laid_loop_example_wateronheights_impl_steps {H : Type} : DataW H := .agg [.agg [.lit (.int .i64 (-1)), .lit (.int .i64 0)], .agg [.lit (.int .i64 0), .lit (.int .i64 (-1))], .agg [.lit (.int .i64 0), .lit (.int .i64 1)], .agg [.lit (.int .i64 1), .lit (.int .i64 0)]]

/-- 'laws.FnAroundOf': WHATEVER THE INPUT: true; the input reads as it did. -/
def fnAroundOfSpec : ChangeSpec := { name := "fnAroundOf", vars := ["loop.example/wateronheights/impl.steps"], fn := fun _ => fun
  | [d, g1] => { results := [.lit (.bool true)], args := [d], vars := [g1] }
  | _ => none }
def fnAroundOfRow : OpenClaim := { program := "ytjfjdloklnokhaadoor", sum := "e759c867ba635623577194d3eb918736ec0ce65b60358c79c1539d9a156fe65a", func := "loop.example/wateronheights/laws.FnAroundOf", spec := "fnAroundOf", named := ["loop.example/wateronheights/impl.steps"], apart := false, laid := [("loop.example/wateronheights/impl.steps", laid_loop_example_wateronheights_impl_steps)] }
def FnAroundOfSaid : Prop := fnAroundOfRow.holds Tryd.pinned (OpenSpec.ofChange fnAroundOfSpec)

/-- ITS FALSE NEIGHBOUR: 'it returns false'. Refute it at one input. -/
def fnAroundOfWrong : ChangeSpec := { name := "fnAroundOf", vars := ["loop.example/wateronheights/impl.steps"], fn := fun _ => fun
  | [d, g1] => { results := [.lit (.bool false)], args := [d], vars := [g1] }
  | _ => none }
def FnAroundOfWrongFalsely : Prop := fnAroundOfRow.holds Tryd.pinned (OpenSpec.ofChange fnAroundOfWrong)

/-- 'laws.FnOnEdge': WHATEVER THE INPUT: true; the input reads as it did. -/
def fnOnEdgeSpec : ChangeSpec := { name := "fnOnEdge", vars := ["loop.example/wateronheights/impl.steps"], fn := fun _ => fun
  | [d, g1] => { results := [.lit (.bool true)], args := [d], vars := [g1] }
  | _ => none }
def fnOnEdgeRow : OpenClaim := { program := "ytjfjdloklnokhaadoor", sum := "e759c867ba635623577194d3eb918736ec0ce65b60358c79c1539d9a156fe65a", func := "loop.example/wateronheights/laws.FnOnEdge", spec := "fnOnEdge", named := ["loop.example/wateronheights/impl.steps"], apart := false, laid := [("loop.example/wateronheights/impl.steps", laid_loop_example_wateronheights_impl_steps)] }
def FnOnEdgeSaid : Prop := fnOnEdgeRow.holds Tryd.pinned (OpenSpec.ofChange fnOnEdgeSpec)

/-- ITS FALSE NEIGHBOUR: 'it returns false'. Refute it at one input. -/
def fnOnEdgeWrong : ChangeSpec := { name := "fnOnEdge", vars := ["loop.example/wateronheights/impl.steps"], fn := fun _ => fun
  | [d, g1] => { results := [.lit (.bool false)], args := [d], vars := [g1] }
  | _ => none }
def FnOnEdgeWrongFalsely : Prop := fnOnEdgeRow.holds Tryd.pinned (OpenSpec.ofChange fnOnEdgeWrong)

/-- 'laws.FnRimAt': WHATEVER THE INPUT: true; the input reads as it did. -/
def fnRimAtSpec : ChangeSpec := { name := "fnRimAt", vars := ["loop.example/wateronheights/impl.steps"], fn := fun _ => fun
  | [d, g1] => { results := [.lit (.bool true)], args := [d], vars := [g1] }
  | _ => none }
def fnRimAtRow : OpenClaim := { program := "ytjfjdloklnokhaadoor", sum := "e759c867ba635623577194d3eb918736ec0ce65b60358c79c1539d9a156fe65a", func := "loop.example/wateronheights/laws.FnRimAt", spec := "fnRimAt", unfollowed := true, recurses := true, named := ["loop.example/wateronheights/impl.steps"], apart := false, laid := [("loop.example/wateronheights/impl.steps", laid_loop_example_wateronheights_impl_steps)] }
def FnRimAtSaid : Prop := fnRimAtRow.holds Tryd.pinned (OpenSpec.ofChange fnRimAtSpec)

/-- ITS FALSE NEIGHBOUR: 'it returns false'. Refute it at one input. -/
def fnRimAtWrong : ChangeSpec := { name := "fnRimAt", vars := ["loop.example/wateronheights/impl.steps"], fn := fun _ => fun
  | [d, g1] => { results := [.lit (.bool false)], args := [d], vars := [g1] }
  | _ => none }
def FnRimAtWrongFalsely : Prop := fnRimAtRow.holds Tryd.pinned (OpenSpec.ofChange fnRimAtWrong)

/-- 'laws.FnExactAroundOf': WHATEVER THE INPUT: true; the input reads as it did. -/
def fnExactAroundOfSpec : ChangeSpec := { name := "fnExactAroundOf", vars := ["loop.example/wateronheights/impl.steps"], fn := fun _ => fun
  | [d1, d2, g1] => { results := [.lit (.bool true)], args := [d1, d2], vars := [g1] }
  | _ => none }
def fnExactAroundOfRow : OpenClaim := { program := "ytjfjdloklnokhaadoor", sum := "e759c867ba635623577194d3eb918736ec0ce65b60358c79c1539d9a156fe65a", func := "loop.example/wateronheights/laws.FnExactAroundOf", spec := "fnExactAroundOf", named := ["loop.example/wateronheights/impl.steps"], apart := false, laid := [("loop.example/wateronheights/impl.steps", laid_loop_example_wateronheights_impl_steps)] }
def FnExactAroundOfSaid : Prop := fnExactAroundOfRow.holds Tryd.pinned (OpenSpec.ofChange fnExactAroundOfSpec)

/-- ITS FALSE NEIGHBOUR: 'it returns false'. Refute it at one input. -/
def fnExactAroundOfWrong : ChangeSpec := { name := "fnExactAroundOf", vars := ["loop.example/wateronheights/impl.steps"], fn := fun _ => fun
  | [d1, d2, g1] => { results := [.lit (.bool false)], args := [d1, d2], vars := [g1] }
  | _ => none }
def FnExactAroundOfWrongFalsely : Prop := fnExactAroundOfRow.holds Tryd.pinned (OpenSpec.ofChange fnExactAroundOfWrong)

/-- 'laws.FnExactOnEdge': WHATEVER THE INPUT: true; the input reads as it did. -/
def fnExactOnEdgeSpec : ChangeSpec := { name := "fnExactOnEdge", vars := ["loop.example/wateronheights/impl.steps"], fn := fun _ => fun
  | [d1, d2, g1] => { results := [.lit (.bool true)], args := [d1, d2], vars := [g1] }
  | _ => none }
def fnExactOnEdgeRow : OpenClaim := { program := "ytjfjdloklnokhaadoor", sum := "e759c867ba635623577194d3eb918736ec0ce65b60358c79c1539d9a156fe65a", func := "loop.example/wateronheights/laws.FnExactOnEdge", spec := "fnExactOnEdge", named := ["loop.example/wateronheights/impl.steps"], apart := false, laid := [("loop.example/wateronheights/impl.steps", laid_loop_example_wateronheights_impl_steps)] }
def FnExactOnEdgeSaid : Prop := fnExactOnEdgeRow.holds Tryd.pinned (OpenSpec.ofChange fnExactOnEdgeSpec)

/-- ITS FALSE NEIGHBOUR: 'it returns false'. Refute it at one input. -/
def fnExactOnEdgeWrong : ChangeSpec := { name := "fnExactOnEdge", vars := ["loop.example/wateronheights/impl.steps"], fn := fun _ => fun
  | [d1, d2, g1] => { results := [.lit (.bool false)], args := [d1, d2], vars := [g1] }
  | _ => none }
def FnExactOnEdgeWrongFalsely : Prop := fnExactOnEdgeRow.holds Tryd.pinned (OpenSpec.ofChange fnExactOnEdgeWrong)

/-- 'laws.FnExactRimAt': WHATEVER THE INPUT: true; the input reads as it did. -/
def fnExactRimAtSpec : ChangeSpec := { name := "fnExactRimAt", vars := ["loop.example/wateronheights/impl.steps"], fn := fun _ => fun
  | [d1, d2, g1] => { results := [.lit (.bool true)], args := [d1, d2], vars := [g1] }
  | _ => none }
def fnExactRimAtRow : OpenClaim := { program := "ytjfjdloklnokhaadoor", sum := "e759c867ba635623577194d3eb918736ec0ce65b60358c79c1539d9a156fe65a", func := "loop.example/wateronheights/laws.FnExactRimAt", spec := "fnExactRimAt", unfollowed := true, recurses := true, named := ["loop.example/wateronheights/impl.steps"], apart := false, laid := [("loop.example/wateronheights/impl.steps", laid_loop_example_wateronheights_impl_steps)] }
def FnExactRimAtSaid : Prop := fnExactRimAtRow.holds Tryd.pinned (OpenSpec.ofChange fnExactRimAtSpec)

/-- ITS FALSE NEIGHBOUR: 'it returns false'. Refute it at one input. -/
def fnExactRimAtWrong : ChangeSpec := { name := "fnExactRimAt", vars := ["loop.example/wateronheights/impl.steps"], fn := fun _ => fun
  | [d1, d2, g1] => { results := [.lit (.bool false)], args := [d1, d2], vars := [g1] }
  | _ => none }
def FnExactRimAtWrongFalsely : Prop := fnExactRimAtRow.holds Tryd.pinned (OpenSpec.ofChange fnExactRimAtWrong)

/- THE SECOND FORM. 'bulk': how many values and letters a reading holds, each counted each time it is reached (what is shared counts as often as it is met; a slice's spare places count too). A statement '..UptoSaid' is the law's where the arguments, and the package variables that the reading takes, are together of bulk at most 1048576: NARROWER than '..Said'. Prove '..Said' where nothing that the law and all that it calls make is longer than what came in: it says more and counts as full. Else prove '..UptoSaid'. A law counts once. -/
mutual
def uptoBulk {H : Type} : DataW H → Nat
  | .lit (.string bytes) => bytes.length + 1
  | .lit _ => 1
  | .nil => 1
  | .ptr d => uptoBulk d + 1
  | .slice elems spare => uptoBulkAll elems + uptoBulkAll spare + 1
  | .agg parts => uptoBulkAll parts + 1
  | .iface _ d => uptoBulk d + 1
  | .map entries => uptoBulkEntries entries + 1
  | .held _ => 1
def uptoBulkAll {H : Type} : List (DataW H) → Nat
  | [] => 0
  | d :: r => uptoBulk d + uptoBulkAll r
def uptoBulkEntries {H : Type} : List (Lit × DataW H) → Nat
  | [] => 0
  | x :: r => uptoBulkEntry x + uptoBulkEntries r
def uptoBulkEntry {H : Type} : Lit × DataW H → Nat
  | (.string bytes, d) => bytes.length + uptoBulk d + 1
  | (_, d) => uptoBulk d + 1
 end
def uptoSmall : (H : Type) → List (DataW H) → Bool := fun _ ds => decide (uptoBulkAll ds ≤ 1048576)
def OpenSpec.upto (s : _root_.Go.ChangeSpec) : _root_.Go.OpenSpec := { _root_.Go.OpenSpec.ofChange s with cond := some uptoSmall }

/-- 'laws.FnAroundOf', WHERE WHAT IT READS IS OF BULK AT MOST 1048576: true; the input reads as it did. -/
def fnAroundOfUptoRow : OpenClaim := { program := "ytjfjdloklnokhaadoor", sum := "e759c867ba635623577194d3eb918736ec0ce65b60358c79c1539d9a156fe65a", func := "loop.example/wateronheights/laws.FnAroundOf", spec := "fnAroundOf", named := ["loop.example/wateronheights/impl.steps"], apart := false, laid := [("loop.example/wateronheights/impl.steps", laid_loop_example_wateronheights_impl_steps)], narrowed := true }
def FnAroundOfUptoSaid : Prop := fnAroundOfUptoRow.holds Tryd.pinned (OpenSpec.upto fnAroundOfSpec)

/-- 'laws.FnOnEdge', WHERE WHAT IT READS IS OF BULK AT MOST 1048576: true; the input reads as it did. -/
def fnOnEdgeUptoRow : OpenClaim := { program := "ytjfjdloklnokhaadoor", sum := "e759c867ba635623577194d3eb918736ec0ce65b60358c79c1539d9a156fe65a", func := "loop.example/wateronheights/laws.FnOnEdge", spec := "fnOnEdge", named := ["loop.example/wateronheights/impl.steps"], apart := false, laid := [("loop.example/wateronheights/impl.steps", laid_loop_example_wateronheights_impl_steps)], narrowed := true }
def FnOnEdgeUptoSaid : Prop := fnOnEdgeUptoRow.holds Tryd.pinned (OpenSpec.upto fnOnEdgeSpec)

/-- 'laws.FnRimAt', WHERE WHAT IT READS IS OF BULK AT MOST 1048576: true; the input reads as it did. -/
def fnRimAtUptoRow : OpenClaim := { program := "ytjfjdloklnokhaadoor", sum := "e759c867ba635623577194d3eb918736ec0ce65b60358c79c1539d9a156fe65a", func := "loop.example/wateronheights/laws.FnRimAt", spec := "fnRimAt", unfollowed := true, recurses := true, named := ["loop.example/wateronheights/impl.steps"], apart := false, laid := [("loop.example/wateronheights/impl.steps", laid_loop_example_wateronheights_impl_steps)], narrowed := true }
def FnRimAtUptoSaid : Prop := fnRimAtUptoRow.holds Tryd.pinned (OpenSpec.upto fnRimAtSpec)

/-- 'laws.FnExactAroundOf', WHERE WHAT IT READS IS OF BULK AT MOST 1048576: true; the input reads as it did. -/
def fnExactAroundOfUptoRow : OpenClaim := { program := "ytjfjdloklnokhaadoor", sum := "e759c867ba635623577194d3eb918736ec0ce65b60358c79c1539d9a156fe65a", func := "loop.example/wateronheights/laws.FnExactAroundOf", spec := "fnExactAroundOf", named := ["loop.example/wateronheights/impl.steps"], apart := false, laid := [("loop.example/wateronheights/impl.steps", laid_loop_example_wateronheights_impl_steps)], narrowed := true }
def FnExactAroundOfUptoSaid : Prop := fnExactAroundOfUptoRow.holds Tryd.pinned (OpenSpec.upto fnExactAroundOfSpec)

/-- 'laws.FnExactOnEdge', WHERE WHAT IT READS IS OF BULK AT MOST 1048576: true; the input reads as it did. -/
def fnExactOnEdgeUptoRow : OpenClaim := { program := "ytjfjdloklnokhaadoor", sum := "e759c867ba635623577194d3eb918736ec0ce65b60358c79c1539d9a156fe65a", func := "loop.example/wateronheights/laws.FnExactOnEdge", spec := "fnExactOnEdge", named := ["loop.example/wateronheights/impl.steps"], apart := false, laid := [("loop.example/wateronheights/impl.steps", laid_loop_example_wateronheights_impl_steps)], narrowed := true }
def FnExactOnEdgeUptoSaid : Prop := fnExactOnEdgeUptoRow.holds Tryd.pinned (OpenSpec.upto fnExactOnEdgeSpec)

/-- 'laws.FnExactRimAt', WHERE WHAT IT READS IS OF BULK AT MOST 1048576: true; the input reads as it did. -/
def fnExactRimAtUptoRow : OpenClaim := { program := "ytjfjdloklnokhaadoor", sum := "e759c867ba635623577194d3eb918736ec0ce65b60358c79c1539d9a156fe65a", func := "loop.example/wateronheights/laws.FnExactRimAt", spec := "fnExactRimAt", unfollowed := true, recurses := true, named := ["loop.example/wateronheights/impl.steps"], apart := false, laid := [("loop.example/wateronheights/impl.steps", laid_loop_example_wateronheights_impl_steps)], narrowed := true }
def FnExactRimAtUptoSaid : Prop := fnExactRimAtUptoRow.holds Tryd.pinned (OpenSpec.upto fnExactRimAtSpec)

end Rows
end Go.Proofs.YtjfjdloklnokhaaDoor
