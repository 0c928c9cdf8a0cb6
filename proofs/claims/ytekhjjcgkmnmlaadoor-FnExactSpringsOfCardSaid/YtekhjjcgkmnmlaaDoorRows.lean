/-
  NARROWER THAN 'FOR EVERY INPUT', by the rows' own cells (each row's printed sentence says how): FnAreasOf: laid · FnBasinsOf: laid · FnLongestOf: laid · FnStreamOrders: laid · FnSpringsOf: laid · FnBasinsAreOutlets: laid · FnExactAreasOf: laid · FnExactBasinsOf: laid · FnExactLongestOf: laid · FnExactStreamOrders: laid · FnExactSpringsOf: laid.
  DERIVED. THE GIVEN ROWS OF THIS SEAT. 11 by the template 'for every input the law returns true; each argument reads behind the call as it read before'; 0 by the template 'total and deterministic' (their statements: YtekhjjcgkmnmlaaDoorTotals.lean).
  GIVEN WITH THE SEED: the statements are not yours to turn. If you find one false, say at which input.
  Laid BY PROGRAM, IN A SANDBOX (cutbox-rows.mjs): the forced cells as the released guide's own fill.sh prints them over the translation f82c8d23258b7148… (all of the seat's roots in one cut). By AI agents, Wed Nov 11 2026. No macro, syntax, notation, axiom, sorry.
-/
import Derived.Test.YtekhjjcgkmnmlaaDoorChecked
import GoSem.Claim
import GoSem.ClaimJoined
import GoSem.ClaimMapViews
import Derived.JoinedTies
import Derived.KernelRfl
namespace Go.Proofs.YtekhjjcgkmnmlaaDoor
/- THE CELL 'sum', in the pinned program and in every row, IS THE sha256 OF THE DUMP (.gsa) THAT YtekhjjcgkmnmlaaDoorProg.lean LOADS. Nothing in Lean hashes anything: it is a label: what it is worth is what the hold of that sum in a sandbox is worth. -/
noncomputable def Tryd.pinned : Pinned := { name := "ytekhjjcgkmnmlaadoor", sum := "f82c8d23258b7148abbb3ca85e98173e80239fb2f44483552eb896df4186faf4", checked := Tryd.checked }
namespace Rows
def none {H : Type} : Left H := { results := [], args := [] }

/- WHAT THE LISTED PACKAGE-LEVEL VARIABLES READ AS WHEN THE CALL BEGINS. Each datum BY PROGRAM (the guide's laid-datum.mjs) off the statement by which the dump's own 'gosem.cut.vars' lays the variable. In a bare row this is a premise. The card (YtekhjjcgkmnmlaaDoorCards.lean) ties it to the program's text. -/
def laid_loop_example_wateronheights_impl_steps {H : Type} : DataW H := .agg [.agg [.lit (.int .i64 (-1)), .lit (.int .i64 0)], .agg [.lit (.int .i64 0), .lit (.int .i64 (-1))], .agg [.lit (.int .i64 0), .lit (.int .i64 1)], .agg [.lit (.int .i64 1), .lit (.int .i64 0)]]

/-- 'laws.FnAreasOf': WHATEVER THE INPUT: true; the input reads as it did. -/
def fnAreasOfSpec : ChangeSpec := { name := "fnAreasOf", vars := ["loop.example/wateronheights/impl.steps"], fn := fun _ => fun
  | [d, g1] => { results := [.lit (.bool true)], args := [d], vars := [g1] }
  | _ => none }
def fnAreasOfRow : OpenClaim := { program := "ytekhjjcgkmnmlaadoor", sum := "f82c8d23258b7148abbb3ca85e98173e80239fb2f44483552eb896df4186faf4", func := "loop.example/wateronheights/laws.FnAreasOf", spec := "fnAreasOf", inPlace := ["slices.overlaps[loop.example/wateronheights/impl.standing]"], unfollowed := true, recurses := true, named := ["loop.example/wateronheights/impl.steps"], apart := false, laid := [("loop.example/wateronheights/impl.steps", laid_loop_example_wateronheights_impl_steps)] }
def FnAreasOfSaid : Prop := fnAreasOfRow.holds Tryd.pinned (OpenSpec.ofChange fnAreasOfSpec)

/-- ITS FALSE NEIGHBOUR: 'it returns false'. Refute it at one input. -/
def fnAreasOfWrong : ChangeSpec := { name := "fnAreasOf", vars := ["loop.example/wateronheights/impl.steps"], fn := fun _ => fun
  | [d, g1] => { results := [.lit (.bool false)], args := [d], vars := [g1] }
  | _ => none }
def FnAreasOfWrongFalsely : Prop := fnAreasOfRow.holds Tryd.pinned (OpenSpec.ofChange fnAreasOfWrong)

/-- 'laws.FnBasinsOf': WHATEVER THE INPUT: true; the input reads as it did. -/
def fnBasinsOfSpec : ChangeSpec := { name := "fnBasinsOf", vars := ["loop.example/wateronheights/impl.steps"], fn := fun _ => fun
  | [d, g1] => { results := [.lit (.bool true)], args := [d], vars := [g1] }
  | _ => none }
def fnBasinsOfRow : OpenClaim := { program := "ytekhjjcgkmnmlaadoor", sum := "f82c8d23258b7148abbb3ca85e98173e80239fb2f44483552eb896df4186faf4", func := "loop.example/wateronheights/laws.FnBasinsOf", spec := "fnBasinsOf", inPlace := ["slices.overlaps[loop.example/wateronheights/impl.standing]"], unfollowed := true, recurses := true, named := ["loop.example/wateronheights/impl.steps"], apart := false, laid := [("loop.example/wateronheights/impl.steps", laid_loop_example_wateronheights_impl_steps)] }
def FnBasinsOfSaid : Prop := fnBasinsOfRow.holds Tryd.pinned (OpenSpec.ofChange fnBasinsOfSpec)

/-- ITS FALSE NEIGHBOUR: 'it returns false'. Refute it at one input. -/
def fnBasinsOfWrong : ChangeSpec := { name := "fnBasinsOf", vars := ["loop.example/wateronheights/impl.steps"], fn := fun _ => fun
  | [d, g1] => { results := [.lit (.bool false)], args := [d], vars := [g1] }
  | _ => none }
def FnBasinsOfWrongFalsely : Prop := fnBasinsOfRow.holds Tryd.pinned (OpenSpec.ofChange fnBasinsOfWrong)

/-- 'laws.FnLongestOf': WHATEVER THE INPUT: true; the input reads as it did. -/
def fnLongestOfSpec : ChangeSpec := { name := "fnLongestOf", vars := ["loop.example/wateronheights/impl.steps"], fn := fun _ => fun
  | [d, g1] => { results := [.lit (.bool true)], args := [d], vars := [g1] }
  | _ => none }
def fnLongestOfRow : OpenClaim := { program := "ytekhjjcgkmnmlaadoor", sum := "f82c8d23258b7148abbb3ca85e98173e80239fb2f44483552eb896df4186faf4", func := "loop.example/wateronheights/laws.FnLongestOf", spec := "fnLongestOf", inPlace := ["slices.overlaps[loop.example/wateronheights/impl.standing]"], unfollowed := true, recurses := true, named := ["loop.example/wateronheights/impl.steps"], apart := false, laid := [("loop.example/wateronheights/impl.steps", laid_loop_example_wateronheights_impl_steps)] }
def FnLongestOfSaid : Prop := fnLongestOfRow.holds Tryd.pinned (OpenSpec.ofChange fnLongestOfSpec)

/-- ITS FALSE NEIGHBOUR: 'it returns false'. Refute it at one input. -/
def fnLongestOfWrong : ChangeSpec := { name := "fnLongestOf", vars := ["loop.example/wateronheights/impl.steps"], fn := fun _ => fun
  | [d, g1] => { results := [.lit (.bool false)], args := [d], vars := [g1] }
  | _ => none }
def FnLongestOfWrongFalsely : Prop := fnLongestOfRow.holds Tryd.pinned (OpenSpec.ofChange fnLongestOfWrong)

/-- 'laws.FnStreamOrders': WHATEVER THE INPUT: true; the input reads as it did. -/
def fnStreamOrdersSpec : ChangeSpec := { name := "fnStreamOrders", vars := ["loop.example/wateronheights/impl.steps"], fn := fun _ => fun
  | [d, g1] => { results := [.lit (.bool true)], args := [d], vars := [g1] }
  | _ => none }
def fnStreamOrdersRow : OpenClaim := { program := "ytekhjjcgkmnmlaadoor", sum := "f82c8d23258b7148abbb3ca85e98173e80239fb2f44483552eb896df4186faf4", func := "loop.example/wateronheights/laws.FnStreamOrders", spec := "fnStreamOrders", inPlace := ["slices.overlaps[loop.example/wateronheights/impl.standing]"], unfollowed := true, recurses := true, named := ["loop.example/wateronheights/impl.steps"], apart := false, laid := [("loop.example/wateronheights/impl.steps", laid_loop_example_wateronheights_impl_steps)] }
def FnStreamOrdersSaid : Prop := fnStreamOrdersRow.holds Tryd.pinned (OpenSpec.ofChange fnStreamOrdersSpec)

/-- ITS FALSE NEIGHBOUR: 'it returns false'. Refute it at one input. -/
def fnStreamOrdersWrong : ChangeSpec := { name := "fnStreamOrders", vars := ["loop.example/wateronheights/impl.steps"], fn := fun _ => fun
  | [d, g1] => { results := [.lit (.bool false)], args := [d], vars := [g1] }
  | _ => none }
def FnStreamOrdersWrongFalsely : Prop := fnStreamOrdersRow.holds Tryd.pinned (OpenSpec.ofChange fnStreamOrdersWrong)

/-- 'laws.FnSpringsOf': WHATEVER THE INPUT: true; the input reads as it did. -/
def fnSpringsOfSpec : ChangeSpec := { name := "fnSpringsOf", vars := ["loop.example/wateronheights/impl.steps"], fn := fun _ => fun
  | [d, g1] => { results := [.lit (.bool true)], args := [d], vars := [g1] }
  | _ => none }
def fnSpringsOfRow : OpenClaim := { program := "ytekhjjcgkmnmlaadoor", sum := "f82c8d23258b7148abbb3ca85e98173e80239fb2f44483552eb896df4186faf4", func := "loop.example/wateronheights/laws.FnSpringsOf", spec := "fnSpringsOf", inPlace := ["slices.overlaps[loop.example/wateronheights/impl.standing]"], unfollowed := true, recurses := true, named := ["loop.example/wateronheights/impl.steps"], apart := false, laid := [("loop.example/wateronheights/impl.steps", laid_loop_example_wateronheights_impl_steps)] }
def FnSpringsOfSaid : Prop := fnSpringsOfRow.holds Tryd.pinned (OpenSpec.ofChange fnSpringsOfSpec)

/-- ITS FALSE NEIGHBOUR: 'it returns false'. Refute it at one input. -/
def fnSpringsOfWrong : ChangeSpec := { name := "fnSpringsOf", vars := ["loop.example/wateronheights/impl.steps"], fn := fun _ => fun
  | [d, g1] => { results := [.lit (.bool false)], args := [d], vars := [g1] }
  | _ => none }
def FnSpringsOfWrongFalsely : Prop := fnSpringsOfRow.holds Tryd.pinned (OpenSpec.ofChange fnSpringsOfWrong)

/-- 'laws.FnBasinsAreOutlets': WHATEVER THE INPUT: true; the input reads as it did. -/
def fnBasinsAreOutletsSpec : ChangeSpec := { name := "fnBasinsAreOutlets", vars := ["loop.example/wateronheights/impl.steps"], fn := fun _ => fun
  | [d, g1] => { results := [.lit (.bool true)], args := [d], vars := [g1] }
  | _ => none }
def fnBasinsAreOutletsRow : OpenClaim := { program := "ytekhjjcgkmnmlaadoor", sum := "f82c8d23258b7148abbb3ca85e98173e80239fb2f44483552eb896df4186faf4", func := "loop.example/wateronheights/laws.FnBasinsAreOutlets", spec := "fnBasinsAreOutlets", inPlace := ["slices.overlaps[loop.example/wateronheights/impl.standing]"], unfollowed := true, recurses := true, named := ["loop.example/wateronheights/impl.steps"], apart := false, laid := [("loop.example/wateronheights/impl.steps", laid_loop_example_wateronheights_impl_steps)] }
def FnBasinsAreOutletsSaid : Prop := fnBasinsAreOutletsRow.holds Tryd.pinned (OpenSpec.ofChange fnBasinsAreOutletsSpec)

/-- ITS FALSE NEIGHBOUR: 'it returns false'. Refute it at one input. -/
def fnBasinsAreOutletsWrong : ChangeSpec := { name := "fnBasinsAreOutlets", vars := ["loop.example/wateronheights/impl.steps"], fn := fun _ => fun
  | [d, g1] => { results := [.lit (.bool false)], args := [d], vars := [g1] }
  | _ => none }
def FnBasinsAreOutletsWrongFalsely : Prop := fnBasinsAreOutletsRow.holds Tryd.pinned (OpenSpec.ofChange fnBasinsAreOutletsWrong)

/-- 'laws.FnExactAreasOf': WHATEVER THE INPUT: true; the input reads as it did. -/
def fnExactAreasOfSpec : ChangeSpec := { name := "fnExactAreasOf", vars := ["loop.example/wateronheights/impl.steps"], fn := fun _ => fun
  | [d, g1] => { results := [.lit (.bool true)], args := [d], vars := [g1] }
  | _ => none }
def fnExactAreasOfRow : OpenClaim := { program := "ytekhjjcgkmnmlaadoor", sum := "f82c8d23258b7148abbb3ca85e98173e80239fb2f44483552eb896df4186faf4", func := "loop.example/wateronheights/laws.FnExactAreasOf", spec := "fnExactAreasOf", inPlace := ["slices.overlaps[loop.example/wateronheights/impl.standing]"], unfollowed := true, recurses := true, named := ["loop.example/wateronheights/impl.steps"], apart := false, laid := [("loop.example/wateronheights/impl.steps", laid_loop_example_wateronheights_impl_steps)] }
def FnExactAreasOfSaid : Prop := fnExactAreasOfRow.holds Tryd.pinned (OpenSpec.ofChange fnExactAreasOfSpec)

/-- ITS FALSE NEIGHBOUR: 'it returns false'. Refute it at one input. -/
def fnExactAreasOfWrong : ChangeSpec := { name := "fnExactAreasOf", vars := ["loop.example/wateronheights/impl.steps"], fn := fun _ => fun
  | [d, g1] => { results := [.lit (.bool false)], args := [d], vars := [g1] }
  | _ => none }
def FnExactAreasOfWrongFalsely : Prop := fnExactAreasOfRow.holds Tryd.pinned (OpenSpec.ofChange fnExactAreasOfWrong)

/-- 'laws.FnExactBasinsOf': WHATEVER THE INPUT: true; the input reads as it did. -/
def fnExactBasinsOfSpec : ChangeSpec := { name := "fnExactBasinsOf", vars := ["loop.example/wateronheights/impl.steps"], fn := fun _ => fun
  | [d, g1] => { results := [.lit (.bool true)], args := [d], vars := [g1] }
  | _ => none }
def fnExactBasinsOfRow : OpenClaim := { program := "ytekhjjcgkmnmlaadoor", sum := "f82c8d23258b7148abbb3ca85e98173e80239fb2f44483552eb896df4186faf4", func := "loop.example/wateronheights/laws.FnExactBasinsOf", spec := "fnExactBasinsOf", inPlace := ["slices.overlaps[loop.example/wateronheights/impl.standing]"], unfollowed := true, recurses := true, named := ["loop.example/wateronheights/impl.steps"], apart := false, laid := [("loop.example/wateronheights/impl.steps", laid_loop_example_wateronheights_impl_steps)] }
def FnExactBasinsOfSaid : Prop := fnExactBasinsOfRow.holds Tryd.pinned (OpenSpec.ofChange fnExactBasinsOfSpec)

/-- ITS FALSE NEIGHBOUR: 'it returns false'. Refute it at one input. -/
def fnExactBasinsOfWrong : ChangeSpec := { name := "fnExactBasinsOf", vars := ["loop.example/wateronheights/impl.steps"], fn := fun _ => fun
  | [d, g1] => { results := [.lit (.bool false)], args := [d], vars := [g1] }
  | _ => none }
def FnExactBasinsOfWrongFalsely : Prop := fnExactBasinsOfRow.holds Tryd.pinned (OpenSpec.ofChange fnExactBasinsOfWrong)

/-- 'laws.FnExactLongestOf': WHATEVER THE INPUT: true; the input reads as it did. -/
def fnExactLongestOfSpec : ChangeSpec := { name := "fnExactLongestOf", vars := ["loop.example/wateronheights/impl.steps"], fn := fun _ => fun
  | [d, g1] => { results := [.lit (.bool true)], args := [d], vars := [g1] }
  | _ => none }
def fnExactLongestOfRow : OpenClaim := { program := "ytekhjjcgkmnmlaadoor", sum := "f82c8d23258b7148abbb3ca85e98173e80239fb2f44483552eb896df4186faf4", func := "loop.example/wateronheights/laws.FnExactLongestOf", spec := "fnExactLongestOf", inPlace := ["slices.overlaps[loop.example/wateronheights/impl.standing]"], unfollowed := true, recurses := true, named := ["loop.example/wateronheights/impl.steps"], apart := false, laid := [("loop.example/wateronheights/impl.steps", laid_loop_example_wateronheights_impl_steps)] }
def FnExactLongestOfSaid : Prop := fnExactLongestOfRow.holds Tryd.pinned (OpenSpec.ofChange fnExactLongestOfSpec)

/-- ITS FALSE NEIGHBOUR: 'it returns false'. Refute it at one input. -/
def fnExactLongestOfWrong : ChangeSpec := { name := "fnExactLongestOf", vars := ["loop.example/wateronheights/impl.steps"], fn := fun _ => fun
  | [d, g1] => { results := [.lit (.bool false)], args := [d], vars := [g1] }
  | _ => none }
def FnExactLongestOfWrongFalsely : Prop := fnExactLongestOfRow.holds Tryd.pinned (OpenSpec.ofChange fnExactLongestOfWrong)

/-- 'laws.FnExactStreamOrders': WHATEVER THE INPUT: true; the input reads as it did. -/
def fnExactStreamOrdersSpec : ChangeSpec := { name := "fnExactStreamOrders", vars := ["loop.example/wateronheights/impl.steps"], fn := fun _ => fun
  | [d, g1] => { results := [.lit (.bool true)], args := [d], vars := [g1] }
  | _ => none }
def fnExactStreamOrdersRow : OpenClaim := { program := "ytekhjjcgkmnmlaadoor", sum := "f82c8d23258b7148abbb3ca85e98173e80239fb2f44483552eb896df4186faf4", func := "loop.example/wateronheights/laws.FnExactStreamOrders", spec := "fnExactStreamOrders", inPlace := ["slices.overlaps[loop.example/wateronheights/impl.standing]"], unfollowed := true, recurses := true, named := ["loop.example/wateronheights/impl.steps"], apart := false, laid := [("loop.example/wateronheights/impl.steps", laid_loop_example_wateronheights_impl_steps)] }
def FnExactStreamOrdersSaid : Prop := fnExactStreamOrdersRow.holds Tryd.pinned (OpenSpec.ofChange fnExactStreamOrdersSpec)

/-- ITS FALSE NEIGHBOUR: 'it returns false'. Refute it at one input. -/
def fnExactStreamOrdersWrong : ChangeSpec := { name := "fnExactStreamOrders", vars := ["loop.example/wateronheights/impl.steps"], fn := fun _ => fun
  | [d, g1] => { results := [.lit (.bool false)], args := [d], vars := [g1] }
  | _ => none }
def FnExactStreamOrdersWrongFalsely : Prop := fnExactStreamOrdersRow.holds Tryd.pinned (OpenSpec.ofChange fnExactStreamOrdersWrong)

/-- 'laws.FnExactSpringsOf': WHATEVER THE INPUT: true; the input reads as it did. -/
def fnExactSpringsOfSpec : ChangeSpec := { name := "fnExactSpringsOf", vars := ["loop.example/wateronheights/impl.steps"], fn := fun _ => fun
  | [d, g1] => { results := [.lit (.bool true)], args := [d], vars := [g1] }
  | _ => none }
def fnExactSpringsOfRow : OpenClaim := { program := "ytekhjjcgkmnmlaadoor", sum := "f82c8d23258b7148abbb3ca85e98173e80239fb2f44483552eb896df4186faf4", func := "loop.example/wateronheights/laws.FnExactSpringsOf", spec := "fnExactSpringsOf", inPlace := ["slices.overlaps[loop.example/wateronheights/impl.standing]"], unfollowed := true, recurses := true, named := ["loop.example/wateronheights/impl.steps"], apart := false, laid := [("loop.example/wateronheights/impl.steps", laid_loop_example_wateronheights_impl_steps)] }
def FnExactSpringsOfSaid : Prop := fnExactSpringsOfRow.holds Tryd.pinned (OpenSpec.ofChange fnExactSpringsOfSpec)

/-- ITS FALSE NEIGHBOUR: 'it returns false'. Refute it at one input. -/
def fnExactSpringsOfWrong : ChangeSpec := { name := "fnExactSpringsOf", vars := ["loop.example/wateronheights/impl.steps"], fn := fun _ => fun
  | [d, g1] => { results := [.lit (.bool false)], args := [d], vars := [g1] }
  | _ => none }
def FnExactSpringsOfWrongFalsely : Prop := fnExactSpringsOfRow.holds Tryd.pinned (OpenSpec.ofChange fnExactSpringsOfWrong)

/- THE SECOND FORM. 'bulk': how many values and letters a reading holds, each counted each time it is reached (what is shared counts as often as it is met; a slice's spare places count too). A statement '..UptoSaid' is the law's where the arguments, and the package variables that the reading takes, are together of bulk at most 1048576: NARROWER than '..Said'. Prove '..Said' where nothing that the law and all that it calls make is longer than what came in: it says more and counts as full. Else prove '..UptoSaid'. A law counts once. -/
mutual
def uptoBulk {H : Type} : DataW H → Nat
  | .lit (.string bytes) => bytes.length + 1
  | .lit _ => 1
  | .nil => 1
  | .ptr d => uptoBulk d + 1
  | .slice elems spare => uptoBulkAll elems + uptoBulkAll spare + 1
  | .agg parts => uptoBulkAll parts + 1
  | .iface _ d => uptoBulk d + 1
  | .map entries => uptoBulkEntries entries + 1
  | .held _ => 1
def uptoBulkAll {H : Type} : List (DataW H) → Nat
  | [] => 0
  | d :: r => uptoBulk d + uptoBulkAll r
def uptoBulkEntries {H : Type} : List (Lit × DataW H) → Nat
  | [] => 0
  | x :: r => uptoBulkEntry x + uptoBulkEntries r
def uptoBulkEntry {H : Type} : Lit × DataW H → Nat
  | (.string bytes, d) => bytes.length + uptoBulk d + 1
  | (_, d) => uptoBulk d + 1
 end
def uptoSmall : (H : Type) → List (DataW H) → Bool := fun _ ds => decide (uptoBulkAll ds ≤ 1048576)
def OpenSpec.upto (s : _root_.Go.ChangeSpec) : _root_.Go.OpenSpec := { _root_.Go.OpenSpec.ofChange s with cond := some uptoSmall }

/-- 'laws.FnAreasOf', WHERE WHAT IT READS IS OF BULK AT MOST 1048576: true; the input reads as it did. -/
def fnAreasOfUptoRow : OpenClaim := { program := "ytekhjjcgkmnmlaadoor", sum := "f82c8d23258b7148abbb3ca85e98173e80239fb2f44483552eb896df4186faf4", func := "loop.example/wateronheights/laws.FnAreasOf", spec := "fnAreasOf", inPlace := ["slices.overlaps[loop.example/wateronheights/impl.standing]"], unfollowed := true, recurses := true, named := ["loop.example/wateronheights/impl.steps"], apart := false, laid := [("loop.example/wateronheights/impl.steps", laid_loop_example_wateronheights_impl_steps)], narrowed := true }
def FnAreasOfUptoSaid : Prop := fnAreasOfUptoRow.holds Tryd.pinned (OpenSpec.upto fnAreasOfSpec)

/-- 'laws.FnBasinsOf', WHERE WHAT IT READS IS OF BULK AT MOST 1048576: true; the input reads as it did. -/
def fnBasinsOfUptoRow : OpenClaim := { program := "ytekhjjcgkmnmlaadoor", sum := "f82c8d23258b7148abbb3ca85e98173e80239fb2f44483552eb896df4186faf4", func := "loop.example/wateronheights/laws.FnBasinsOf", spec := "fnBasinsOf", inPlace := ["slices.overlaps[loop.example/wateronheights/impl.standing]"], unfollowed := true, recurses := true, named := ["loop.example/wateronheights/impl.steps"], apart := false, laid := [("loop.example/wateronheights/impl.steps", laid_loop_example_wateronheights_impl_steps)], narrowed := true }
def FnBasinsOfUptoSaid : Prop := fnBasinsOfUptoRow.holds Tryd.pinned (OpenSpec.upto fnBasinsOfSpec)

/-- 'laws.FnLongestOf', WHERE WHAT IT READS IS OF BULK AT MOST 1048576: true; the input reads as it did. -/
def fnLongestOfUptoRow : OpenClaim := { program := "ytekhjjcgkmnmlaadoor", sum := "f82c8d23258b7148abbb3ca85e98173e80239fb2f44483552eb896df4186faf4", func := "loop.example/wateronheights/laws.FnLongestOf", spec := "fnLongestOf", inPlace := ["slices.overlaps[loop.example/wateronheights/impl.standing]"], unfollowed := true, recurses := true, named := ["loop.example/wateronheights/impl.steps"], apart := false, laid := [("loop.example/wateronheights/impl.steps", laid_loop_example_wateronheights_impl_steps)], narrowed := true }
def FnLongestOfUptoSaid : Prop := fnLongestOfUptoRow.holds Tryd.pinned (OpenSpec.upto fnLongestOfSpec)

/-- 'laws.FnStreamOrders', WHERE WHAT IT READS IS OF BULK AT MOST 1048576: true; the input reads as it did. -/
def fnStreamOrdersUptoRow : OpenClaim := { program := "ytekhjjcgkmnmlaadoor", sum := "f82c8d23258b7148abbb3ca85e98173e80239fb2f44483552eb896df4186faf4", func := "loop.example/wateronheights/laws.FnStreamOrders", spec := "fnStreamOrders", inPlace := ["slices.overlaps[loop.example/wateronheights/impl.standing]"], unfollowed := true, recurses := true, named := ["loop.example/wateronheights/impl.steps"], apart := false, laid := [("loop.example/wateronheights/impl.steps", laid_loop_example_wateronheights_impl_steps)], narrowed := true }
def FnStreamOrdersUptoSaid : Prop := fnStreamOrdersUptoRow.holds Tryd.pinned (OpenSpec.upto fnStreamOrdersSpec)

/-- 'laws.FnSpringsOf', WHERE WHAT IT READS IS OF BULK AT MOST 1048576: true; the input reads as it did. -/
def fnSpringsOfUptoRow : OpenClaim := { program := "ytekhjjcgkmnmlaadoor", sum := "f82c8d23258b7148abbb3ca85e98173e80239fb2f44483552eb896df4186faf4", func := "loop.example/wateronheights/laws.FnSpringsOf", spec := "fnSpringsOf", inPlace := ["slices.overlaps[loop.example/wateronheights/impl.standing]"], unfollowed := true, recurses := true, named := ["loop.example/wateronheights/impl.steps"], apart := false, laid := [("loop.example/wateronheights/impl.steps", laid_loop_example_wateronheights_impl_steps)], narrowed := true }
def FnSpringsOfUptoSaid : Prop := fnSpringsOfUptoRow.holds Tryd.pinned (OpenSpec.upto fnSpringsOfSpec)

/-- 'laws.FnBasinsAreOutlets', WHERE WHAT IT READS IS OF BULK AT MOST 1048576: true; the input reads as it did. -/
def fnBasinsAreOutletsUptoRow : OpenClaim := { program := "ytekhjjcgkmnmlaadoor", sum := "f82c8d23258b7148abbb3ca85e98173e80239fb2f44483552eb896df4186faf4", func := "loop.example/wateronheights/laws.FnBasinsAreOutlets", spec := "fnBasinsAreOutlets", inPlace := ["slices.overlaps[loop.example/wateronheights/impl.standing]"], unfollowed := true, recurses := true, named := ["loop.example/wateronheights/impl.steps"], apart := false, laid := [("loop.example/wateronheights/impl.steps", laid_loop_example_wateronheights_impl_steps)], narrowed := true }
def FnBasinsAreOutletsUptoSaid : Prop := fnBasinsAreOutletsUptoRow.holds Tryd.pinned (OpenSpec.upto fnBasinsAreOutletsSpec)

/-- 'laws.FnExactAreasOf', WHERE WHAT IT READS IS OF BULK AT MOST 1048576: true; the input reads as it did. -/
def fnExactAreasOfUptoRow : OpenClaim := { program := "ytekhjjcgkmnmlaadoor", sum := "f82c8d23258b7148abbb3ca85e98173e80239fb2f44483552eb896df4186faf4", func := "loop.example/wateronheights/laws.FnExactAreasOf", spec := "fnExactAreasOf", inPlace := ["slices.overlaps[loop.example/wateronheights/impl.standing]"], unfollowed := true, recurses := true, named := ["loop.example/wateronheights/impl.steps"], apart := false, laid := [("loop.example/wateronheights/impl.steps", laid_loop_example_wateronheights_impl_steps)], narrowed := true }
def FnExactAreasOfUptoSaid : Prop := fnExactAreasOfUptoRow.holds Tryd.pinned (OpenSpec.upto fnExactAreasOfSpec)

/-- 'laws.FnExactBasinsOf', WHERE WHAT IT READS IS OF BULK AT MOST 1048576: true; the input reads as it did. -/
def fnExactBasinsOfUptoRow : OpenClaim := { program := "ytekhjjcgkmnmlaadoor", sum := "f82c8d23258b7148abbb3ca85e98173e80239fb2f44483552eb896df4186faf4", func := "loop.example/wateronheights/laws.FnExactBasinsOf", spec := "fnExactBasinsOf", inPlace := ["slices.overlaps[loop.example/wateronheights/impl.standing]"], unfollowed := true, recurses := true, named := ["loop.example/wateronheights/impl.steps"], apart := false, laid := [("loop.example/wateronheights/impl.steps", laid_loop_example_wateronheights_impl_steps)], narrowed := true }
def FnExactBasinsOfUptoSaid : Prop := fnExactBasinsOfUptoRow.holds Tryd.pinned (OpenSpec.upto fnExactBasinsOfSpec)

/-- 'laws.FnExactLongestOf', WHERE WHAT IT READS IS OF BULK AT MOST 1048576: true; the input reads as it did. -/
def fnExactLongestOfUptoRow : OpenClaim := { program := "ytekhjjcgkmnmlaadoor", sum := "f82c8d23258b7148abbb3ca85e98173e80239fb2f44483552eb896df4186faf4", func := "loop.example/wateronheights/laws.FnExactLongestOf", spec := "fnExactLongestOf", inPlace := ["slices.overlaps[loop.example/wateronheights/impl.standing]"], unfollowed := true, recurses := true, named := ["loop.example/wateronheights/impl.steps"], apart := false, laid := [("loop.example/wateronheights/impl.steps", laid_loop_example_wateronheights_impl_steps)], narrowed := true }
def FnExactLongestOfUptoSaid : Prop := fnExactLongestOfUptoRow.holds Tryd.pinned (OpenSpec.upto fnExactLongestOfSpec)

/-- 'laws.FnExactStreamOrders', WHERE WHAT IT READS IS OF BULK AT MOST 1048576: true; the input reads as it did. -/
def fnExactStreamOrdersUptoRow : OpenClaim := { program := "ytekhjjcgkmnmlaadoor", sum := "f82c8d23258b7148abbb3ca85e98173e80239fb2f44483552eb896df4186faf4", func := "loop.example/wateronheights/laws.FnExactStreamOrders", spec := "fnExactStreamOrders", inPlace := ["slices.overlaps[loop.example/wateronheights/impl.standing]"], unfollowed := true, recurses := true, named := ["loop.example/wateronheights/impl.steps"], apart := false, laid := [("loop.example/wateronheights/impl.steps", laid_loop_example_wateronheights_impl_steps)], narrowed := true }
def FnExactStreamOrdersUptoSaid : Prop := fnExactStreamOrdersUptoRow.holds Tryd.pinned (OpenSpec.upto fnExactStreamOrdersSpec)

/-- 'laws.FnExactSpringsOf', WHERE WHAT IT READS IS OF BULK AT MOST 1048576: true; the input reads as it did. -/
def fnExactSpringsOfUptoRow : OpenClaim := { program := "ytekhjjcgkmnmlaadoor", sum := "f82c8d23258b7148abbb3ca85e98173e80239fb2f44483552eb896df4186faf4", func := "loop.example/wateronheights/laws.FnExactSpringsOf", spec := "fnExactSpringsOf", inPlace := ["slices.overlaps[loop.example/wateronheights/impl.standing]"], unfollowed := true, recurses := true, named := ["loop.example/wateronheights/impl.steps"], apart := false, laid := [("loop.example/wateronheights/impl.steps", laid_loop_example_wateronheights_impl_steps)], narrowed := true }
def FnExactSpringsOfUptoSaid : Prop := fnExactSpringsOfUptoRow.holds Tryd.pinned (OpenSpec.upto fnExactSpringsOfSpec)

end Rows
end Go.Proofs.YtekhjjcgkmnmlaaDoor
