/-
  NARROWER THAN 'FOR EVERY INPUT', by the rows' own cells (each row's printed sentence says how): FnCalmFirst: laid · FnCalmLast: laid · FnTopplesOf: laid · FnAddSand: laid · FnBurns: laid · FnZeroSand: laid · FnSandIsAGroup: laid · FnTopplesAreLeast: laid · FnExactCalmFirst: laid · FnExactCalmLast: laid · FnExactTopplesOf: laid · FnExactAddSand: laid · FnExactBurns: laid · FnExactZeroSand: laid.
  DERIVED. THE GIVEN ROWS OF THIS SEAT. 14 by the template 'for every input the law returns true; each argument reads behind the call as it read before'; 0 by the template 'total and deterministic' (their statements: YthgafljbbkgldaaDoorTotals.lean).
  GIVEN WITH THE SEED: the statements are not yours to turn. If you find one false, say at which input.
  Laid BY PROGRAM, IN A SANDBOX (cutbox-rows.mjs): the forced cells as the released guide's own fill.sh prints them over the translation f9eddd28fa7a7448… (all of the seat's roots in one cut). By AI agents, Wed Nov 11 2026. No macro, syntax, notation, axiom, sorry.
-/
import Derived.Test.YthgafljbbkgldaaDoorChecked
import GoSem.Claim
import GoSem.ClaimJoined
import GoSem.ClaimMapViews
import Derived.JoinedTies
import Derived.KernelRfl
namespace Go.Proofs.YthgafljbbkgldaaDoor
/- THE CELL 'sum', in the pinned program and in every row, IS THE sha256 OF THE DUMP (.gsa) THAT YthgafljbbkgldaaDoorProg.lean LOADS. Nothing in Lean hashes anything: it is a label: what it is worth is what the hold of that sum in a sandbox is worth. -/
noncomputable def Tryd.pinned : Pinned := { name := "ythgafljbbkgldaadoor", sum := "f9eddd28fa7a744877a0d0191c2298b012b7a55ce06d64778fd1d4c5a39aec89", checked := Tryd.checked }
namespace Rows
def none {H : Type} : Left H := { results := [], args := [] }

/- WHAT THE LISTED PACKAGE-LEVEL VARIABLES READ AS WHEN THE CALL BEGINS. Each datum BY PROGRAM (the guide's laid-datum.mjs) off the statement by which the dump's own 'gosem.cut.vars' lays the variable. In a bare row this is a premise. The card (YthgafljbbkgldaaDoorCards.lean) ties it to the program's text. -/
def laid_loop_example_wateronheights_impl_steps {H : Type} : DataW H := .agg [.agg [.lit (.int .i64 (-1)), .lit (.int .i64 0)], .agg [.lit (.int .i64 0), .lit (.int .i64 (-1))], .agg [.lit (.int .i64 0), .lit (.int .i64 1)], .agg [.lit (.int .i64 1), .lit (.int .i64 0)]]

/-- 'laws.FnCalmFirst': WHATEVER THE INPUT: true; the input reads as it did. -/
def fnCalmFirstSpec : ChangeSpec := { name := "fnCalmFirst", vars := ["loop.example/wateronheights/impl.steps"], fn := fun _ => fun
  | [d, g1] => { results := [.lit (.bool true)], args := [d], vars := [g1] }
  | _ => none }
def fnCalmFirstRow : OpenClaim := { program := "ythgafljbbkgldaadoor", sum := "f9eddd28fa7a744877a0d0191c2298b012b7a55ce06d64778fd1d4c5a39aec89", func := "loop.example/wateronheights/laws.FnCalmFirst", spec := "fnCalmFirst", unfollowed := true, recurses := true, named := ["loop.example/wateronheights/impl.steps"], apart := false, laid := [("loop.example/wateronheights/impl.steps", laid_loop_example_wateronheights_impl_steps)] }
def FnCalmFirstSaid : Prop := fnCalmFirstRow.holds Tryd.pinned (OpenSpec.ofChange fnCalmFirstSpec)

/-- ITS FALSE NEIGHBOUR: 'it returns false'. Refute it at one input. -/
def fnCalmFirstWrong : ChangeSpec := { name := "fnCalmFirst", vars := ["loop.example/wateronheights/impl.steps"], fn := fun _ => fun
  | [d, g1] => { results := [.lit (.bool false)], args := [d], vars := [g1] }
  | _ => none }
def FnCalmFirstWrongFalsely : Prop := fnCalmFirstRow.holds Tryd.pinned (OpenSpec.ofChange fnCalmFirstWrong)

/-- 'laws.FnCalmLast': WHATEVER THE INPUT: true; the input reads as it did. -/
def fnCalmLastSpec : ChangeSpec := { name := "fnCalmLast", vars := ["loop.example/wateronheights/impl.steps"], fn := fun _ => fun
  | [d, g1] => { results := [.lit (.bool true)], args := [d], vars := [g1] }
  | _ => none }
def fnCalmLastRow : OpenClaim := { program := "ythgafljbbkgldaadoor", sum := "f9eddd28fa7a744877a0d0191c2298b012b7a55ce06d64778fd1d4c5a39aec89", func := "loop.example/wateronheights/laws.FnCalmLast", spec := "fnCalmLast", unfollowed := true, recurses := true, named := ["loop.example/wateronheights/impl.steps"], apart := false, laid := [("loop.example/wateronheights/impl.steps", laid_loop_example_wateronheights_impl_steps)] }
def FnCalmLastSaid : Prop := fnCalmLastRow.holds Tryd.pinned (OpenSpec.ofChange fnCalmLastSpec)

/-- ITS FALSE NEIGHBOUR: 'it returns false'. Refute it at one input. -/
def fnCalmLastWrong : ChangeSpec := { name := "fnCalmLast", vars := ["loop.example/wateronheights/impl.steps"], fn := fun _ => fun
  | [d, g1] => { results := [.lit (.bool false)], args := [d], vars := [g1] }
  | _ => none }
def FnCalmLastWrongFalsely : Prop := fnCalmLastRow.holds Tryd.pinned (OpenSpec.ofChange fnCalmLastWrong)

/-- 'laws.FnTopplesOf': WHATEVER THE INPUT: true; the input reads as it did. -/
def fnTopplesOfSpec : ChangeSpec := { name := "fnTopplesOf", vars := ["loop.example/wateronheights/impl.steps"], fn := fun _ => fun
  | [d, g1] => { results := [.lit (.bool true)], args := [d], vars := [g1] }
  | _ => none }
def fnTopplesOfRow : OpenClaim := { program := "ythgafljbbkgldaadoor", sum := "f9eddd28fa7a744877a0d0191c2298b012b7a55ce06d64778fd1d4c5a39aec89", func := "loop.example/wateronheights/laws.FnTopplesOf", spec := "fnTopplesOf", unfollowed := true, recurses := true, named := ["loop.example/wateronheights/impl.steps"], apart := false, laid := [("loop.example/wateronheights/impl.steps", laid_loop_example_wateronheights_impl_steps)] }
def FnTopplesOfSaid : Prop := fnTopplesOfRow.holds Tryd.pinned (OpenSpec.ofChange fnTopplesOfSpec)

/-- ITS FALSE NEIGHBOUR: 'it returns false'. Refute it at one input. -/
def fnTopplesOfWrong : ChangeSpec := { name := "fnTopplesOf", vars := ["loop.example/wateronheights/impl.steps"], fn := fun _ => fun
  | [d, g1] => { results := [.lit (.bool false)], args := [d], vars := [g1] }
  | _ => none }
def FnTopplesOfWrongFalsely : Prop := fnTopplesOfRow.holds Tryd.pinned (OpenSpec.ofChange fnTopplesOfWrong)

/-- 'laws.FnAddSand': WHATEVER THE INPUT: true; the input reads as it did. -/
def fnAddSandSpec : ChangeSpec := { name := "fnAddSand", vars := ["loop.example/wateronheights/impl.steps"], fn := fun _ => fun
  | [d, g1] => { results := [.lit (.bool true)], args := [d], vars := [g1] }
  | _ => none }
def fnAddSandRow : OpenClaim := { program := "ythgafljbbkgldaadoor", sum := "f9eddd28fa7a744877a0d0191c2298b012b7a55ce06d64778fd1d4c5a39aec89", func := "loop.example/wateronheights/laws.FnAddSand", spec := "fnAddSand", unfollowed := true, recurses := true, named := ["loop.example/wateronheights/impl.steps"], apart := false, laid := [("loop.example/wateronheights/impl.steps", laid_loop_example_wateronheights_impl_steps)] }
def FnAddSandSaid : Prop := fnAddSandRow.holds Tryd.pinned (OpenSpec.ofChange fnAddSandSpec)

/-- ITS FALSE NEIGHBOUR: 'it returns false'. Refute it at one input. -/
def fnAddSandWrong : ChangeSpec := { name := "fnAddSand", vars := ["loop.example/wateronheights/impl.steps"], fn := fun _ => fun
  | [d, g1] => { results := [.lit (.bool false)], args := [d], vars := [g1] }
  | _ => none }
def FnAddSandWrongFalsely : Prop := fnAddSandRow.holds Tryd.pinned (OpenSpec.ofChange fnAddSandWrong)

/-- 'laws.FnBurns': WHATEVER THE INPUT: true; the input reads as it did. -/
def fnBurnsSpec : ChangeSpec := { name := "fnBurns", vars := ["loop.example/wateronheights/impl.steps"], fn := fun _ => fun
  | [d, g1] => { results := [.lit (.bool true)], args := [d], vars := [g1] }
  | _ => none }
def fnBurnsRow : OpenClaim := { program := "ythgafljbbkgldaadoor", sum := "f9eddd28fa7a744877a0d0191c2298b012b7a55ce06d64778fd1d4c5a39aec89", func := "loop.example/wateronheights/laws.FnBurns", spec := "fnBurns", unfollowed := true, recurses := true, named := ["loop.example/wateronheights/impl.steps"], apart := false, laid := [("loop.example/wateronheights/impl.steps", laid_loop_example_wateronheights_impl_steps)] }
def FnBurnsSaid : Prop := fnBurnsRow.holds Tryd.pinned (OpenSpec.ofChange fnBurnsSpec)

/-- ITS FALSE NEIGHBOUR: 'it returns false'. Refute it at one input. -/
def fnBurnsWrong : ChangeSpec := { name := "fnBurns", vars := ["loop.example/wateronheights/impl.steps"], fn := fun _ => fun
  | [d, g1] => { results := [.lit (.bool false)], args := [d], vars := [g1] }
  | _ => none }
def FnBurnsWrongFalsely : Prop := fnBurnsRow.holds Tryd.pinned (OpenSpec.ofChange fnBurnsWrong)

/-- 'laws.FnZeroSand': WHATEVER THE INPUT: true; the input reads as it did. -/
def fnZeroSandSpec : ChangeSpec := { name := "fnZeroSand", vars := ["loop.example/wateronheights/impl.steps"], fn := fun _ => fun
  | [d, g1] => { results := [.lit (.bool true)], args := [d], vars := [g1] }
  | _ => none }
def fnZeroSandRow : OpenClaim := { program := "ythgafljbbkgldaadoor", sum := "f9eddd28fa7a744877a0d0191c2298b012b7a55ce06d64778fd1d4c5a39aec89", func := "loop.example/wateronheights/laws.FnZeroSand", spec := "fnZeroSand", unfollowed := true, recurses := true, named := ["loop.example/wateronheights/impl.steps"], apart := false, laid := [("loop.example/wateronheights/impl.steps", laid_loop_example_wateronheights_impl_steps)] }
def FnZeroSandSaid : Prop := fnZeroSandRow.holds Tryd.pinned (OpenSpec.ofChange fnZeroSandSpec)

/-- ITS FALSE NEIGHBOUR: 'it returns false'. Refute it at one input. -/
def fnZeroSandWrong : ChangeSpec := { name := "fnZeroSand", vars := ["loop.example/wateronheights/impl.steps"], fn := fun _ => fun
  | [d, g1] => { results := [.lit (.bool false)], args := [d], vars := [g1] }
  | _ => none }
def FnZeroSandWrongFalsely : Prop := fnZeroSandRow.holds Tryd.pinned (OpenSpec.ofChange fnZeroSandWrong)

/-- 'laws.FnSandIsAGroup': WHATEVER THE INPUT: true; the input reads as it did. -/
def fnSandIsAGroupSpec : ChangeSpec := { name := "fnSandIsAGroup", vars := ["loop.example/wateronheights/impl.steps"], fn := fun _ => fun
  | [d, g1] => { results := [.lit (.bool true)], args := [d], vars := [g1] }
  | _ => none }
def fnSandIsAGroupRow : OpenClaim := { program := "ythgafljbbkgldaadoor", sum := "f9eddd28fa7a744877a0d0191c2298b012b7a55ce06d64778fd1d4c5a39aec89", func := "loop.example/wateronheights/laws.FnSandIsAGroup", spec := "fnSandIsAGroup", unfollowed := true, recurses := true, named := ["loop.example/wateronheights/impl.steps"], apart := false, laid := [("loop.example/wateronheights/impl.steps", laid_loop_example_wateronheights_impl_steps)] }
def FnSandIsAGroupSaid : Prop := fnSandIsAGroupRow.holds Tryd.pinned (OpenSpec.ofChange fnSandIsAGroupSpec)

/-- ITS FALSE NEIGHBOUR: 'it returns false'. Refute it at one input. -/
def fnSandIsAGroupWrong : ChangeSpec := { name := "fnSandIsAGroup", vars := ["loop.example/wateronheights/impl.steps"], fn := fun _ => fun
  | [d, g1] => { results := [.lit (.bool false)], args := [d], vars := [g1] }
  | _ => none }
def FnSandIsAGroupWrongFalsely : Prop := fnSandIsAGroupRow.holds Tryd.pinned (OpenSpec.ofChange fnSandIsAGroupWrong)

/-- 'laws.FnTopplesAreLeast': WHATEVER THE INPUT: true; the input reads as it did. -/
def fnTopplesAreLeastSpec : ChangeSpec := { name := "fnTopplesAreLeast", vars := ["loop.example/wateronheights/impl.steps"], fn := fun _ => fun
  | [d, g1] => { results := [.lit (.bool true)], args := [d], vars := [g1] }
  | _ => none }
def fnTopplesAreLeastRow : OpenClaim := { program := "ythgafljbbkgldaadoor", sum := "f9eddd28fa7a744877a0d0191c2298b012b7a55ce06d64778fd1d4c5a39aec89", func := "loop.example/wateronheights/laws.FnTopplesAreLeast", spec := "fnTopplesAreLeast", unfollowed := true, recurses := true, named := ["loop.example/wateronheights/impl.steps"], apart := false, laid := [("loop.example/wateronheights/impl.steps", laid_loop_example_wateronheights_impl_steps)] }
def FnTopplesAreLeastSaid : Prop := fnTopplesAreLeastRow.holds Tryd.pinned (OpenSpec.ofChange fnTopplesAreLeastSpec)

/-- ITS FALSE NEIGHBOUR: 'it returns false'. Refute it at one input. -/
def fnTopplesAreLeastWrong : ChangeSpec := { name := "fnTopplesAreLeast", vars := ["loop.example/wateronheights/impl.steps"], fn := fun _ => fun
  | [d, g1] => { results := [.lit (.bool false)], args := [d], vars := [g1] }
  | _ => none }
def FnTopplesAreLeastWrongFalsely : Prop := fnTopplesAreLeastRow.holds Tryd.pinned (OpenSpec.ofChange fnTopplesAreLeastWrong)

/-- 'laws.FnExactCalmFirst': WHATEVER THE INPUT: true; the input reads as it did. -/
def fnExactCalmFirstSpec : ChangeSpec := { name := "fnExactCalmFirst", vars := ["loop.example/wateronheights/impl.steps"], fn := fun _ => fun
  | [d, g1] => { results := [.lit (.bool true)], args := [d], vars := [g1] }
  | _ => none }
def fnExactCalmFirstRow : OpenClaim := { program := "ythgafljbbkgldaadoor", sum := "f9eddd28fa7a744877a0d0191c2298b012b7a55ce06d64778fd1d4c5a39aec89", func := "loop.example/wateronheights/laws.FnExactCalmFirst", spec := "fnExactCalmFirst", unfollowed := true, recurses := true, named := ["loop.example/wateronheights/impl.steps"], apart := false, laid := [("loop.example/wateronheights/impl.steps", laid_loop_example_wateronheights_impl_steps)] }
def FnExactCalmFirstSaid : Prop := fnExactCalmFirstRow.holds Tryd.pinned (OpenSpec.ofChange fnExactCalmFirstSpec)

/-- ITS FALSE NEIGHBOUR: 'it returns false'. Refute it at one input. -/
def fnExactCalmFirstWrong : ChangeSpec := { name := "fnExactCalmFirst", vars := ["loop.example/wateronheights/impl.steps"], fn := fun _ => fun
  | [d, g1] => { results := [.lit (.bool false)], args := [d], vars := [g1] }
  | _ => none }
def FnExactCalmFirstWrongFalsely : Prop := fnExactCalmFirstRow.holds Tryd.pinned (OpenSpec.ofChange fnExactCalmFirstWrong)

/-- 'laws.FnExactCalmLast': WHATEVER THE INPUT: true; the input reads as it did. -/
def fnExactCalmLastSpec : ChangeSpec := { name := "fnExactCalmLast", vars := ["loop.example/wateronheights/impl.steps"], fn := fun _ => fun
  | [d, g1] => { results := [.lit (.bool true)], args := [d], vars := [g1] }
  | _ => none }
def fnExactCalmLastRow : OpenClaim := { program := "ythgafljbbkgldaadoor", sum := "f9eddd28fa7a744877a0d0191c2298b012b7a55ce06d64778fd1d4c5a39aec89", func := "loop.example/wateronheights/laws.FnExactCalmLast", spec := "fnExactCalmLast", unfollowed := true, recurses := true, named := ["loop.example/wateronheights/impl.steps"], apart := false, laid := [("loop.example/wateronheights/impl.steps", laid_loop_example_wateronheights_impl_steps)] }
def FnExactCalmLastSaid : Prop := fnExactCalmLastRow.holds Tryd.pinned (OpenSpec.ofChange fnExactCalmLastSpec)

/-- ITS FALSE NEIGHBOUR: 'it returns false'. Refute it at one input. -/
def fnExactCalmLastWrong : ChangeSpec := { name := "fnExactCalmLast", vars := ["loop.example/wateronheights/impl.steps"], fn := fun _ => fun
  | [d, g1] => { results := [.lit (.bool false)], args := [d], vars := [g1] }
  | _ => none }
def FnExactCalmLastWrongFalsely : Prop := fnExactCalmLastRow.holds Tryd.pinned (OpenSpec.ofChange fnExactCalmLastWrong)

/-- 'laws.FnExactTopplesOf': WHATEVER THE INPUT: true; the input reads as it did. -/
def fnExactTopplesOfSpec : ChangeSpec := { name := "fnExactTopplesOf", vars := ["loop.example/wateronheights/impl.steps"], fn := fun _ => fun
  | [d, g1] => { results := [.lit (.bool true)], args := [d], vars := [g1] }
  | _ => none }
def fnExactTopplesOfRow : OpenClaim := { program := "ythgafljbbkgldaadoor", sum := "f9eddd28fa7a744877a0d0191c2298b012b7a55ce06d64778fd1d4c5a39aec89", func := "loop.example/wateronheights/laws.FnExactTopplesOf", spec := "fnExactTopplesOf", unfollowed := true, recurses := true, named := ["loop.example/wateronheights/impl.steps"], apart := false, laid := [("loop.example/wateronheights/impl.steps", laid_loop_example_wateronheights_impl_steps)] }
def FnExactTopplesOfSaid : Prop := fnExactTopplesOfRow.holds Tryd.pinned (OpenSpec.ofChange fnExactTopplesOfSpec)

/-- ITS FALSE NEIGHBOUR: 'it returns false'. Refute it at one input. -/
def fnExactTopplesOfWrong : ChangeSpec := { name := "fnExactTopplesOf", vars := ["loop.example/wateronheights/impl.steps"], fn := fun _ => fun
  | [d, g1] => { results := [.lit (.bool false)], args := [d], vars := [g1] }
  | _ => none }
def FnExactTopplesOfWrongFalsely : Prop := fnExactTopplesOfRow.holds Tryd.pinned (OpenSpec.ofChange fnExactTopplesOfWrong)

/-- 'laws.FnExactAddSand': WHATEVER THE INPUT: true; the input reads as it did. -/
def fnExactAddSandSpec : ChangeSpec := { name := "fnExactAddSand", vars := ["loop.example/wateronheights/impl.steps"], fn := fun _ => fun
  | [d1, d2, g1] => { results := [.lit (.bool true)], args := [d1, d2], vars := [g1] }
  | _ => none }
def fnExactAddSandRow : OpenClaim := { program := "ythgafljbbkgldaadoor", sum := "f9eddd28fa7a744877a0d0191c2298b012b7a55ce06d64778fd1d4c5a39aec89", func := "loop.example/wateronheights/laws.FnExactAddSand", spec := "fnExactAddSand", unfollowed := true, recurses := true, named := ["loop.example/wateronheights/impl.steps"], apart := false, laid := [("loop.example/wateronheights/impl.steps", laid_loop_example_wateronheights_impl_steps)] }
def FnExactAddSandSaid : Prop := fnExactAddSandRow.holds Tryd.pinned (OpenSpec.ofChange fnExactAddSandSpec)

/-- ITS FALSE NEIGHBOUR: 'it returns false'. Refute it at one input. -/
def fnExactAddSandWrong : ChangeSpec := { name := "fnExactAddSand", vars := ["loop.example/wateronheights/impl.steps"], fn := fun _ => fun
  | [d1, d2, g1] => { results := [.lit (.bool false)], args := [d1, d2], vars := [g1] }
  | _ => none }
def FnExactAddSandWrongFalsely : Prop := fnExactAddSandRow.holds Tryd.pinned (OpenSpec.ofChange fnExactAddSandWrong)

/-- 'laws.FnExactBurns': WHATEVER THE INPUT: true; the input reads as it did. -/
def fnExactBurnsSpec : ChangeSpec := { name := "fnExactBurns", vars := ["loop.example/wateronheights/impl.steps"], fn := fun _ => fun
  | [d, g1] => { results := [.lit (.bool true)], args := [d], vars := [g1] }
  | _ => none }
def fnExactBurnsRow : OpenClaim := { program := "ythgafljbbkgldaadoor", sum := "f9eddd28fa7a744877a0d0191c2298b012b7a55ce06d64778fd1d4c5a39aec89", func := "loop.example/wateronheights/laws.FnExactBurns", spec := "fnExactBurns", unfollowed := true, recurses := true, named := ["loop.example/wateronheights/impl.steps"], apart := false, laid := [("loop.example/wateronheights/impl.steps", laid_loop_example_wateronheights_impl_steps)] }
def FnExactBurnsSaid : Prop := fnExactBurnsRow.holds Tryd.pinned (OpenSpec.ofChange fnExactBurnsSpec)

/-- ITS FALSE NEIGHBOUR: 'it returns false'. Refute it at one input. -/
def fnExactBurnsWrong : ChangeSpec := { name := "fnExactBurns", vars := ["loop.example/wateronheights/impl.steps"], fn := fun _ => fun
  | [d, g1] => { results := [.lit (.bool false)], args := [d], vars := [g1] }
  | _ => none }
def FnExactBurnsWrongFalsely : Prop := fnExactBurnsRow.holds Tryd.pinned (OpenSpec.ofChange fnExactBurnsWrong)

/-- 'laws.FnExactZeroSand': WHATEVER THE INPUT: true; the input reads as it did. -/
def fnExactZeroSandSpec : ChangeSpec := { name := "fnExactZeroSand", vars := ["loop.example/wateronheights/impl.steps"], fn := fun _ => fun
  | [d1, d2, g1] => { results := [.lit (.bool true)], args := [d1, d2], vars := [g1] }
  | _ => none }
def fnExactZeroSandRow : OpenClaim := { program := "ythgafljbbkgldaadoor", sum := "f9eddd28fa7a744877a0d0191c2298b012b7a55ce06d64778fd1d4c5a39aec89", func := "loop.example/wateronheights/laws.FnExactZeroSand", spec := "fnExactZeroSand", unfollowed := true, recurses := true, named := ["loop.example/wateronheights/impl.steps"], apart := false, laid := [("loop.example/wateronheights/impl.steps", laid_loop_example_wateronheights_impl_steps)] }
def FnExactZeroSandSaid : Prop := fnExactZeroSandRow.holds Tryd.pinned (OpenSpec.ofChange fnExactZeroSandSpec)

/-- ITS FALSE NEIGHBOUR: 'it returns false'. Refute it at one input. -/
def fnExactZeroSandWrong : ChangeSpec := { name := "fnExactZeroSand", vars := ["loop.example/wateronheights/impl.steps"], fn := fun _ => fun
  | [d1, d2, g1] => { results := [.lit (.bool false)], args := [d1, d2], vars := [g1] }
  | _ => none }
def FnExactZeroSandWrongFalsely : Prop := fnExactZeroSandRow.holds Tryd.pinned (OpenSpec.ofChange fnExactZeroSandWrong)

/- THE SECOND FORM. 'bulk': how many values and letters a reading holds, each counted each time it is reached (what is shared counts as often as it is met; a slice's spare places count too). A statement '..UptoSaid' is the law's where the arguments, and the package variables that the reading takes, are together of bulk at most 1048576: NARROWER than '..Said'. Prove '..Said' where nothing that the law and all that it calls make is longer than what came in: it says more and counts as full. Else prove '..UptoSaid'. A law counts once. -/
mutual
def uptoBulk {H : Type} : DataW H → Nat
  | .lit (.string bytes) => bytes.length + 1
  | .lit _ => 1
  | .nil => 1
  | .ptr d => uptoBulk d + 1
  | .slice elems spare => uptoBulkAll elems + uptoBulkAll spare + 1
  | .agg parts => uptoBulkAll parts + 1
  | .iface _ d => uptoBulk d + 1
  | .map entries => uptoBulkEntries entries + 1
  | .held _ => 1
def uptoBulkAll {H : Type} : List (DataW H) → Nat
  | [] => 0
  | d :: r => uptoBulk d + uptoBulkAll r
def uptoBulkEntries {H : Type} : List (Lit × DataW H) → Nat
  | [] => 0
  | x :: r => uptoBulkEntry x + uptoBulkEntries r
def uptoBulkEntry {H : Type} : Lit × DataW H → Nat
  | (.string bytes, d) => bytes.length + uptoBulk d + 1
  | (_, d) => uptoBulk d + 1
 end
def uptoSmall : (H : Type) → List (DataW H) → Bool := fun _ ds => decide (uptoBulkAll ds ≤ 1048576)
def OpenSpec.upto (s : _root_.Go.ChangeSpec) : _root_.Go.OpenSpec := { _root_.Go.OpenSpec.ofChange s with cond := some uptoSmall }

/-- 'laws.FnCalmFirst', WHERE WHAT IT READS IS OF BULK AT MOST 1048576: true; the input reads as it did. -/
def fnCalmFirstUptoRow : OpenClaim := { program := "ythgafljbbkgldaadoor", sum := "f9eddd28fa7a744877a0d0191c2298b012b7a55ce06d64778fd1d4c5a39aec89", func := "loop.example/wateronheights/laws.FnCalmFirst", spec := "fnCalmFirst", unfollowed := true, recurses := true, named := ["loop.example/wateronheights/impl.steps"], apart := false, laid := [("loop.example/wateronheights/impl.steps", laid_loop_example_wateronheights_impl_steps)], narrowed := true }
def FnCalmFirstUptoSaid : Prop := fnCalmFirstUptoRow.holds Tryd.pinned (OpenSpec.upto fnCalmFirstSpec)

/-- 'laws.FnCalmLast', WHERE WHAT IT READS IS OF BULK AT MOST 1048576: true; the input reads as it did. -/
def fnCalmLastUptoRow : OpenClaim := { program := "ythgafljbbkgldaadoor", sum := "f9eddd28fa7a744877a0d0191c2298b012b7a55ce06d64778fd1d4c5a39aec89", func := "loop.example/wateronheights/laws.FnCalmLast", spec := "fnCalmLast", unfollowed := true, recurses := true, named := ["loop.example/wateronheights/impl.steps"], apart := false, laid := [("loop.example/wateronheights/impl.steps", laid_loop_example_wateronheights_impl_steps)], narrowed := true }
def FnCalmLastUptoSaid : Prop := fnCalmLastUptoRow.holds Tryd.pinned (OpenSpec.upto fnCalmLastSpec)

/-- 'laws.FnTopplesOf', WHERE WHAT IT READS IS OF BULK AT MOST 1048576: true; the input reads as it did. -/
def fnTopplesOfUptoRow : OpenClaim := { program := "ythgafljbbkgldaadoor", sum := "f9eddd28fa7a744877a0d0191c2298b012b7a55ce06d64778fd1d4c5a39aec89", func := "loop.example/wateronheights/laws.FnTopplesOf", spec := "fnTopplesOf", unfollowed := true, recurses := true, named := ["loop.example/wateronheights/impl.steps"], apart := false, laid := [("loop.example/wateronheights/impl.steps", laid_loop_example_wateronheights_impl_steps)], narrowed := true }
def FnTopplesOfUptoSaid : Prop := fnTopplesOfUptoRow.holds Tryd.pinned (OpenSpec.upto fnTopplesOfSpec)

/-- 'laws.FnAddSand', WHERE WHAT IT READS IS OF BULK AT MOST 1048576: true; the input reads as it did. -/
def fnAddSandUptoRow : OpenClaim := { program := "ythgafljbbkgldaadoor", sum := "f9eddd28fa7a744877a0d0191c2298b012b7a55ce06d64778fd1d4c5a39aec89", func := "loop.example/wateronheights/laws.FnAddSand", spec := "fnAddSand", unfollowed := true, recurses := true, named := ["loop.example/wateronheights/impl.steps"], apart := false, laid := [("loop.example/wateronheights/impl.steps", laid_loop_example_wateronheights_impl_steps)], narrowed := true }
def FnAddSandUptoSaid : Prop := fnAddSandUptoRow.holds Tryd.pinned (OpenSpec.upto fnAddSandSpec)

/-- 'laws.FnBurns', WHERE WHAT IT READS IS OF BULK AT MOST 1048576: true; the input reads as it did. -/
def fnBurnsUptoRow : OpenClaim := { program := "ythgafljbbkgldaadoor", sum := "f9eddd28fa7a744877a0d0191c2298b012b7a55ce06d64778fd1d4c5a39aec89", func := "loop.example/wateronheights/laws.FnBurns", spec := "fnBurns", unfollowed := true, recurses := true, named := ["loop.example/wateronheights/impl.steps"], apart := false, laid := [("loop.example/wateronheights/impl.steps", laid_loop_example_wateronheights_impl_steps)], narrowed := true }
def FnBurnsUptoSaid : Prop := fnBurnsUptoRow.holds Tryd.pinned (OpenSpec.upto fnBurnsSpec)

/-- 'laws.FnZeroSand', WHERE WHAT IT READS IS OF BULK AT MOST 1048576: true; the input reads as it did. -/
def fnZeroSandUptoRow : OpenClaim := { program := "ythgafljbbkgldaadoor", sum := "f9eddd28fa7a744877a0d0191c2298b012b7a55ce06d64778fd1d4c5a39aec89", func := "loop.example/wateronheights/laws.FnZeroSand", spec := "fnZeroSand", unfollowed := true, recurses := true, named := ["loop.example/wateronheights/impl.steps"], apart := false, laid := [("loop.example/wateronheights/impl.steps", laid_loop_example_wateronheights_impl_steps)], narrowed := true }
def FnZeroSandUptoSaid : Prop := fnZeroSandUptoRow.holds Tryd.pinned (OpenSpec.upto fnZeroSandSpec)

/-- 'laws.FnSandIsAGroup', WHERE WHAT IT READS IS OF BULK AT MOST 1048576: true; the input reads as it did. -/
def fnSandIsAGroupUptoRow : OpenClaim := { program := "ythgafljbbkgldaadoor", sum := "f9eddd28fa7a744877a0d0191c2298b012b7a55ce06d64778fd1d4c5a39aec89", func := "loop.example/wateronheights/laws.FnSandIsAGroup", spec := "fnSandIsAGroup", unfollowed := true, recurses := true, named := ["loop.example/wateronheights/impl.steps"], apart := false, laid := [("loop.example/wateronheights/impl.steps", laid_loop_example_wateronheights_impl_steps)], narrowed := true }
def FnSandIsAGroupUptoSaid : Prop := fnSandIsAGroupUptoRow.holds Tryd.pinned (OpenSpec.upto fnSandIsAGroupSpec)

/-- 'laws.FnTopplesAreLeast', WHERE WHAT IT READS IS OF BULK AT MOST 1048576: true; the input reads as it did. -/
def fnTopplesAreLeastUptoRow : OpenClaim := { program := "ythgafljbbkgldaadoor", sum := "f9eddd28fa7a744877a0d0191c2298b012b7a55ce06d64778fd1d4c5a39aec89", func := "loop.example/wateronheights/laws.FnTopplesAreLeast", spec := "fnTopplesAreLeast", unfollowed := true, recurses := true, named := ["loop.example/wateronheights/impl.steps"], apart := false, laid := [("loop.example/wateronheights/impl.steps", laid_loop_example_wateronheights_impl_steps)], narrowed := true }
def FnTopplesAreLeastUptoSaid : Prop := fnTopplesAreLeastUptoRow.holds Tryd.pinned (OpenSpec.upto fnTopplesAreLeastSpec)

/-- 'laws.FnExactCalmFirst', WHERE WHAT IT READS IS OF BULK AT MOST 1048576: true; the input reads as it did. -/
def fnExactCalmFirstUptoRow : OpenClaim := { program := "ythgafljbbkgldaadoor", sum := "f9eddd28fa7a744877a0d0191c2298b012b7a55ce06d64778fd1d4c5a39aec89", func := "loop.example/wateronheights/laws.FnExactCalmFirst", spec := "fnExactCalmFirst", unfollowed := true, recurses := true, named := ["loop.example/wateronheights/impl.steps"], apart := false, laid := [("loop.example/wateronheights/impl.steps", laid_loop_example_wateronheights_impl_steps)], narrowed := true }
def FnExactCalmFirstUptoSaid : Prop := fnExactCalmFirstUptoRow.holds Tryd.pinned (OpenSpec.upto fnExactCalmFirstSpec)

/-- 'laws.FnExactCalmLast', WHERE WHAT IT READS IS OF BULK AT MOST 1048576: true; the input reads as it did. -/
def fnExactCalmLastUptoRow : OpenClaim := { program := "ythgafljbbkgldaadoor", sum := "f9eddd28fa7a744877a0d0191c2298b012b7a55ce06d64778fd1d4c5a39aec89", func := "loop.example/wateronheights/laws.FnExactCalmLast", spec := "fnExactCalmLast", unfollowed := true, recurses := true, named := ["loop.example/wateronheights/impl.steps"], apart := false, laid := [("loop.example/wateronheights/impl.steps", laid_loop_example_wateronheights_impl_steps)], narrowed := true }
def FnExactCalmLastUptoSaid : Prop := fnExactCalmLastUptoRow.holds Tryd.pinned (OpenSpec.upto fnExactCalmLastSpec)

/-- 'laws.FnExactTopplesOf', WHERE WHAT IT READS IS OF BULK AT MOST 1048576: true; the input reads as it did. -/
def fnExactTopplesOfUptoRow : OpenClaim := { program := "ythgafljbbkgldaadoor", sum := "f9eddd28fa7a744877a0d0191c2298b012b7a55ce06d64778fd1d4c5a39aec89", func := "loop.example/wateronheights/laws.FnExactTopplesOf", spec := "fnExactTopplesOf", unfollowed := true, recurses := true, named := ["loop.example/wateronheights/impl.steps"], apart := false, laid := [("loop.example/wateronheights/impl.steps", laid_loop_example_wateronheights_impl_steps)], narrowed := true }
def FnExactTopplesOfUptoSaid : Prop := fnExactTopplesOfUptoRow.holds Tryd.pinned (OpenSpec.upto fnExactTopplesOfSpec)

/-- 'laws.FnExactAddSand', WHERE WHAT IT READS IS OF BULK AT MOST 1048576: true; the input reads as it did. -/
def fnExactAddSandUptoRow : OpenClaim := { program := "ythgafljbbkgldaadoor", sum := "f9eddd28fa7a744877a0d0191c2298b012b7a55ce06d64778fd1d4c5a39aec89", func := "loop.example/wateronheights/laws.FnExactAddSand", spec := "fnExactAddSand", unfollowed := true, recurses := true, named := ["loop.example/wateronheights/impl.steps"], apart := false, laid := [("loop.example/wateronheights/impl.steps", laid_loop_example_wateronheights_impl_steps)], narrowed := true }
def FnExactAddSandUptoSaid : Prop := fnExactAddSandUptoRow.holds Tryd.pinned (OpenSpec.upto fnExactAddSandSpec)

/-- 'laws.FnExactBurns', WHERE WHAT IT READS IS OF BULK AT MOST 1048576: true; the input reads as it did. -/
def fnExactBurnsUptoRow : OpenClaim := { program := "ythgafljbbkgldaadoor", sum := "f9eddd28fa7a744877a0d0191c2298b012b7a55ce06d64778fd1d4c5a39aec89", func := "loop.example/wateronheights/laws.FnExactBurns", spec := "fnExactBurns", unfollowed := true, recurses := true, named := ["loop.example/wateronheights/impl.steps"], apart := false, laid := [("loop.example/wateronheights/impl.steps", laid_loop_example_wateronheights_impl_steps)], narrowed := true }
def FnExactBurnsUptoSaid : Prop := fnExactBurnsUptoRow.holds Tryd.pinned (OpenSpec.upto fnExactBurnsSpec)

/-- 'laws.FnExactZeroSand', WHERE WHAT IT READS IS OF BULK AT MOST 1048576: true; the input reads as it did. -/
def fnExactZeroSandUptoRow : OpenClaim := { program := "ythgafljbbkgldaadoor", sum := "f9eddd28fa7a744877a0d0191c2298b012b7a55ce06d64778fd1d4c5a39aec89", func := "loop.example/wateronheights/laws.FnExactZeroSand", spec := "fnExactZeroSand", unfollowed := true, recurses := true, named := ["loop.example/wateronheights/impl.steps"], apart := false, laid := [("loop.example/wateronheights/impl.steps", laid_loop_example_wateronheights_impl_steps)], narrowed := true }
def FnExactZeroSandUptoSaid : Prop := fnExactZeroSandUptoRow.holds Tryd.pinned (OpenSpec.upto fnExactZeroSandSpec)

end Rows
end Go.Proofs.YthgafljbbkgldaaDoor
