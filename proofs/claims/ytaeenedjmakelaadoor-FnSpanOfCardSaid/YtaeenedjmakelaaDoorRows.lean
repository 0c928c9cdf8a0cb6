/-
  NARROWER THAN 'FOR EVERY INPUT', by the rows' own cells (each row's printed sentence says how): FnExactGuardsOf: laid · FnGuardsOf: laid · FnExactMergesOf: laid · FnMergesOf: laid · FnExactSpanOf: laid · FnSpanOf: laid · FnLandsAt: laid.
  DERIVED. THE GIVEN ROWS OF THIS SEAT. 7 by the template 'for every input the law returns true; each argument reads behind the call as it read before'; 0 by the template 'total and deterministic' (their statements: YtaeenedjmakelaaDoorTotals.lean).
  GIVEN WITH THE SEED: the statements are not yours to turn. If you find one false, say at which input.
  Laid BY PROGRAM, IN A SANDBOX (cutbox-rows.mjs): the forced cells as the released guide's own fill.sh prints them over the translation ae43c0e3737e6461… (all of the seat's roots in one cut). By AI agents, Wed Nov 11 2026. No macro, syntax, notation, axiom, sorry.
-/
import Derived.Test.YtaeenedjmakelaaDoorChecked
import GoSem.Claim
import GoSem.ClaimJoined
import GoSem.ClaimMapViews
import Derived.JoinedTies
import Derived.KernelRfl
namespace Go.Proofs.YtaeenedjmakelaaDoor
/- THE CELL 'sum', in the pinned program and in every row, IS THE sha256 OF THE DUMP (.gsa) THAT YtaeenedjmakelaaDoorProg.lean LOADS. Nothing in Lean hashes anything: it is a label: what it is worth is what the hold of that sum in a sandbox is worth. -/
noncomputable def Tryd.pinned : Pinned := { name := "ytaeenedjmakelaadoor", sum := "ae43c0e3737e64610f0aa8d56a2d6cb1bc8771cd8ddd4337594050e2a45c36ae", checked := Tryd.checked }
namespace Rows
def none {H : Type} : Left H := { results := [], args := [] }

/- WHAT THE LISTED PACKAGE-LEVEL VARIABLES READ AS WHEN THE CALL BEGINS. Each datum BY PROGRAM (the guide's laid-datum.mjs) off the statement by which the dump's own 'gosem.cut.vars' lays the variable. In a bare row this is a premise. The card (YtaeenedjmakelaaDoorCards.lean) ties it to the program's text. -/
def laid_math_bits_deBruijn32tab {H : Type} : DataW H := .agg [.lit (.int .u8 0), .lit (.int .u8 1), .lit (.int .u8 28), .lit (.int .u8 2), .lit (.int .u8 29), .lit (.int .u8 14), .lit (.int .u8 24), .lit (.int .u8 3), .lit (.int .u8 30), .lit (.int .u8 22), .lit (.int .u8 20), .lit (.int .u8 15), .lit (.int .u8 25), .lit (.int .u8 17), .lit (.int .u8 4), .lit (.int .u8 8), .lit (.int .u8 31), .lit (.int .u8 27), .lit (.int .u8 13), .lit (.int .u8 23), .lit (.int .u8 21), .lit (.int .u8 19), .lit (.int .u8 16), .lit (.int .u8 7), .lit (.int .u8 26), .lit (.int .u8 12), .lit (.int .u8 18), .lit (.int .u8 6), .lit (.int .u8 11), .lit (.int .u8 5), .lit (.int .u8 10), .lit (.int .u8 9)]
def laid_math_bits_deBruijn64tab {H : Type} : DataW H := .agg [.lit (.int .u8 0), .lit (.int .u8 1), .lit (.int .u8 56), .lit (.int .u8 2), .lit (.int .u8 57), .lit (.int .u8 49), .lit (.int .u8 28), .lit (.int .u8 3), .lit (.int .u8 61), .lit (.int .u8 58), .lit (.int .u8 42), .lit (.int .u8 50), .lit (.int .u8 38), .lit (.int .u8 29), .lit (.int .u8 17), .lit (.int .u8 4), .lit (.int .u8 62), .lit (.int .u8 47), .lit (.int .u8 59), .lit (.int .u8 36), .lit (.int .u8 45), .lit (.int .u8 43), .lit (.int .u8 51), .lit (.int .u8 22), .lit (.int .u8 53), .lit (.int .u8 39), .lit (.int .u8 33), .lit (.int .u8 30), .lit (.int .u8 24), .lit (.int .u8 18), .lit (.int .u8 12), .lit (.int .u8 5), .lit (.int .u8 63), .lit (.int .u8 55), .lit (.int .u8 48), .lit (.int .u8 27), .lit (.int .u8 60), .lit (.int .u8 41), .lit (.int .u8 37), .lit (.int .u8 16), .lit (.int .u8 46), .lit (.int .u8 35), .lit (.int .u8 44), .lit (.int .u8 21), .lit (.int .u8 52), .lit (.int .u8 32), .lit (.int .u8 23), .lit (.int .u8 11), .lit (.int .u8 54), .lit (.int .u8 26), .lit (.int .u8 40), .lit (.int .u8 15), .lit (.int .u8 34), .lit (.int .u8 20), .lit (.int .u8 31), .lit (.int .u8 10), .lit (.int .u8 25), .lit (.int .u8 14), .lit (.int .u8 19), .lit (.int .u8 9), .lit (.int .u8 13), .lit (.int .u8 8), .lit (.int .u8 7), .lit (.int .u8 6)]
def laid_loop_example_wateronheights_impl_steps {H : Type} : DataW H := .agg [.agg [.lit (.int .i64 (-1)), .lit (.int .i64 0)], .agg [.lit (.int .i64 0), .lit (.int .i64 (-1))], .agg [.lit (.int .i64 0), .lit (.int .i64 1)], .agg [.lit (.int .i64 1), .lit (.int .i64 0)]]
def laid_loop_example_wateronheights_impl_cornerSteps {H : Type} : DataW H := .agg [.agg [.lit (.int .i64 (-1)), .lit (.int .i64 (-1))], .agg [.lit (.int .i64 (-1)), .lit (.int .i64 1)], .agg [.lit (.int .i64 1), .lit (.int .i64 (-1))], .agg [.lit (.int .i64 1), .lit (.int .i64 1)]]

/-- 'laws.FnExactGuardsOf': WHATEVER THE INPUT: true; the input reads as it did. -/
def fnExactGuardsOfSpec : ChangeSpec := { name := "fnExactGuardsOf", fn := fun _ => fun
  | [d] => { results := [.lit (.bool true)], args := [d] }
  | _ => none }
def fnExactGuardsOfRow : OpenClaim := { program := "ytaeenedjmakelaadoor", sum := "ae43c0e3737e64610f0aa8d56a2d6cb1bc8771cd8ddd4337594050e2a45c36ae", func := "loop.example/wateronheights/laws.FnExactGuardsOf", spec := "fnExactGuardsOf", named := ["math/bits.deBruijn32tab", "math/bits.deBruijn64tab"], apart := false, laid := [("math/bits.deBruijn32tab", laid_math_bits_deBruijn32tab), ("math/bits.deBruijn64tab", laid_math_bits_deBruijn64tab)] }
def FnExactGuardsOfSaid : Prop := fnExactGuardsOfRow.holds Tryd.pinned (OpenSpec.ofChange fnExactGuardsOfSpec)

/-- ITS FALSE NEIGHBOUR: 'it returns false'. Refute it at one input. -/
def fnExactGuardsOfWrong : ChangeSpec := { name := "fnExactGuardsOf", fn := fun _ => fun
  | [d] => { results := [.lit (.bool false)], args := [d] }
  | _ => none }
def FnExactGuardsOfWrongFalsely : Prop := fnExactGuardsOfRow.holds Tryd.pinned (OpenSpec.ofChange fnExactGuardsOfWrong)

/-- 'laws.FnGuardsOf': WHATEVER THE INPUT: true; the input reads as it did. -/
def fnGuardsOfSpec : ChangeSpec := { name := "fnGuardsOf", fn := fun _ => fun
  | [d] => { results := [.lit (.bool true)], args := [d] }
  | _ => none }
def fnGuardsOfRow : OpenClaim := { program := "ytaeenedjmakelaadoor", sum := "ae43c0e3737e64610f0aa8d56a2d6cb1bc8771cd8ddd4337594050e2a45c36ae", func := "loop.example/wateronheights/laws.FnGuardsOf", spec := "fnGuardsOf", named := ["math/bits.deBruijn32tab", "math/bits.deBruijn64tab"], apart := false, laid := [("math/bits.deBruijn32tab", laid_math_bits_deBruijn32tab), ("math/bits.deBruijn64tab", laid_math_bits_deBruijn64tab)] }
def FnGuardsOfSaid : Prop := fnGuardsOfRow.holds Tryd.pinned (OpenSpec.ofChange fnGuardsOfSpec)

/-- ITS FALSE NEIGHBOUR: 'it returns false'. Refute it at one input. -/
def fnGuardsOfWrong : ChangeSpec := { name := "fnGuardsOf", fn := fun _ => fun
  | [d] => { results := [.lit (.bool false)], args := [d] }
  | _ => none }
def FnGuardsOfWrongFalsely : Prop := fnGuardsOfRow.holds Tryd.pinned (OpenSpec.ofChange fnGuardsOfWrong)

/-- 'laws.FnExactMergesOf': WHATEVER THE INPUT: true; the input reads as it did. -/
def fnExactMergesOfSpec : ChangeSpec := { name := "fnExactMergesOf", vars := ["loop.example/wateronheights/impl.steps"], fn := fun _ => fun
  | [d, g1] => { results := [.lit (.bool true)], args := [d], vars := [g1] }
  | _ => none }
def fnExactMergesOfRow : OpenClaim := { program := "ytaeenedjmakelaadoor", sum := "ae43c0e3737e64610f0aa8d56a2d6cb1bc8771cd8ddd4337594050e2a45c36ae", func := "loop.example/wateronheights/laws.FnExactMergesOf", spec := "fnExactMergesOf", unfollowed := true, recurses := true, named := ["loop.example/wateronheights/impl.steps"], apart := false, laid := [("loop.example/wateronheights/impl.steps", laid_loop_example_wateronheights_impl_steps)] }
def FnExactMergesOfSaid : Prop := fnExactMergesOfRow.holds Tryd.pinned (OpenSpec.ofChange fnExactMergesOfSpec)

/-- ITS FALSE NEIGHBOUR: 'it returns false'. Refute it at one input. -/
def fnExactMergesOfWrong : ChangeSpec := { name := "fnExactMergesOf", vars := ["loop.example/wateronheights/impl.steps"], fn := fun _ => fun
  | [d, g1] => { results := [.lit (.bool false)], args := [d], vars := [g1] }
  | _ => none }
def FnExactMergesOfWrongFalsely : Prop := fnExactMergesOfRow.holds Tryd.pinned (OpenSpec.ofChange fnExactMergesOfWrong)

/-- 'laws.FnMergesOf': WHATEVER THE INPUT: true; the input reads as it did. -/
def fnMergesOfSpec : ChangeSpec := { name := "fnMergesOf", vars := ["loop.example/wateronheights/impl.steps"], fn := fun _ => fun
  | [d, g1] => { results := [.lit (.bool true)], args := [d], vars := [g1] }
  | _ => none }
def fnMergesOfRow : OpenClaim := { program := "ytaeenedjmakelaadoor", sum := "ae43c0e3737e64610f0aa8d56a2d6cb1bc8771cd8ddd4337594050e2a45c36ae", func := "loop.example/wateronheights/laws.FnMergesOf", spec := "fnMergesOf", inPlace := ["slices.overlaps[loop.example/wateronheights/impl.standing]"], unfollowed := true, recurses := true, named := ["loop.example/wateronheights/impl.steps"], apart := false, laid := [("loop.example/wateronheights/impl.steps", laid_loop_example_wateronheights_impl_steps)] }
def FnMergesOfSaid : Prop := fnMergesOfRow.holds Tryd.pinned (OpenSpec.ofChange fnMergesOfSpec)

/-- ITS FALSE NEIGHBOUR: 'it returns false'. Refute it at one input. -/
def fnMergesOfWrong : ChangeSpec := { name := "fnMergesOf", vars := ["loop.example/wateronheights/impl.steps"], fn := fun _ => fun
  | [d, g1] => { results := [.lit (.bool false)], args := [d], vars := [g1] }
  | _ => none }
def FnMergesOfWrongFalsely : Prop := fnMergesOfRow.holds Tryd.pinned (OpenSpec.ofChange fnMergesOfWrong)

/-- 'laws.FnExactSpanOf': WHATEVER THE INPUT: true; the input reads as it did. -/
def fnExactSpanOfSpec : ChangeSpec := { name := "fnExactSpanOf", vars := ["loop.example/wateronheights/impl.steps"], fn := fun _ => fun
  | [d, g1] => { results := [.lit (.bool true)], args := [d], vars := [g1] }
  | _ => none }
def fnExactSpanOfRow : OpenClaim := { program := "ytaeenedjmakelaadoor", sum := "ae43c0e3737e64610f0aa8d56a2d6cb1bc8771cd8ddd4337594050e2a45c36ae", func := "loop.example/wateronheights/laws.FnExactSpanOf", spec := "fnExactSpanOf", unfollowed := true, recurses := true, named := ["loop.example/wateronheights/impl.steps"], apart := false, laid := [("loop.example/wateronheights/impl.steps", laid_loop_example_wateronheights_impl_steps)] }
def FnExactSpanOfSaid : Prop := fnExactSpanOfRow.holds Tryd.pinned (OpenSpec.ofChange fnExactSpanOfSpec)

/-- ITS FALSE NEIGHBOUR: 'it returns false'. Refute it at one input. -/
def fnExactSpanOfWrong : ChangeSpec := { name := "fnExactSpanOf", vars := ["loop.example/wateronheights/impl.steps"], fn := fun _ => fun
  | [d, g1] => { results := [.lit (.bool false)], args := [d], vars := [g1] }
  | _ => none }
def FnExactSpanOfWrongFalsely : Prop := fnExactSpanOfRow.holds Tryd.pinned (OpenSpec.ofChange fnExactSpanOfWrong)

/-- 'laws.FnSpanOf': WHATEVER THE INPUT: true; the input reads as it did. -/
def fnSpanOfSpec : ChangeSpec := { name := "fnSpanOf", vars := ["loop.example/wateronheights/impl.steps"], fn := fun _ => fun
  | [d, g1] => { results := [.lit (.bool true)], args := [d], vars := [g1] }
  | _ => none }
def fnSpanOfRow : OpenClaim := { program := "ytaeenedjmakelaadoor", sum := "ae43c0e3737e64610f0aa8d56a2d6cb1bc8771cd8ddd4337594050e2a45c36ae", func := "loop.example/wateronheights/laws.FnSpanOf", spec := "fnSpanOf", unfollowed := true, recurses := true, named := ["loop.example/wateronheights/impl.steps"], apart := false, laid := [("loop.example/wateronheights/impl.steps", laid_loop_example_wateronheights_impl_steps)] }
def FnSpanOfSaid : Prop := fnSpanOfRow.holds Tryd.pinned (OpenSpec.ofChange fnSpanOfSpec)

/-- ITS FALSE NEIGHBOUR: 'it returns false'. Refute it at one input. -/
def fnSpanOfWrong : ChangeSpec := { name := "fnSpanOf", vars := ["loop.example/wateronheights/impl.steps"], fn := fun _ => fun
  | [d, g1] => { results := [.lit (.bool false)], args := [d], vars := [g1] }
  | _ => none }
def FnSpanOfWrongFalsely : Prop := fnSpanOfRow.holds Tryd.pinned (OpenSpec.ofChange fnSpanOfWrong)

/-- 'laws.FnLandsAt': WHATEVER THE INPUT: true; the input reads as it did. -/
def fnLandsAtSpec : ChangeSpec := { name := "fnLandsAt", vars := ["loop.example/wateronheights/impl.steps", "loop.example/wateronheights/impl.cornerSteps"], fn := fun _ => fun
  | [d, g1, g2] => { results := [.lit (.bool true)], args := [d], vars := [g1, g2] }
  | _ => none }
def fnLandsAtRow : OpenClaim := { program := "ytaeenedjmakelaadoor", sum := "ae43c0e3737e64610f0aa8d56a2d6cb1bc8771cd8ddd4337594050e2a45c36ae", func := "loop.example/wateronheights/laws.FnLandsAt", spec := "fnLandsAt", unfollowed := true, recurses := true, named := ["loop.example/wateronheights/impl.steps", "loop.example/wateronheights/impl.cornerSteps"], apart := false, laid := [("loop.example/wateronheights/impl.steps", laid_loop_example_wateronheights_impl_steps), ("loop.example/wateronheights/impl.cornerSteps", laid_loop_example_wateronheights_impl_cornerSteps)] }
def FnLandsAtSaid : Prop := fnLandsAtRow.holds Tryd.pinned (OpenSpec.ofChange fnLandsAtSpec)

/-- ITS FALSE NEIGHBOUR: 'it returns false'. Refute it at one input. -/
def fnLandsAtWrong : ChangeSpec := { name := "fnLandsAt", vars := ["loop.example/wateronheights/impl.steps", "loop.example/wateronheights/impl.cornerSteps"], fn := fun _ => fun
  | [d, g1, g2] => { results := [.lit (.bool false)], args := [d], vars := [g1, g2] }
  | _ => none }
def FnLandsAtWrongFalsely : Prop := fnLandsAtRow.holds Tryd.pinned (OpenSpec.ofChange fnLandsAtWrong)

/- THE SECOND FORM. 'bulk': how many values and letters a reading holds, each counted each time it is reached (what is shared counts as often as it is met; a slice's spare places count too). A statement '..UptoSaid' is the law's where the arguments, and the package variables that the reading takes, are together of bulk at most 1048576: NARROWER than '..Said'. Prove '..Said' where nothing that the law and all that it calls make is longer than what came in: it says more and counts as full. Else prove '..UptoSaid'. A law counts once. -/
mutual
def uptoBulk {H : Type} : DataW H → Nat
  | .lit (.string bytes) => bytes.length + 1
  | .lit _ => 1
  | .nil => 1
  | .ptr d => uptoBulk d + 1
  | .slice elems spare => uptoBulkAll elems + uptoBulkAll spare + 1
  | .agg parts => uptoBulkAll parts + 1
  | .iface _ d => uptoBulk d + 1
  | .map entries => uptoBulkEntries entries + 1
  | .held _ => 1
def uptoBulkAll {H : Type} : List (DataW H) → Nat
  | [] => 0
  | d :: r => uptoBulk d + uptoBulkAll r
def uptoBulkEntries {H : Type} : List (Lit × DataW H) → Nat
  | [] => 0
  | x :: r => uptoBulkEntry x + uptoBulkEntries r
def uptoBulkEntry {H : Type} : Lit × DataW H → Nat
  | (.string bytes, d) => bytes.length + uptoBulk d + 1
  | (_, d) => uptoBulk d + 1
 end
def uptoSmall : (H : Type) → List (DataW H) → Bool := fun _ ds => decide (uptoBulkAll ds ≤ 1048576)
def OpenSpec.upto (s : _root_.Go.ChangeSpec) : _root_.Go.OpenSpec := { _root_.Go.OpenSpec.ofChange s with cond := some uptoSmall }

/-- 'laws.FnExactGuardsOf', WHERE WHAT IT READS IS OF BULK AT MOST 1048576: true; the input reads as it did. -/
def fnExactGuardsOfUptoRow : OpenClaim := { program := "ytaeenedjmakelaadoor", sum := "ae43c0e3737e64610f0aa8d56a2d6cb1bc8771cd8ddd4337594050e2a45c36ae", func := "loop.example/wateronheights/laws.FnExactGuardsOf", spec := "fnExactGuardsOf", named := ["math/bits.deBruijn32tab", "math/bits.deBruijn64tab"], apart := false, laid := [("math/bits.deBruijn32tab", laid_math_bits_deBruijn32tab), ("math/bits.deBruijn64tab", laid_math_bits_deBruijn64tab)], narrowed := true }
def FnExactGuardsOfUptoSaid : Prop := fnExactGuardsOfUptoRow.holds Tryd.pinned (OpenSpec.upto fnExactGuardsOfSpec)

/-- 'laws.FnGuardsOf', WHERE WHAT IT READS IS OF BULK AT MOST 1048576: true; the input reads as it did. -/
def fnGuardsOfUptoRow : OpenClaim := { program := "ytaeenedjmakelaadoor", sum := "ae43c0e3737e64610f0aa8d56a2d6cb1bc8771cd8ddd4337594050e2a45c36ae", func := "loop.example/wateronheights/laws.FnGuardsOf", spec := "fnGuardsOf", named := ["math/bits.deBruijn32tab", "math/bits.deBruijn64tab"], apart := false, laid := [("math/bits.deBruijn32tab", laid_math_bits_deBruijn32tab), ("math/bits.deBruijn64tab", laid_math_bits_deBruijn64tab)], narrowed := true }
def FnGuardsOfUptoSaid : Prop := fnGuardsOfUptoRow.holds Tryd.pinned (OpenSpec.upto fnGuardsOfSpec)

/-- 'laws.FnExactMergesOf', WHERE WHAT IT READS IS OF BULK AT MOST 1048576: true; the input reads as it did. -/
def fnExactMergesOfUptoRow : OpenClaim := { program := "ytaeenedjmakelaadoor", sum := "ae43c0e3737e64610f0aa8d56a2d6cb1bc8771cd8ddd4337594050e2a45c36ae", func := "loop.example/wateronheights/laws.FnExactMergesOf", spec := "fnExactMergesOf", unfollowed := true, recurses := true, named := ["loop.example/wateronheights/impl.steps"], apart := false, laid := [("loop.example/wateronheights/impl.steps", laid_loop_example_wateronheights_impl_steps)], narrowed := true }
def FnExactMergesOfUptoSaid : Prop := fnExactMergesOfUptoRow.holds Tryd.pinned (OpenSpec.upto fnExactMergesOfSpec)

/-- 'laws.FnMergesOf', WHERE WHAT IT READS IS OF BULK AT MOST 1048576: true; the input reads as it did. -/
def fnMergesOfUptoRow : OpenClaim := { program := "ytaeenedjmakelaadoor", sum := "ae43c0e3737e64610f0aa8d56a2d6cb1bc8771cd8ddd4337594050e2a45c36ae", func := "loop.example/wateronheights/laws.FnMergesOf", spec := "fnMergesOf", inPlace := ["slices.overlaps[loop.example/wateronheights/impl.standing]"], unfollowed := true, recurses := true, named := ["loop.example/wateronheights/impl.steps"], apart := false, laid := [("loop.example/wateronheights/impl.steps", laid_loop_example_wateronheights_impl_steps)], narrowed := true }
def FnMergesOfUptoSaid : Prop := fnMergesOfUptoRow.holds Tryd.pinned (OpenSpec.upto fnMergesOfSpec)

/-- 'laws.FnExactSpanOf', WHERE WHAT IT READS IS OF BULK AT MOST 1048576: true; the input reads as it did. -/
def fnExactSpanOfUptoRow : OpenClaim := { program := "ytaeenedjmakelaadoor", sum := "ae43c0e3737e64610f0aa8d56a2d6cb1bc8771cd8ddd4337594050e2a45c36ae", func := "loop.example/wateronheights/laws.FnExactSpanOf", spec := "fnExactSpanOf", unfollowed := true, recurses := true, named := ["loop.example/wateronheights/impl.steps"], apart := false, laid := [("loop.example/wateronheights/impl.steps", laid_loop_example_wateronheights_impl_steps)], narrowed := true }
def FnExactSpanOfUptoSaid : Prop := fnExactSpanOfUptoRow.holds Tryd.pinned (OpenSpec.upto fnExactSpanOfSpec)

/-- 'laws.FnSpanOf', WHERE WHAT IT READS IS OF BULK AT MOST 1048576: true; the input reads as it did. -/
def fnSpanOfUptoRow : OpenClaim := { program := "ytaeenedjmakelaadoor", sum := "ae43c0e3737e64610f0aa8d56a2d6cb1bc8771cd8ddd4337594050e2a45c36ae", func := "loop.example/wateronheights/laws.FnSpanOf", spec := "fnSpanOf", unfollowed := true, recurses := true, named := ["loop.example/wateronheights/impl.steps"], apart := false, laid := [("loop.example/wateronheights/impl.steps", laid_loop_example_wateronheights_impl_steps)], narrowed := true }
def FnSpanOfUptoSaid : Prop := fnSpanOfUptoRow.holds Tryd.pinned (OpenSpec.upto fnSpanOfSpec)

/-- 'laws.FnLandsAt', WHERE WHAT IT READS IS OF BULK AT MOST 1048576: true; the input reads as it did. -/
def fnLandsAtUptoRow : OpenClaim := { program := "ytaeenedjmakelaadoor", sum := "ae43c0e3737e64610f0aa8d56a2d6cb1bc8771cd8ddd4337594050e2a45c36ae", func := "loop.example/wateronheights/laws.FnLandsAt", spec := "fnLandsAt", unfollowed := true, recurses := true, named := ["loop.example/wateronheights/impl.steps", "loop.example/wateronheights/impl.cornerSteps"], apart := false, laid := [("loop.example/wateronheights/impl.steps", laid_loop_example_wateronheights_impl_steps), ("loop.example/wateronheights/impl.cornerSteps", laid_loop_example_wateronheights_impl_cornerSteps)], narrowed := true }
def FnLandsAtUptoSaid : Prop := fnLandsAtUptoRow.holds Tryd.pinned (OpenSpec.upto fnLandsAtSpec)

end Rows
end Go.Proofs.YtaeenedjmakelaaDoor
