/-
  NARROWER THAN 'FOR EVERY INPUT', by the rows' own cells (each row's printed sentence says how): FnPondAt: laid · FnLevelFor: laid · FnLevelsFillPonds: laid · FnExactPondAt: laid · FnExactLevelFor: laid · FnPassBetween: laid · FnExactPassBetween: laid.
  DERIVED. THE GIVEN ROWS OF THIS SEAT. 7 by the template 'for every input the law returns true; each argument reads behind the call as it read before'; 0 by the template 'total and deterministic' (their statements: YtkhgcfchaogccaaDoorTotals.lean).
  GIVEN WITH THE SEED: the statements are not yours to turn. If you find one false, say at which input.
  Laid BY PROGRAM, IN A SANDBOX (cutbox-rows.mjs): the forced cells as the released guide's own fill.sh prints them over the translation 0a8b15ef53678f55… (all of the seat's roots in one cut). By AI agents, Wed Nov 11 2026. No macro, syntax, notation, axiom, sorry.
-/
import Derived.Test.YtkhgcfchaogccaaDoorChecked
import GoSem.Claim
import GoSem.ClaimJoined
import GoSem.ClaimMapViews
import Derived.JoinedTies
import Derived.KernelRfl
namespace Go.Proofs.YtkhgcfchaogccaaDoor
/- THE CELL 'sum', in the pinned program and in every row, IS THE sha256 OF THE DUMP (.gsa) THAT YtkhgcfchaogccaaDoorProg.lean LOADS. Nothing in Lean hashes anything: it is a label: what it is worth is what the hold of that sum in a sandbox is worth. -/
noncomputable def Tryd.pinned : Pinned := { name := "ytkhgcfchaogccaadoor", sum := "0a8b15ef53678f55ffaffdf34ef75005b23a6bffde8657147d2c56ef5f7a1807", checked := Tryd.checked }
namespace Rows
def none {H : Type} : Left H := { results := [], args := [] }

/- WHAT THE LISTED PACKAGE-LEVEL VARIABLES READ AS WHEN THE CALL BEGINS. Each datum BY PROGRAM (the guide's laid-datum.mjs) off the statement by which the dump's own 'gosem.cut.vars' lays the variable. In a bare row this is a premise. The card (YtkhgcfchaogccaaDoorCards.lean) ties it to the program's text. -/
def laid_loop_example_wateronheights_impl_steps {H : Type} : DataW H := .agg [.agg [.lit (.int .i64 (-1)), .lit (.int .i64 0)], .agg [.lit (.int .i64 0), .lit (.int .i64 (-1))], .agg [.lit (.int .i64 0), .lit (.int .i64 1)], .agg [.lit (.int .i64 1), .lit (.int .i64 0)]]

/-- 'laws.FnPondAt': WHATEVER THE INPUT: true; the input reads as it did. -/
def fnPondAtSpec : ChangeSpec := { name := "fnPondAt", vars := ["loop.example/wateronheights/impl.steps"], fn := fun _ => fun
  | [d, g1] => { results := [.lit (.bool true)], args := [d], vars := [g1] }
  | _ => none }
def fnPondAtRow : OpenClaim := { program := "ytkhgcfchaogccaadoor", sum := "0a8b15ef53678f55ffaffdf34ef75005b23a6bffde8657147d2c56ef5f7a1807", func := "loop.example/wateronheights/laws.FnPondAt", spec := "fnPondAt", unfollowed := true, recurses := true, named := ["loop.example/wateronheights/impl.steps"], apart := false, laid := [("loop.example/wateronheights/impl.steps", laid_loop_example_wateronheights_impl_steps)] }
def FnPondAtSaid : Prop := fnPondAtRow.holds Tryd.pinned (OpenSpec.ofChange fnPondAtSpec)

/-- ITS FALSE NEIGHBOUR: 'it returns false'. Refute it at one input. -/
def fnPondAtWrong : ChangeSpec := { name := "fnPondAt", vars := ["loop.example/wateronheights/impl.steps"], fn := fun _ => fun
  | [d, g1] => { results := [.lit (.bool false)], args := [d], vars := [g1] }
  | _ => none }
def FnPondAtWrongFalsely : Prop := fnPondAtRow.holds Tryd.pinned (OpenSpec.ofChange fnPondAtWrong)

/-- 'laws.FnLevelFor': WHATEVER THE INPUT: true; the input reads as it did. -/
def fnLevelForSpec : ChangeSpec := { name := "fnLevelFor", vars := ["loop.example/wateronheights/impl.steps"], fn := fun _ => fun
  | [d, g1] => { results := [.lit (.bool true)], args := [d], vars := [g1] }
  | _ => none }
def fnLevelForRow : OpenClaim := { program := "ytkhgcfchaogccaadoor", sum := "0a8b15ef53678f55ffaffdf34ef75005b23a6bffde8657147d2c56ef5f7a1807", func := "loop.example/wateronheights/laws.FnLevelFor", spec := "fnLevelFor", unfollowed := true, recurses := true, named := ["loop.example/wateronheights/impl.steps"], apart := false, laid := [("loop.example/wateronheights/impl.steps", laid_loop_example_wateronheights_impl_steps)] }
def FnLevelForSaid : Prop := fnLevelForRow.holds Tryd.pinned (OpenSpec.ofChange fnLevelForSpec)

/-- ITS FALSE NEIGHBOUR: 'it returns false'. Refute it at one input. -/
def fnLevelForWrong : ChangeSpec := { name := "fnLevelFor", vars := ["loop.example/wateronheights/impl.steps"], fn := fun _ => fun
  | [d, g1] => { results := [.lit (.bool false)], args := [d], vars := [g1] }
  | _ => none }
def FnLevelForWrongFalsely : Prop := fnLevelForRow.holds Tryd.pinned (OpenSpec.ofChange fnLevelForWrong)

/-- 'laws.FnLevelsFillPonds': WHATEVER THE INPUT: true; the input reads as it did. -/
def fnLevelsFillPondsSpec : ChangeSpec := { name := "fnLevelsFillPonds", vars := ["loop.example/wateronheights/impl.steps"], fn := fun _ => fun
  | [d, g1] => { results := [.lit (.bool true)], args := [d], vars := [g1] }
  | _ => none }
def fnLevelsFillPondsRow : OpenClaim := { program := "ytkhgcfchaogccaadoor", sum := "0a8b15ef53678f55ffaffdf34ef75005b23a6bffde8657147d2c56ef5f7a1807", func := "loop.example/wateronheights/laws.FnLevelsFillPonds", spec := "fnLevelsFillPonds", unfollowed := true, recurses := true, named := ["loop.example/wateronheights/impl.steps"], apart := false, laid := [("loop.example/wateronheights/impl.steps", laid_loop_example_wateronheights_impl_steps)] }
def FnLevelsFillPondsSaid : Prop := fnLevelsFillPondsRow.holds Tryd.pinned (OpenSpec.ofChange fnLevelsFillPondsSpec)

/-- ITS FALSE NEIGHBOUR: 'it returns false'. Refute it at one input. -/
def fnLevelsFillPondsWrong : ChangeSpec := { name := "fnLevelsFillPonds", vars := ["loop.example/wateronheights/impl.steps"], fn := fun _ => fun
  | [d, g1] => { results := [.lit (.bool false)], args := [d], vars := [g1] }
  | _ => none }
def FnLevelsFillPondsWrongFalsely : Prop := fnLevelsFillPondsRow.holds Tryd.pinned (OpenSpec.ofChange fnLevelsFillPondsWrong)

/-- 'laws.FnExactPondAt': WHATEVER THE INPUT: true; the input reads as it did. -/
def fnExactPondAtSpec : ChangeSpec := { name := "fnExactPondAt", vars := ["loop.example/wateronheights/impl.steps"], fn := fun _ => fun
  | [d1, d2, d3, g1] => { results := [.lit (.bool true)], args := [d1, d2, d3], vars := [g1] }
  | _ => none }
def fnExactPondAtRow : OpenClaim := { program := "ytkhgcfchaogccaadoor", sum := "0a8b15ef53678f55ffaffdf34ef75005b23a6bffde8657147d2c56ef5f7a1807", func := "loop.example/wateronheights/laws.FnExactPondAt", spec := "fnExactPondAt", unfollowed := true, recurses := true, named := ["loop.example/wateronheights/impl.steps"], apart := false, laid := [("loop.example/wateronheights/impl.steps", laid_loop_example_wateronheights_impl_steps)] }
def FnExactPondAtSaid : Prop := fnExactPondAtRow.holds Tryd.pinned (OpenSpec.ofChange fnExactPondAtSpec)

/-- ITS FALSE NEIGHBOUR: 'it returns false'. Refute it at one input. -/
def fnExactPondAtWrong : ChangeSpec := { name := "fnExactPondAt", vars := ["loop.example/wateronheights/impl.steps"], fn := fun _ => fun
  | [d1, d2, d3, g1] => { results := [.lit (.bool false)], args := [d1, d2, d3], vars := [g1] }
  | _ => none }
def FnExactPondAtWrongFalsely : Prop := fnExactPondAtRow.holds Tryd.pinned (OpenSpec.ofChange fnExactPondAtWrong)

/-- 'laws.FnExactLevelFor': WHATEVER THE INPUT: true; the input reads as it did. -/
def fnExactLevelForSpec : ChangeSpec := { name := "fnExactLevelFor", vars := ["loop.example/wateronheights/impl.steps"], fn := fun _ => fun
  | [d1, d2, d3, g1] => { results := [.lit (.bool true)], args := [d1, d2, d3], vars := [g1] }
  | _ => none }
def fnExactLevelForRow : OpenClaim := { program := "ytkhgcfchaogccaadoor", sum := "0a8b15ef53678f55ffaffdf34ef75005b23a6bffde8657147d2c56ef5f7a1807", func := "loop.example/wateronheights/laws.FnExactLevelFor", spec := "fnExactLevelFor", unfollowed := true, recurses := true, named := ["loop.example/wateronheights/impl.steps"], apart := false, laid := [("loop.example/wateronheights/impl.steps", laid_loop_example_wateronheights_impl_steps)] }
def FnExactLevelForSaid : Prop := fnExactLevelForRow.holds Tryd.pinned (OpenSpec.ofChange fnExactLevelForSpec)

/-- ITS FALSE NEIGHBOUR: 'it returns false'. Refute it at one input. -/
def fnExactLevelForWrong : ChangeSpec := { name := "fnExactLevelFor", vars := ["loop.example/wateronheights/impl.steps"], fn := fun _ => fun
  | [d1, d2, d3, g1] => { results := [.lit (.bool false)], args := [d1, d2, d3], vars := [g1] }
  | _ => none }
def FnExactLevelForWrongFalsely : Prop := fnExactLevelForRow.holds Tryd.pinned (OpenSpec.ofChange fnExactLevelForWrong)

/-- 'laws.FnPassBetween': WHATEVER THE INPUT: true; the input reads as it did. -/
def fnPassBetweenSpec : ChangeSpec := { name := "fnPassBetween", vars := ["loop.example/wateronheights/impl.steps"], fn := fun _ => fun
  | [d, g1] => { results := [.lit (.bool true)], args := [d], vars := [g1] }
  | _ => none }
def fnPassBetweenRow : OpenClaim := { program := "ytkhgcfchaogccaadoor", sum := "0a8b15ef53678f55ffaffdf34ef75005b23a6bffde8657147d2c56ef5f7a1807", func := "loop.example/wateronheights/laws.FnPassBetween", spec := "fnPassBetween", inPlace := ["slices.overlaps[loop.example/wateronheights/impl.standing]"], unfollowed := true, recurses := true, named := ["loop.example/wateronheights/impl.steps"], apart := false, laid := [("loop.example/wateronheights/impl.steps", laid_loop_example_wateronheights_impl_steps)] }
def FnPassBetweenSaid : Prop := fnPassBetweenRow.holds Tryd.pinned (OpenSpec.ofChange fnPassBetweenSpec)

/-- ITS FALSE NEIGHBOUR: 'it returns false'. Refute it at one input. -/
def fnPassBetweenWrong : ChangeSpec := { name := "fnPassBetween", vars := ["loop.example/wateronheights/impl.steps"], fn := fun _ => fun
  | [d, g1] => { results := [.lit (.bool false)], args := [d], vars := [g1] }
  | _ => none }
def FnPassBetweenWrongFalsely : Prop := fnPassBetweenRow.holds Tryd.pinned (OpenSpec.ofChange fnPassBetweenWrong)

/-- 'laws.FnExactPassBetween': WHATEVER THE INPUT: true; the input reads as it did. -/
def fnExactPassBetweenSpec : ChangeSpec := { name := "fnExactPassBetween", vars := ["loop.example/wateronheights/impl.steps"], fn := fun _ => fun
  | [d1, d2, d3, g1] => { results := [.lit (.bool true)], args := [d1, d2, d3], vars := [g1] }
  | _ => none }
def fnExactPassBetweenRow : OpenClaim := { program := "ytkhgcfchaogccaadoor", sum := "0a8b15ef53678f55ffaffdf34ef75005b23a6bffde8657147d2c56ef5f7a1807", func := "loop.example/wateronheights/laws.FnExactPassBetween", spec := "fnExactPassBetween", inPlace := ["slices.overlaps[loop.example/wateronheights/impl.standing]"], unfollowed := true, recurses := true, named := ["loop.example/wateronheights/impl.steps"], apart := false, laid := [("loop.example/wateronheights/impl.steps", laid_loop_example_wateronheights_impl_steps)] }
def FnExactPassBetweenSaid : Prop := fnExactPassBetweenRow.holds Tryd.pinned (OpenSpec.ofChange fnExactPassBetweenSpec)

/-- ITS FALSE NEIGHBOUR: 'it returns false'. Refute it at one input. -/
def fnExactPassBetweenWrong : ChangeSpec := { name := "fnExactPassBetween", vars := ["loop.example/wateronheights/impl.steps"], fn := fun _ => fun
  | [d1, d2, d3, g1] => { results := [.lit (.bool false)], args := [d1, d2, d3], vars := [g1] }
  | _ => none }
def FnExactPassBetweenWrongFalsely : Prop := fnExactPassBetweenRow.holds Tryd.pinned (OpenSpec.ofChange fnExactPassBetweenWrong)

/- THE SECOND FORM. 'bulk': how many values and letters a reading holds, each counted each time it is reached (what is shared counts as often as it is met; a slice's spare places count too). A statement '..UptoSaid' is the law's where the arguments, and the package variables that the reading takes, are together of bulk at most 1048576: NARROWER than '..Said'. Prove '..Said' where nothing that the law and all that it calls make is longer than what came in: it says more and counts as full. Else prove '..UptoSaid'. A law counts once. -/
mutual
def uptoBulk {H : Type} : DataW H → Nat
  | .lit (.string bytes) => bytes.length + 1
  | .lit _ => 1
  | .nil => 1
  | .ptr d => uptoBulk d + 1
  | .slice elems spare => uptoBulkAll elems + uptoBulkAll spare + 1
  | .agg parts => uptoBulkAll parts + 1
  | .iface _ d => uptoBulk d + 1
  | .map entries => uptoBulkEntries entries + 1
  | .held _ => 1
def uptoBulkAll {H : Type} : List (DataW H) → Nat
  | [] => 0
  | d :: r => uptoBulk d + uptoBulkAll r
def uptoBulkEntries {H : Type} : List (Lit × DataW H) → Nat
  | [] => 0
  | x :: r => uptoBulkEntry x + uptoBulkEntries r
def uptoBulkEntry {H : Type} : Lit × DataW H → Nat
  | (.string bytes, d) => bytes.length + uptoBulk d + 1
  | (_, d) => uptoBulk d + 1
 end
def uptoSmall : (H : Type) → List (DataW H) → Bool := fun _ ds => decide (uptoBulkAll ds ≤ 1048576)
def OpenSpec.upto (s : _root_.Go.ChangeSpec) : _root_.Go.OpenSpec := { _root_.Go.OpenSpec.ofChange s with cond := some uptoSmall }

/-- 'laws.FnPondAt', WHERE WHAT IT READS IS OF BULK AT MOST 1048576: true; the input reads as it did. -/
def fnPondAtUptoRow : OpenClaim := { program := "ytkhgcfchaogccaadoor", sum := "0a8b15ef53678f55ffaffdf34ef75005b23a6bffde8657147d2c56ef5f7a1807", func := "loop.example/wateronheights/laws.FnPondAt", spec := "fnPondAt", unfollowed := true, recurses := true, named := ["loop.example/wateronheights/impl.steps"], apart := false, laid := [("loop.example/wateronheights/impl.steps", laid_loop_example_wateronheights_impl_steps)], narrowed := true }
def FnPondAtUptoSaid : Prop := fnPondAtUptoRow.holds Tryd.pinned (OpenSpec.upto fnPondAtSpec)

/-- 'laws.FnLevelFor', WHERE WHAT IT READS IS OF BULK AT MOST 1048576: true; the input reads as it did. -/
def fnLevelForUptoRow : OpenClaim := { program := "ytkhgcfchaogccaadoor", sum := "0a8b15ef53678f55ffaffdf34ef75005b23a6bffde8657147d2c56ef5f7a1807", func := "loop.example/wateronheights/laws.FnLevelFor", spec := "fnLevelFor", unfollowed := true, recurses := true, named := ["loop.example/wateronheights/impl.steps"], apart := false, laid := [("loop.example/wateronheights/impl.steps", laid_loop_example_wateronheights_impl_steps)], narrowed := true }
def FnLevelForUptoSaid : Prop := fnLevelForUptoRow.holds Tryd.pinned (OpenSpec.upto fnLevelForSpec)

/-- 'laws.FnLevelsFillPonds', WHERE WHAT IT READS IS OF BULK AT MOST 1048576: true; the input reads as it did. -/
def fnLevelsFillPondsUptoRow : OpenClaim := { program := "ytkhgcfchaogccaadoor", sum := "0a8b15ef53678f55ffaffdf34ef75005b23a6bffde8657147d2c56ef5f7a1807", func := "loop.example/wateronheights/laws.FnLevelsFillPonds", spec := "fnLevelsFillPonds", unfollowed := true, recurses := true, named := ["loop.example/wateronheights/impl.steps"], apart := false, laid := [("loop.example/wateronheights/impl.steps", laid_loop_example_wateronheights_impl_steps)], narrowed := true }
def FnLevelsFillPondsUptoSaid : Prop := fnLevelsFillPondsUptoRow.holds Tryd.pinned (OpenSpec.upto fnLevelsFillPondsSpec)

/-- 'laws.FnExactPondAt', WHERE WHAT IT READS IS OF BULK AT MOST 1048576: true; the input reads as it did. -/
def fnExactPondAtUptoRow : OpenClaim := { program := "ytkhgcfchaogccaadoor", sum := "0a8b15ef53678f55ffaffdf34ef75005b23a6bffde8657147d2c56ef5f7a1807", func := "loop.example/wateronheights/laws.FnExactPondAt", spec := "fnExactPondAt", unfollowed := true, recurses := true, named := ["loop.example/wateronheights/impl.steps"], apart := false, laid := [("loop.example/wateronheights/impl.steps", laid_loop_example_wateronheights_impl_steps)], narrowed := true }
def FnExactPondAtUptoSaid : Prop := fnExactPondAtUptoRow.holds Tryd.pinned (OpenSpec.upto fnExactPondAtSpec)

/-- 'laws.FnExactLevelFor', WHERE WHAT IT READS IS OF BULK AT MOST 1048576: true; the input reads as it did. -/
def fnExactLevelForUptoRow : OpenClaim := { program := "ytkhgcfchaogccaadoor", sum := "0a8b15ef53678f55ffaffdf34ef75005b23a6bffde8657147d2c56ef5f7a1807", func := "loop.example/wateronheights/laws.FnExactLevelFor", spec := "fnExactLevelFor", unfollowed := true, recurses := true, named := ["loop.example/wateronheights/impl.steps"], apart := false, laid := [("loop.example/wateronheights/impl.steps", laid_loop_example_wateronheights_impl_steps)], narrowed := true }
def FnExactLevelForUptoSaid : Prop := fnExactLevelForUptoRow.holds Tryd.pinned (OpenSpec.upto fnExactLevelForSpec)

/-- 'laws.FnPassBetween', WHERE WHAT IT READS IS OF BULK AT MOST 1048576: true; the input reads as it did. -/
def fnPassBetweenUptoRow : OpenClaim := { program := "ytkhgcfchaogccaadoor", sum := "0a8b15ef53678f55ffaffdf34ef75005b23a6bffde8657147d2c56ef5f7a1807", func := "loop.example/wateronheights/laws.FnPassBetween", spec := "fnPassBetween", inPlace := ["slices.overlaps[loop.example/wateronheights/impl.standing]"], unfollowed := true, recurses := true, named := ["loop.example/wateronheights/impl.steps"], apart := false, laid := [("loop.example/wateronheights/impl.steps", laid_loop_example_wateronheights_impl_steps)], narrowed := true }
def FnPassBetweenUptoSaid : Prop := fnPassBetweenUptoRow.holds Tryd.pinned (OpenSpec.upto fnPassBetweenSpec)

/-- 'laws.FnExactPassBetween', WHERE WHAT IT READS IS OF BULK AT MOST 1048576: true; the input reads as it did. -/
def fnExactPassBetweenUptoRow : OpenClaim := { program := "ytkhgcfchaogccaadoor", sum := "0a8b15ef53678f55ffaffdf34ef75005b23a6bffde8657147d2c56ef5f7a1807", func := "loop.example/wateronheights/laws.FnExactPassBetween", spec := "fnExactPassBetween", inPlace := ["slices.overlaps[loop.example/wateronheights/impl.standing]"], unfollowed := true, recurses := true, named := ["loop.example/wateronheights/impl.steps"], apart := false, laid := [("loop.example/wateronheights/impl.steps", laid_loop_example_wateronheights_impl_steps)], narrowed := true }
def FnExactPassBetweenUptoSaid : Prop := fnExactPassBetweenUptoRow.holds Tryd.pinned (OpenSpec.upto fnExactPassBetweenSpec)

end Rows
end Go.Proofs.YtkhgcfchaogccaaDoor
