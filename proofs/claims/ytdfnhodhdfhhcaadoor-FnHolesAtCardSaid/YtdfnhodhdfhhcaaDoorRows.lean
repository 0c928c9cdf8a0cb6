/-
  NARROWER THAN 'FOR EVERY INPUT', by the rows' own cells (each row's printed sentence says how): FnRimAt: laid · FnSidesOfAll: laid · FnLandsAt: laid · FnPondsAt: laid · FnHolesAt: laid · FnExactHolesAt: laid · FnLandsArePeaks: laid.
  DERIVED. THE GIVEN ROWS OF THIS SEAT. 7 by the template 'for every input the law returns true; each argument reads behind the call as it read before'; 0 by the template 'total and deterministic' (their statements: YtdfnhodhdfhhcaaDoorTotals.lean).
  GIVEN WITH THE SEED: the statements are not yours to turn. If you find one false, say at which input.
  Laid BY PROGRAM, IN A SANDBOX (cutbox-rows.mjs): the forced cells as the released guide's own fill.sh prints them over the translation 0a98dac26f424670… (all of the seat's roots in one cut). By AI agents, Wed Nov 11 2026. No macro, syntax, notation, axiom, sorry.
-/
import Derived.Test.YtdfnhodhdfhhcaaDoorChecked
import GoSem.Claim
import GoSem.ClaimJoined
import GoSem.ClaimMapViews
import Derived.JoinedTies
import Derived.KernelRfl
namespace Go.Proofs.YtdfnhodhdfhhcaaDoor
/- THE CELL 'sum', in the pinned program and in every row, IS THE sha256 OF THE DUMP (.gsa) THAT YtdfnhodhdfhhcaaDoorProg.lean LOADS. Nothing in Lean hashes anything: it is a label: what it is worth is what the hold of that sum in a sandbox is worth. -/
noncomputable def Tryd.pinned : Pinned := { name := "ytdfnhodhdfhhcaadoor", sum := "0a98dac26f4246703f728acb32a0bc5070933c72413ec88b8044af28a0323650", checked := Tryd.checked }
namespace Rows
def none {H : Type} : Left H := { results := [], args := [] }

/- WHAT THE LISTED PACKAGE-LEVEL VARIABLES READ AS WHEN THE CALL BEGINS. Each datum BY PROGRAM (the guide's laid-datum.mjs) off the statement by which the dump's own 'gosem.cut.vars' lays the variable. In a bare row this is a premise. The card (YtdfnhodhdfhhcaaDoorCards.lean) ties it to the program's text. -/
def laid_loop_example_wateronheights_impl_steps {H : Type} : DataW H := .agg [.agg [.lit (.int .i64 (-1)), .lit (.int .i64 0)], .agg [.lit (.int .i64 0), .lit (.int .i64 (-1))], .agg [.lit (.int .i64 0), .lit (.int .i64 1)], .agg [.lit (.int .i64 1), .lit (.int .i64 0)]]
def laid_loop_example_wateronheights_impl_cornerSteps {H : Type} : DataW H := .agg [.agg [.lit (.int .i64 (-1)), .lit (.int .i64 (-1))], .agg [.lit (.int .i64 (-1)), .lit (.int .i64 1)], .agg [.lit (.int .i64 1), .lit (.int .i64 (-1))], .agg [.lit (.int .i64 1), .lit (.int .i64 1)]]

/-- 'laws.FnRimAt': WHATEVER THE INPUT: true; the input reads as it did. -/
def fnRimAtSpec : ChangeSpec := { name := "fnRimAt", vars := ["loop.example/wateronheights/impl.steps"], fn := fun _ => fun
  | [d, g1] => { results := [.lit (.bool true)], args := [d], vars := [g1] }
  | _ => none }
def fnRimAtRow : OpenClaim := { program := "ytdfnhodhdfhhcaadoor", sum := "0a98dac26f4246703f728acb32a0bc5070933c72413ec88b8044af28a0323650", func := "loop.example/wateronheights/laws.FnRimAt", spec := "fnRimAt", unfollowed := true, recurses := true, named := ["loop.example/wateronheights/impl.steps"], apart := false, laid := [("loop.example/wateronheights/impl.steps", laid_loop_example_wateronheights_impl_steps)] }
def FnRimAtSaid : Prop := fnRimAtRow.holds Tryd.pinned (OpenSpec.ofChange fnRimAtSpec)

/-- ITS FALSE NEIGHBOUR: 'it returns false'. Refute it at one input. -/
def fnRimAtWrong : ChangeSpec := { name := "fnRimAt", vars := ["loop.example/wateronheights/impl.steps"], fn := fun _ => fun
  | [d, g1] => { results := [.lit (.bool false)], args := [d], vars := [g1] }
  | _ => none }
def FnRimAtWrongFalsely : Prop := fnRimAtRow.holds Tryd.pinned (OpenSpec.ofChange fnRimAtWrong)

/-- 'laws.FnSidesOfAll': WHATEVER THE INPUT: true; the input reads as it did. -/
def fnSidesOfAllSpec : ChangeSpec := { name := "fnSidesOfAll", vars := ["loop.example/wateronheights/impl.steps"], fn := fun _ => fun
  | [d, g1] => { results := [.lit (.bool true)], args := [d], vars := [g1] }
  | _ => none }
def fnSidesOfAllRow : OpenClaim := { program := "ytdfnhodhdfhhcaadoor", sum := "0a98dac26f4246703f728acb32a0bc5070933c72413ec88b8044af28a0323650", func := "loop.example/wateronheights/laws.FnSidesOfAll", spec := "fnSidesOfAll", unfollowed := true, recurses := true, named := ["loop.example/wateronheights/impl.steps"], apart := false, laid := [("loop.example/wateronheights/impl.steps", laid_loop_example_wateronheights_impl_steps)] }
def FnSidesOfAllSaid : Prop := fnSidesOfAllRow.holds Tryd.pinned (OpenSpec.ofChange fnSidesOfAllSpec)

/-- ITS FALSE NEIGHBOUR: 'it returns false'. Refute it at one input. -/
def fnSidesOfAllWrong : ChangeSpec := { name := "fnSidesOfAll", vars := ["loop.example/wateronheights/impl.steps"], fn := fun _ => fun
  | [d, g1] => { results := [.lit (.bool false)], args := [d], vars := [g1] }
  | _ => none }
def FnSidesOfAllWrongFalsely : Prop := fnSidesOfAllRow.holds Tryd.pinned (OpenSpec.ofChange fnSidesOfAllWrong)

/-- 'laws.FnLandsAt': WHATEVER THE INPUT: true; the input reads as it did. -/
def fnLandsAtSpec : ChangeSpec := { name := "fnLandsAt", vars := ["loop.example/wateronheights/impl.steps", "loop.example/wateronheights/impl.cornerSteps"], fn := fun _ => fun
  | [d, g1, g2] => { results := [.lit (.bool true)], args := [d], vars := [g1, g2] }
  | _ => none }
def fnLandsAtRow : OpenClaim := { program := "ytdfnhodhdfhhcaadoor", sum := "0a98dac26f4246703f728acb32a0bc5070933c72413ec88b8044af28a0323650", func := "loop.example/wateronheights/laws.FnLandsAt", spec := "fnLandsAt", unfollowed := true, recurses := true, named := ["loop.example/wateronheights/impl.steps", "loop.example/wateronheights/impl.cornerSteps"], apart := false, laid := [("loop.example/wateronheights/impl.steps", laid_loop_example_wateronheights_impl_steps), ("loop.example/wateronheights/impl.cornerSteps", laid_loop_example_wateronheights_impl_cornerSteps)] }
def FnLandsAtSaid : Prop := fnLandsAtRow.holds Tryd.pinned (OpenSpec.ofChange fnLandsAtSpec)

/-- ITS FALSE NEIGHBOUR: 'it returns false'. Refute it at one input. -/
def fnLandsAtWrong : ChangeSpec := { name := "fnLandsAt", vars := ["loop.example/wateronheights/impl.steps", "loop.example/wateronheights/impl.cornerSteps"], fn := fun _ => fun
  | [d, g1, g2] => { results := [.lit (.bool false)], args := [d], vars := [g1, g2] }
  | _ => none }
def FnLandsAtWrongFalsely : Prop := fnLandsAtRow.holds Tryd.pinned (OpenSpec.ofChange fnLandsAtWrong)

/-- 'laws.FnPondsAt': WHATEVER THE INPUT: true; the input reads as it did. -/
def fnPondsAtSpec : ChangeSpec := { name := "fnPondsAt", vars := ["loop.example/wateronheights/impl.cornerSteps", "loop.example/wateronheights/impl.steps"], fn := fun _ => fun
  | [d, g1, g2] => { results := [.lit (.bool true)], args := [d], vars := [g1, g2] }
  | _ => none }
def fnPondsAtRow : OpenClaim := { program := "ytdfnhodhdfhhcaadoor", sum := "0a98dac26f4246703f728acb32a0bc5070933c72413ec88b8044af28a0323650", func := "loop.example/wateronheights/laws.FnPondsAt", spec := "fnPondsAt", unfollowed := true, recurses := true, named := ["loop.example/wateronheights/impl.cornerSteps", "loop.example/wateronheights/impl.steps"], apart := false, laid := [("loop.example/wateronheights/impl.steps", laid_loop_example_wateronheights_impl_steps), ("loop.example/wateronheights/impl.cornerSteps", laid_loop_example_wateronheights_impl_cornerSteps)] }
def FnPondsAtSaid : Prop := fnPondsAtRow.holds Tryd.pinned (OpenSpec.ofChange fnPondsAtSpec)

/-- ITS FALSE NEIGHBOUR: 'it returns false'. Refute it at one input. -/
def fnPondsAtWrong : ChangeSpec := { name := "fnPondsAt", vars := ["loop.example/wateronheights/impl.cornerSteps", "loop.example/wateronheights/impl.steps"], fn := fun _ => fun
  | [d, g1, g2] => { results := [.lit (.bool false)], args := [d], vars := [g1, g2] }
  | _ => none }
def FnPondsAtWrongFalsely : Prop := fnPondsAtRow.holds Tryd.pinned (OpenSpec.ofChange fnPondsAtWrong)

/-- 'laws.FnHolesAt': WHATEVER THE INPUT: true; the input reads as it did. -/
def fnHolesAtSpec : ChangeSpec := { name := "fnHolesAt", vars := ["loop.example/wateronheights/impl.cornerSteps", "loop.example/wateronheights/impl.steps"], fn := fun _ => fun
  | [d, g1, g2] => { results := [.lit (.bool true)], args := [d], vars := [g1, g2] }
  | _ => none }
def fnHolesAtRow : OpenClaim := { program := "ytdfnhodhdfhhcaadoor", sum := "0a98dac26f4246703f728acb32a0bc5070933c72413ec88b8044af28a0323650", func := "loop.example/wateronheights/laws.FnHolesAt", spec := "fnHolesAt", unfollowed := true, recurses := true, named := ["loop.example/wateronheights/impl.cornerSteps", "loop.example/wateronheights/impl.steps"], apart := false, laid := [("loop.example/wateronheights/impl.steps", laid_loop_example_wateronheights_impl_steps), ("loop.example/wateronheights/impl.cornerSteps", laid_loop_example_wateronheights_impl_cornerSteps)] }
def FnHolesAtSaid : Prop := fnHolesAtRow.holds Tryd.pinned (OpenSpec.ofChange fnHolesAtSpec)

/-- ITS FALSE NEIGHBOUR: 'it returns false'. Refute it at one input. -/
def fnHolesAtWrong : ChangeSpec := { name := "fnHolesAt", vars := ["loop.example/wateronheights/impl.cornerSteps", "loop.example/wateronheights/impl.steps"], fn := fun _ => fun
  | [d, g1, g2] => { results := [.lit (.bool false)], args := [d], vars := [g1, g2] }
  | _ => none }
def FnHolesAtWrongFalsely : Prop := fnHolesAtRow.holds Tryd.pinned (OpenSpec.ofChange fnHolesAtWrong)

/-- 'laws.FnExactHolesAt': WHATEVER THE INPUT: true; the input reads as it did. -/
def fnExactHolesAtSpec : ChangeSpec := { name := "fnExactHolesAt", vars := ["loop.example/wateronheights/impl.cornerSteps", "loop.example/wateronheights/impl.steps"], fn := fun _ => fun
  | [d1, d2, g1, g2] => { results := [.lit (.bool true)], args := [d1, d2], vars := [g1, g2] }
  | _ => none }
def fnExactHolesAtRow : OpenClaim := { program := "ytdfnhodhdfhhcaadoor", sum := "0a98dac26f4246703f728acb32a0bc5070933c72413ec88b8044af28a0323650", func := "loop.example/wateronheights/laws.FnExactHolesAt", spec := "fnExactHolesAt", unfollowed := true, recurses := true, named := ["loop.example/wateronheights/impl.cornerSteps", "loop.example/wateronheights/impl.steps"], apart := false, laid := [("loop.example/wateronheights/impl.steps", laid_loop_example_wateronheights_impl_steps), ("loop.example/wateronheights/impl.cornerSteps", laid_loop_example_wateronheights_impl_cornerSteps)] }
def FnExactHolesAtSaid : Prop := fnExactHolesAtRow.holds Tryd.pinned (OpenSpec.ofChange fnExactHolesAtSpec)

/-- ITS FALSE NEIGHBOUR: 'it returns false'. Refute it at one input. -/
def fnExactHolesAtWrong : ChangeSpec := { name := "fnExactHolesAt", vars := ["loop.example/wateronheights/impl.cornerSteps", "loop.example/wateronheights/impl.steps"], fn := fun _ => fun
  | [d1, d2, g1, g2] => { results := [.lit (.bool false)], args := [d1, d2], vars := [g1, g2] }
  | _ => none }
def FnExactHolesAtWrongFalsely : Prop := fnExactHolesAtRow.holds Tryd.pinned (OpenSpec.ofChange fnExactHolesAtWrong)

/-- 'laws.FnLandsArePeaks': WHATEVER THE INPUT: true; the input reads as it did. -/
def fnLandsArePeaksSpec : ChangeSpec := { name := "fnLandsArePeaks", vars := ["loop.example/wateronheights/impl.steps"], fn := fun _ => fun
  | [d, g1] => { results := [.lit (.bool true)], args := [d], vars := [g1] }
  | _ => none }
def fnLandsArePeaksRow : OpenClaim := { program := "ytdfnhodhdfhhcaadoor", sum := "0a98dac26f4246703f728acb32a0bc5070933c72413ec88b8044af28a0323650", func := "loop.example/wateronheights/laws.FnLandsArePeaks", spec := "fnLandsArePeaks", unfollowed := true, recurses := true, named := ["loop.example/wateronheights/impl.steps"], apart := false, laid := [("loop.example/wateronheights/impl.steps", laid_loop_example_wateronheights_impl_steps)] }
def FnLandsArePeaksSaid : Prop := fnLandsArePeaksRow.holds Tryd.pinned (OpenSpec.ofChange fnLandsArePeaksSpec)

/-- ITS FALSE NEIGHBOUR: 'it returns false'. Refute it at one input. -/
def fnLandsArePeaksWrong : ChangeSpec := { name := "fnLandsArePeaks", vars := ["loop.example/wateronheights/impl.steps"], fn := fun _ => fun
  | [d, g1] => { results := [.lit (.bool false)], args := [d], vars := [g1] }
  | _ => none }
def FnLandsArePeaksWrongFalsely : Prop := fnLandsArePeaksRow.holds Tryd.pinned (OpenSpec.ofChange fnLandsArePeaksWrong)

/- THE SECOND FORM. 'bulk': how many values and letters a reading holds, each counted each time it is reached (what is shared counts as often as it is met; a slice's spare places count too). A statement '..UptoSaid' is the law's where the arguments, and the package variables that the reading takes, are together of bulk at most 1048576: NARROWER than '..Said'. Prove '..Said' where nothing that the law and all that it calls make is longer than what came in: it says more and counts as full. Else prove '..UptoSaid'. A law counts once. -/
mutual
def uptoBulk {H : Type} : DataW H → Nat
  | .lit (.string bytes) => bytes.length + 1
  | .lit _ => 1
  | .nil => 1
  | .ptr d => uptoBulk d + 1
  | .slice elems spare => uptoBulkAll elems + uptoBulkAll spare + 1
  | .agg parts => uptoBulkAll parts + 1
  | .iface _ d => uptoBulk d + 1
  | .map entries => uptoBulkEntries entries + 1
  | .held _ => 1
def uptoBulkAll {H : Type} : List (DataW H) → Nat
  | [] => 0
  | d :: r => uptoBulk d + uptoBulkAll r
def uptoBulkEntries {H : Type} : List (Lit × DataW H) → Nat
  | [] => 0
  | x :: r => uptoBulkEntry x + uptoBulkEntries r
def uptoBulkEntry {H : Type} : Lit × DataW H → Nat
  | (.string bytes, d) => bytes.length + uptoBulk d + 1
  | (_, d) => uptoBulk d + 1
 end
def uptoSmall : (H : Type) → List (DataW H) → Bool := fun _ ds => decide (uptoBulkAll ds ≤ 1048576)
def OpenSpec.upto (s : _root_.Go.ChangeSpec) : _root_.Go.OpenSpec := { _root_.Go.OpenSpec.ofChange s with cond := some uptoSmall }

/-- 'laws.FnRimAt', WHERE WHAT IT READS IS OF BULK AT MOST 1048576: true; the input reads as it did. -/
def fnRimAtUptoRow : OpenClaim := { program := "ytdfnhodhdfhhcaadoor", sum := "0a98dac26f4246703f728acb32a0bc5070933c72413ec88b8044af28a0323650", func := "loop.example/wateronheights/laws.FnRimAt", spec := "fnRimAt", unfollowed := true, recurses := true, named := ["loop.example/wateronheights/impl.steps"], apart := false, laid := [("loop.example/wateronheights/impl.steps", laid_loop_example_wateronheights_impl_steps)], narrowed := true }
def FnRimAtUptoSaid : Prop := fnRimAtUptoRow.holds Tryd.pinned (OpenSpec.upto fnRimAtSpec)

/-- 'laws.FnSidesOfAll', WHERE WHAT IT READS IS OF BULK AT MOST 1048576: true; the input reads as it did. -/
def fnSidesOfAllUptoRow : OpenClaim := { program := "ytdfnhodhdfhhcaadoor", sum := "0a98dac26f4246703f728acb32a0bc5070933c72413ec88b8044af28a0323650", func := "loop.example/wateronheights/laws.FnSidesOfAll", spec := "fnSidesOfAll", unfollowed := true, recurses := true, named := ["loop.example/wateronheights/impl.steps"], apart := false, laid := [("loop.example/wateronheights/impl.steps", laid_loop_example_wateronheights_impl_steps)], narrowed := true }
def FnSidesOfAllUptoSaid : Prop := fnSidesOfAllUptoRow.holds Tryd.pinned (OpenSpec.upto fnSidesOfAllSpec)

/-- 'laws.FnLandsAt', WHERE WHAT IT READS IS OF BULK AT MOST 1048576: true; the input reads as it did. -/
def fnLandsAtUptoRow : OpenClaim := { program := "ytdfnhodhdfhhcaadoor", sum := "0a98dac26f4246703f728acb32a0bc5070933c72413ec88b8044af28a0323650", func := "loop.example/wateronheights/laws.FnLandsAt", spec := "fnLandsAt", unfollowed := true, recurses := true, named := ["loop.example/wateronheights/impl.steps", "loop.example/wateronheights/impl.cornerSteps"], apart := false, laid := [("loop.example/wateronheights/impl.steps", laid_loop_example_wateronheights_impl_steps), ("loop.example/wateronheights/impl.cornerSteps", laid_loop_example_wateronheights_impl_cornerSteps)], narrowed := true }
def FnLandsAtUptoSaid : Prop := fnLandsAtUptoRow.holds Tryd.pinned (OpenSpec.upto fnLandsAtSpec)

/-- 'laws.FnPondsAt', WHERE WHAT IT READS IS OF BULK AT MOST 1048576: true; the input reads as it did. -/
def fnPondsAtUptoRow : OpenClaim := { program := "ytdfnhodhdfhhcaadoor", sum := "0a98dac26f4246703f728acb32a0bc5070933c72413ec88b8044af28a0323650", func := "loop.example/wateronheights/laws.FnPondsAt", spec := "fnPondsAt", unfollowed := true, recurses := true, named := ["loop.example/wateronheights/impl.cornerSteps", "loop.example/wateronheights/impl.steps"], apart := false, laid := [("loop.example/wateronheights/impl.steps", laid_loop_example_wateronheights_impl_steps), ("loop.example/wateronheights/impl.cornerSteps", laid_loop_example_wateronheights_impl_cornerSteps)], narrowed := true }
def FnPondsAtUptoSaid : Prop := fnPondsAtUptoRow.holds Tryd.pinned (OpenSpec.upto fnPondsAtSpec)

/-- 'laws.FnHolesAt', WHERE WHAT IT READS IS OF BULK AT MOST 1048576: true; the input reads as it did. -/
def fnHolesAtUptoRow : OpenClaim := { program := "ytdfnhodhdfhhcaadoor", sum := "0a98dac26f4246703f728acb32a0bc5070933c72413ec88b8044af28a0323650", func := "loop.example/wateronheights/laws.FnHolesAt", spec := "fnHolesAt", unfollowed := true, recurses := true, named := ["loop.example/wateronheights/impl.cornerSteps", "loop.example/wateronheights/impl.steps"], apart := false, laid := [("loop.example/wateronheights/impl.steps", laid_loop_example_wateronheights_impl_steps), ("loop.example/wateronheights/impl.cornerSteps", laid_loop_example_wateronheights_impl_cornerSteps)], narrowed := true }
def FnHolesAtUptoSaid : Prop := fnHolesAtUptoRow.holds Tryd.pinned (OpenSpec.upto fnHolesAtSpec)

/-- 'laws.FnExactHolesAt', WHERE WHAT IT READS IS OF BULK AT MOST 1048576: true; the input reads as it did. -/
def fnExactHolesAtUptoRow : OpenClaim := { program := "ytdfnhodhdfhhcaadoor", sum := "0a98dac26f4246703f728acb32a0bc5070933c72413ec88b8044af28a0323650", func := "loop.example/wateronheights/laws.FnExactHolesAt", spec := "fnExactHolesAt", unfollowed := true, recurses := true, named := ["loop.example/wateronheights/impl.cornerSteps", "loop.example/wateronheights/impl.steps"], apart := false, laid := [("loop.example/wateronheights/impl.steps", laid_loop_example_wateronheights_impl_steps), ("loop.example/wateronheights/impl.cornerSteps", laid_loop_example_wateronheights_impl_cornerSteps)], narrowed := true }
def FnExactHolesAtUptoSaid : Prop := fnExactHolesAtUptoRow.holds Tryd.pinned (OpenSpec.upto fnExactHolesAtSpec)

/-- 'laws.FnLandsArePeaks', WHERE WHAT IT READS IS OF BULK AT MOST 1048576: true; the input reads as it did. -/
def fnLandsArePeaksUptoRow : OpenClaim := { program := "ytdfnhodhdfhhcaadoor", sum := "0a98dac26f4246703f728acb32a0bc5070933c72413ec88b8044af28a0323650", func := "loop.example/wateronheights/laws.FnLandsArePeaks", spec := "fnLandsArePeaks", unfollowed := true, recurses := true, named := ["loop.example/wateronheights/impl.steps"], apart := false, laid := [("loop.example/wateronheights/impl.steps", laid_loop_example_wateronheights_impl_steps)], narrowed := true }
def FnLandsArePeaksUptoSaid : Prop := fnLandsArePeaksUptoRow.holds Tryd.pinned (OpenSpec.upto fnLandsArePeaksSpec)

end Rows
end Go.Proofs.YtdfnhodhdfhhcaaDoor
