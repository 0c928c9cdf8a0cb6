/-
  NARROWER THAN 'FOR EVERY INPUT', by the rows' own cells (each row's printed sentence says how): FnExactLandsAt: laid · FnExactPondsAt: laid · FnExactHolesAt: laid.
  DERIVED. THE GIVEN ROWS OF THIS SEAT. 3 by the template 'for every input the law returns true; each argument reads behind the call as it read before'; 0 by the template 'total and deterministic' (their statements: YtnfijchoijmehaaDoorTotals.lean).
  GIVEN WITH THE SEED: the statements are not yours to turn. If you find one false, say at which input.
  Laid BY PROGRAM, IN A SANDBOX (cutbox-rows.mjs): the forced cells as the released guide's own fill.sh prints them over the translation 46805077a5c33302… (all of the seat's roots in one cut). By AI agents, Wed Nov 11 2026. No macro, syntax, notation, axiom, sorry.
-/
import Derived.Test.YtnfijchoijmehaaDoorChecked
import GoSem.Claim
import GoSem.ClaimJoined
import GoSem.ClaimMapViews
import Derived.JoinedTies
import Derived.KernelRfl
namespace Go.Proofs.YtnfijchoijmehaaDoor
/- THE CELL 'sum', in the pinned program and in every row, IS THE sha256 OF THE DUMP (.gsa) THAT YtnfijchoijmehaaDoorProg.lean LOADS. Nothing in Lean hashes anything: it is a label: what it is worth is what the hold of that sum in a sandbox is worth. -/
noncomputable def Tryd.pinned : Pinned := { name := "ytnfijchoijmehaadoor", sum := "46805077a5c33302d47d0788651092a9ea6d81b2f59c35b73587858ccdb9bbd0", checked := Tryd.checked }
namespace Rows
def none {H : Type} : Left H := { results := [], args := [] }

/- WHAT THE LISTED PACKAGE-LEVEL VARIABLES READ AS WHEN THE CALL BEGINS. Each datum BY PROGRAM (the guide's laid-datum.mjs) off the statement by which the dump's own 'gosem.cut.vars' lays the variable. In a bare row this is a premise. The card (YtnfijchoijmehaaDoorCards.lean) ties it to the program's text. -/
def laid_loop_example_wateronheights_impl_steps {H : Type} : DataW H := .agg [.agg [.lit (.int .i64 (-1)), .lit (.int .i64 0)], .agg [.lit (.int .i64 0), .lit (.int .i64 (-1))], .agg [.lit (.int .i64 0), .lit (.int .i64 1)], .agg [.lit (.int .i64 1), .lit (.int .i64 0)]]
def laid_loop_example_wateronheights_impl_cornerSteps {H : Type} : DataW H := .agg [.agg [.lit (.int .i64 (-1)), .lit (.int .i64 (-1))], .agg [.lit (.int .i64 (-1)), .lit (.int .i64 1)], .agg [.lit (.int .i64 1), .lit (.int .i64 (-1))], .agg [.lit (.int .i64 1), .lit (.int .i64 1)]]

/-- 'laws.FnExactLandsAt': WHATEVER THE INPUT: true; the input reads as it did. -/
def fnExactLandsAtSpec : ChangeSpec := { name := "fnExactLandsAt", vars := ["loop.example/wateronheights/impl.steps"], fn := fun _ => fun
  | [d1, d2, g1] => { results := [.lit (.bool true)], args := [d1, d2], vars := [g1] }
  | _ => none }
def fnExactLandsAtRow : OpenClaim := { program := "ytnfijchoijmehaadoor", sum := "46805077a5c33302d47d0788651092a9ea6d81b2f59c35b73587858ccdb9bbd0", func := "loop.example/wateronheights/laws.FnExactLandsAt", spec := "fnExactLandsAt", unfollowed := true, recurses := true, named := ["loop.example/wateronheights/impl.steps"], apart := false, laid := [("loop.example/wateronheights/impl.steps", laid_loop_example_wateronheights_impl_steps)] }
def FnExactLandsAtSaid : Prop := fnExactLandsAtRow.holds Tryd.pinned (OpenSpec.ofChange fnExactLandsAtSpec)

/-- ITS FALSE NEIGHBOUR: 'it returns false'. Refute it at one input. -/
def fnExactLandsAtWrong : ChangeSpec := { name := "fnExactLandsAt", vars := ["loop.example/wateronheights/impl.steps"], fn := fun _ => fun
  | [d1, d2, g1] => { results := [.lit (.bool false)], args := [d1, d2], vars := [g1] }
  | _ => none }
def FnExactLandsAtWrongFalsely : Prop := fnExactLandsAtRow.holds Tryd.pinned (OpenSpec.ofChange fnExactLandsAtWrong)

/-- 'laws.FnExactPondsAt': WHATEVER THE INPUT: true; the input reads as it did. -/
def fnExactPondsAtSpec : ChangeSpec := { name := "fnExactPondsAt", vars := ["loop.example/wateronheights/impl.cornerSteps", "loop.example/wateronheights/impl.steps"], fn := fun _ => fun
  | [d1, d2, g1, g2] => { results := [.lit (.bool true)], args := [d1, d2], vars := [g1, g2] }
  | _ => none }
def fnExactPondsAtRow : OpenClaim := { program := "ytnfijchoijmehaadoor", sum := "46805077a5c33302d47d0788651092a9ea6d81b2f59c35b73587858ccdb9bbd0", func := "loop.example/wateronheights/laws.FnExactPondsAt", spec := "fnExactPondsAt", unfollowed := true, recurses := true, named := ["loop.example/wateronheights/impl.cornerSteps", "loop.example/wateronheights/impl.steps"], apart := false, laid := [("loop.example/wateronheights/impl.steps", laid_loop_example_wateronheights_impl_steps), ("loop.example/wateronheights/impl.cornerSteps", laid_loop_example_wateronheights_impl_cornerSteps)] }
def FnExactPondsAtSaid : Prop := fnExactPondsAtRow.holds Tryd.pinned (OpenSpec.ofChange fnExactPondsAtSpec)

/-- ITS FALSE NEIGHBOUR: 'it returns false'. Refute it at one input. -/
def fnExactPondsAtWrong : ChangeSpec := { name := "fnExactPondsAt", vars := ["loop.example/wateronheights/impl.cornerSteps", "loop.example/wateronheights/impl.steps"], fn := fun _ => fun
  | [d1, d2, g1, g2] => { results := [.lit (.bool false)], args := [d1, d2], vars := [g1, g2] }
  | _ => none }
def FnExactPondsAtWrongFalsely : Prop := fnExactPondsAtRow.holds Tryd.pinned (OpenSpec.ofChange fnExactPondsAtWrong)

/-- 'laws.FnExactHolesAt': WHATEVER THE INPUT: true; the input reads as it did. -/
def fnExactHolesAtSpec : ChangeSpec := { name := "fnExactHolesAt", vars := ["loop.example/wateronheights/impl.cornerSteps", "loop.example/wateronheights/impl.steps"], fn := fun _ => fun
  | [d1, d2, g1, g2] => { results := [.lit (.bool true)], args := [d1, d2], vars := [g1, g2] }
  | _ => none }
def fnExactHolesAtRow : OpenClaim := { program := "ytnfijchoijmehaadoor", sum := "46805077a5c33302d47d0788651092a9ea6d81b2f59c35b73587858ccdb9bbd0", func := "loop.example/wateronheights/laws.FnExactHolesAt", spec := "fnExactHolesAt", unfollowed := true, recurses := true, named := ["loop.example/wateronheights/impl.cornerSteps", "loop.example/wateronheights/impl.steps"], apart := false, laid := [("loop.example/wateronheights/impl.steps", laid_loop_example_wateronheights_impl_steps), ("loop.example/wateronheights/impl.cornerSteps", laid_loop_example_wateronheights_impl_cornerSteps)] }
def FnExactHolesAtSaid : Prop := fnExactHolesAtRow.holds Tryd.pinned (OpenSpec.ofChange fnExactHolesAtSpec)

/-- ITS FALSE NEIGHBOUR: 'it returns false'. Refute it at one input. -/
def fnExactHolesAtWrong : ChangeSpec := { name := "fnExactHolesAt", vars := ["loop.example/wateronheights/impl.cornerSteps", "loop.example/wateronheights/impl.steps"], fn := fun _ => fun
  | [d1, d2, g1, g2] => { results := [.lit (.bool false)], args := [d1, d2], vars := [g1, g2] }
  | _ => none }
def FnExactHolesAtWrongFalsely : Prop := fnExactHolesAtRow.holds Tryd.pinned (OpenSpec.ofChange fnExactHolesAtWrong)

/- THE SECOND FORM. 'bulk': how many values and letters a reading holds, each counted each time it is reached (what is shared counts as often as it is met; a slice's spare places count too). A statement '..UptoSaid' is the law's where the arguments, and the package variables that the reading takes, are together of bulk at most 1048576: NARROWER than '..Said'. Prove '..Said' where nothing that the law and all that it calls make is longer than what came in: it says more and counts as full. Else prove '..UptoSaid'. A law counts once. -/
mutual
def uptoBulk {H : Type} : DataW H → Nat
  | .lit (.string bytes) => bytes.length + 1
  | .lit _ => 1
  | .nil => 1
  | .ptr d => uptoBulk d + 1
  | .slice elems spare => uptoBulkAll elems + uptoBulkAll spare + 1
  | .agg parts => uptoBulkAll parts + 1
  | .iface _ d => uptoBulk d + 1
  | .map entries => uptoBulkEntries entries + 1
  | .held _ => 1
def uptoBulkAll {H : Type} : List (DataW H) → Nat
  | [] => 0
  | d :: r => uptoBulk d + uptoBulkAll r
def uptoBulkEntries {H : Type} : List (Lit × DataW H) → Nat
  | [] => 0
  | x :: r => uptoBulkEntry x + uptoBulkEntries r
def uptoBulkEntry {H : Type} : Lit × DataW H → Nat
  | (.string bytes, d) => bytes.length + uptoBulk d + 1
  | (_, d) => uptoBulk d + 1
 end
def uptoSmall : (H : Type) → List (DataW H) → Bool := fun _ ds => decide (uptoBulkAll ds ≤ 1048576)
def OpenSpec.upto (s : _root_.Go.ChangeSpec) : _root_.Go.OpenSpec := { _root_.Go.OpenSpec.ofChange s with cond := some uptoSmall }

/-- 'laws.FnExactLandsAt', WHERE WHAT IT READS IS OF BULK AT MOST 1048576: true; the input reads as it did. -/
def fnExactLandsAtUptoRow : OpenClaim := { program := "ytnfijchoijmehaadoor", sum := "46805077a5c33302d47d0788651092a9ea6d81b2f59c35b73587858ccdb9bbd0", func := "loop.example/wateronheights/laws.FnExactLandsAt", spec := "fnExactLandsAt", unfollowed := true, recurses := true, named := ["loop.example/wateronheights/impl.steps"], apart := false, laid := [("loop.example/wateronheights/impl.steps", laid_loop_example_wateronheights_impl_steps)], narrowed := true }
def FnExactLandsAtUptoSaid : Prop := fnExactLandsAtUptoRow.holds Tryd.pinned (OpenSpec.upto fnExactLandsAtSpec)

/-- 'laws.FnExactPondsAt', WHERE WHAT IT READS IS OF BULK AT MOST 1048576: true; the input reads as it did. -/
def fnExactPondsAtUptoRow : OpenClaim := { program := "ytnfijchoijmehaadoor", sum := "46805077a5c33302d47d0788651092a9ea6d81b2f59c35b73587858ccdb9bbd0", func := "loop.example/wateronheights/laws.FnExactPondsAt", spec := "fnExactPondsAt", unfollowed := true, recurses := true, named := ["loop.example/wateronheights/impl.cornerSteps", "loop.example/wateronheights/impl.steps"], apart := false, laid := [("loop.example/wateronheights/impl.steps", laid_loop_example_wateronheights_impl_steps), ("loop.example/wateronheights/impl.cornerSteps", laid_loop_example_wateronheights_impl_cornerSteps)], narrowed := true }
def FnExactPondsAtUptoSaid : Prop := fnExactPondsAtUptoRow.holds Tryd.pinned (OpenSpec.upto fnExactPondsAtSpec)

/-- 'laws.FnExactHolesAt', WHERE WHAT IT READS IS OF BULK AT MOST 1048576: true; the input reads as it did. -/
def fnExactHolesAtUptoRow : OpenClaim := { program := "ytnfijchoijmehaadoor", sum := "46805077a5c33302d47d0788651092a9ea6d81b2f59c35b73587858ccdb9bbd0", func := "loop.example/wateronheights/laws.FnExactHolesAt", spec := "fnExactHolesAt", unfollowed := true, recurses := true, named := ["loop.example/wateronheights/impl.cornerSteps", "loop.example/wateronheights/impl.steps"], apart := false, laid := [("loop.example/wateronheights/impl.steps", laid_loop_example_wateronheights_impl_steps), ("loop.example/wateronheights/impl.cornerSteps", laid_loop_example_wateronheights_impl_cornerSteps)], narrowed := true }
def FnExactHolesAtUptoSaid : Prop := fnExactHolesAtUptoRow.holds Tryd.pinned (OpenSpec.upto fnExactHolesAtSpec)

end Rows
end Go.Proofs.YtnfijchoijmehaaDoor
