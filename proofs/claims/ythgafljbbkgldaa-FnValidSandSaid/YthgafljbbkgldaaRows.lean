/-
  No cell of these rows narrows 'for every input' (looked for: loops, veiled, ifaces, maps, wideKeys, modest, calm, conditions, laid).
  DERIVED. THE GIVEN ROWS OF THIS SEAT. 2 by the template 'for every input the law returns true; each argument reads behind the call as it read before'; 0 by the template 'total and deterministic' (their statements: YthgafljbbkgldaaTotals.lean).
  GIVEN WITH THE SEED: the statements are not yours to turn. If you find one false, say at which input.
  Laid BY PROGRAM, IN A SANDBOX (cutbox-rows.mjs): the forced cells as the released guide's own fill.sh prints them over the translation 4f3011846354c1f5… (all of the seat's roots in one cut). By AI agents, Wed Nov 11 2026. No macro, syntax, notation, axiom, sorry.
-/
import Derived.Test.YthgafljbbkgldaaChecked
import GoSem.Claim
import GoSem.ClaimJoined
import GoSem.ClaimMapViews
import Derived.JoinedTies
import Derived.KernelRfl
namespace Go.Proofs.Ythgafljbbkgldaa
/- THE CELL 'sum', in the pinned program and in every row, IS THE sha256 OF THE DUMP (.gsa) THAT YthgafljbbkgldaaProg.lean LOADS. Nothing in Lean hashes anything: it is a label: what it is worth is what the hold of that sum in a sandbox is worth. -/
noncomputable def Try.pinned : Pinned := { name := "ythgafljbbkgldaa", sum := "4f3011846354c1f558c61414e343b00c4d6815f274ccc49eede3782d847074e2", checked := Try.checked }
namespace Rows
def none {H : Type} : Left H := { results := [], args := [] }

/-- 'laws.FnValidSand': WHATEVER THE INPUT: true; the input reads as it did. -/
def fnValidSandSpec : ChangeSpec := { name := "fnValidSand", fn := fun _ => fun
  | [d] => { results := [.lit (.bool true)], args := [d] }
  | _ => none }
def fnValidSandRow : OpenClaim := { program := "ythgafljbbkgldaa", sum := "4f3011846354c1f558c61414e343b00c4d6815f274ccc49eede3782d847074e2", func := "loop.example/wateronheights/laws.FnValidSand", spec := "fnValidSand", apart := false }
def FnValidSandSaid : Prop := fnValidSandRow.holds Try.pinned (OpenSpec.ofChange fnValidSandSpec)

/-- ITS FALSE NEIGHBOUR: 'it returns false'. Refute it at one input. -/
def fnValidSandWrong : ChangeSpec := { name := "fnValidSand", fn := fun _ => fun
  | [d] => { results := [.lit (.bool false)], args := [d] }
  | _ => none }
def FnValidSandWrongFalsely : Prop := fnValidSandRow.holds Try.pinned (OpenSpec.ofChange fnValidSandWrong)

/-- 'laws.FnExactValidSand': WHATEVER THE INPUT: true; the input reads as it did. -/
def fnExactValidSandSpec : ChangeSpec := { name := "fnExactValidSand", fn := fun _ => fun
  | [d] => { results := [.lit (.bool true)], args := [d] }
  | _ => none }
def fnExactValidSandRow : OpenClaim := { program := "ythgafljbbkgldaa", sum := "4f3011846354c1f558c61414e343b00c4d6815f274ccc49eede3782d847074e2", func := "loop.example/wateronheights/laws.FnExactValidSand", spec := "fnExactValidSand", apart := false }
def FnExactValidSandSaid : Prop := fnExactValidSandRow.holds Try.pinned (OpenSpec.ofChange fnExactValidSandSpec)

/-- ITS FALSE NEIGHBOUR: 'it returns false'. Refute it at one input. -/
def fnExactValidSandWrong : ChangeSpec := { name := "fnExactValidSand", fn := fun _ => fun
  | [d] => { results := [.lit (.bool false)], args := [d] }
  | _ => none }
def FnExactValidSandWrongFalsely : Prop := fnExactValidSandRow.holds Try.pinned (OpenSpec.ofChange fnExactValidSandWrong)

/- THE SECOND FORM. 'bulk': how many values and letters a reading holds, each counted each time it is reached (what is shared counts as often as it is met; a slice's spare places count too). A statement '..UptoSaid' is the law's where the arguments, and the package variables that the reading takes, are together of bulk at most 1048576: NARROWER than '..Said'. Prove '..Said' where nothing that the law and all that it calls make is longer than what came in: it says more and counts as full. Else prove '..UptoSaid'. A law counts once. -/
mutual
def uptoBulk {H : Type} : DataW H → Nat
  | .lit (.string bytes) => bytes.length + 1
  | .lit _ => 1
  | .nil => 1
  | .ptr d => uptoBulk d + 1
  | .slice elems spare => uptoBulkAll elems + uptoBulkAll spare + 1
  | .agg parts => uptoBulkAll parts + 1
  | .iface _ d => uptoBulk d + 1
  | .map entries => uptoBulkEntries entries + 1
  | .held _ => 1
def uptoBulkAll {H : Type} : List (DataW H) → Nat
  | [] => 0
  | d :: r => uptoBulk d + uptoBulkAll r
def uptoBulkEntries {H : Type} : List (Lit × DataW H) → Nat
  | [] => 0
  | x :: r => uptoBulkEntry x + uptoBulkEntries r
def uptoBulkEntry {H : Type} : Lit × DataW H → Nat
  | (.string bytes, d) => bytes.length + uptoBulk d + 1
  | (_, d) => uptoBulk d + 1
 end
def uptoSmall : (H : Type) → List (DataW H) → Bool := fun _ ds => decide (uptoBulkAll ds ≤ 1048576)
def OpenSpec.upto (s : _root_.Go.ChangeSpec) : _root_.Go.OpenSpec := { _root_.Go.OpenSpec.ofChange s with cond := some uptoSmall }

/-- 'laws.FnValidSand', WHERE WHAT IT READS IS OF BULK AT MOST 1048576: true; the input reads as it did. -/
def fnValidSandUptoRow : OpenClaim := { program := "ythgafljbbkgldaa", sum := "4f3011846354c1f558c61414e343b00c4d6815f274ccc49eede3782d847074e2", func := "loop.example/wateronheights/laws.FnValidSand", spec := "fnValidSand", apart := false, narrowed := true }
def FnValidSandUptoSaid : Prop := fnValidSandUptoRow.holds Try.pinned (OpenSpec.upto fnValidSandSpec)

/-- 'laws.FnExactValidSand', WHERE WHAT IT READS IS OF BULK AT MOST 1048576: true; the input reads as it did. -/
def fnExactValidSandUptoRow : OpenClaim := { program := "ythgafljbbkgldaa", sum := "4f3011846354c1f558c61414e343b00c4d6815f274ccc49eede3782d847074e2", func := "loop.example/wateronheights/laws.FnExactValidSand", spec := "fnExactValidSand", apart := false, narrowed := true }
def FnExactValidSandUptoSaid : Prop := fnExactValidSandUptoRow.holds Try.pinned (OpenSpec.upto fnExactValidSandSpec)

end Rows
end Go.Proofs.Ythgafljbbkgldaa
