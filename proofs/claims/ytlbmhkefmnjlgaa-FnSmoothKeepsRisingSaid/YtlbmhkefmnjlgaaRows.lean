/-
  No cell of these rows narrows 'for every input' (looked for: loops, veiled, ifaces, maps, wideKeys, modest, calm, conditions, laid).
  DERIVED. THE GIVEN ROWS OF THIS SEAT. 3 by the template 'for every input the law returns true; each argument reads behind the call as it read before'; 0 by the template 'total and deterministic' (their statements: YtlbmhkefmnjlgaaTotals.lean).
  GIVEN WITH THE SEED: the statements are not yours to turn. If you find one false, say at which input.
  Laid BY PROGRAM, IN A SANDBOX (cutbox-rows.mjs): the forced cells as the released guide's own fill.sh prints them over the translation e73df899b89064f1… (all of the seat's roots in one cut). By AI agents, Wed Nov 11 2026. No macro, syntax, notation, axiom, sorry.
-/
import Derived.Test.YtlbmhkefmnjlgaaChecked
import GoSem.Claim
import GoSem.ClaimJoined
import GoSem.ClaimMapViews
import Derived.JoinedTies
import Derived.KernelRfl
namespace Go.Proofs.Ytlbmhkefmnjlgaa
/- THE CELL 'sum', in the pinned program and in every row, IS THE sha256 OF THE DUMP (.gsa) THAT YtlbmhkefmnjlgaaProg.lean LOADS. Nothing in Lean hashes anything: it is a label: what it is worth is what the hold of that sum in a sandbox is worth. -/
noncomputable def Try.pinned : Pinned := { name := "ytlbmhkefmnjlgaa", sum := "e73df899b89064f12d7a28cedbda89718167d8ce9fffb8a94128640d5b509dd5", checked := Try.checked }
namespace Rows
def none {H : Type} : Left H := { results := [], args := [] }

/-- 'laws.FnSmoothUp': WHATEVER THE INPUT: true; the input reads as it did. -/
def fnSmoothUpSpec : ChangeSpec := { name := "fnSmoothUp", fn := fun _ => fun
  | [d] => { results := [.lit (.bool true)], args := [d] }
  | _ => none }
def fnSmoothUpRow : OpenClaim := { program := "ytlbmhkefmnjlgaa", sum := "e73df899b89064f12d7a28cedbda89718167d8ce9fffb8a94128640d5b509dd5", func := "loop.example/wateronheights/laws.FnSmoothUp", spec := "fnSmoothUp", unfollowed := true, recurses := true, apart := false }
def FnSmoothUpSaid : Prop := fnSmoothUpRow.holds Try.pinned (OpenSpec.ofChange fnSmoothUpSpec)

/-- ITS FALSE NEIGHBOUR: 'it returns false'. Refute it at one input. -/
def fnSmoothUpWrong : ChangeSpec := { name := "fnSmoothUp", fn := fun _ => fun
  | [d] => { results := [.lit (.bool false)], args := [d] }
  | _ => none }
def FnSmoothUpWrongFalsely : Prop := fnSmoothUpRow.holds Try.pinned (OpenSpec.ofChange fnSmoothUpWrong)

/-- 'laws.FnSmoothKeepsRising': WHATEVER THE INPUT: true; the input reads as it did. -/
def fnSmoothKeepsRisingSpec : ChangeSpec := { name := "fnSmoothKeepsRising", fn := fun _ => fun
  | [d] => { results := [.lit (.bool true)], args := [d] }
  | _ => none }
def fnSmoothKeepsRisingRow : OpenClaim := { program := "ytlbmhkefmnjlgaa", sum := "e73df899b89064f12d7a28cedbda89718167d8ce9fffb8a94128640d5b509dd5", func := "loop.example/wateronheights/laws.FnSmoothKeepsRising", spec := "fnSmoothKeepsRising", unfollowed := true, recurses := true, apart := false }
def FnSmoothKeepsRisingSaid : Prop := fnSmoothKeepsRisingRow.holds Try.pinned (OpenSpec.ofChange fnSmoothKeepsRisingSpec)

/-- ITS FALSE NEIGHBOUR: 'it returns false'. Refute it at one input. -/
def fnSmoothKeepsRisingWrong : ChangeSpec := { name := "fnSmoothKeepsRising", fn := fun _ => fun
  | [d] => { results := [.lit (.bool false)], args := [d] }
  | _ => none }
def FnSmoothKeepsRisingWrongFalsely : Prop := fnSmoothKeepsRisingRow.holds Try.pinned (OpenSpec.ofChange fnSmoothKeepsRisingWrong)

/-- 'laws.FnExactSmoothUp': WHATEVER THE INPUT: true; the input reads as it did. -/
def fnExactSmoothUpSpec : ChangeSpec := { name := "fnExactSmoothUp", fn := fun _ => fun
  | [d] => { results := [.lit (.bool true)], args := [d] }
  | _ => none }
def fnExactSmoothUpRow : OpenClaim := { program := "ytlbmhkefmnjlgaa", sum := "e73df899b89064f12d7a28cedbda89718167d8ce9fffb8a94128640d5b509dd5", func := "loop.example/wateronheights/laws.FnExactSmoothUp", spec := "fnExactSmoothUp", unfollowed := true, recurses := true, apart := false }
def FnExactSmoothUpSaid : Prop := fnExactSmoothUpRow.holds Try.pinned (OpenSpec.ofChange fnExactSmoothUpSpec)

/-- ITS FALSE NEIGHBOUR: 'it returns false'. Refute it at one input. -/
def fnExactSmoothUpWrong : ChangeSpec := { name := "fnExactSmoothUp", fn := fun _ => fun
  | [d] => { results := [.lit (.bool false)], args := [d] }
  | _ => none }
def FnExactSmoothUpWrongFalsely : Prop := fnExactSmoothUpRow.holds Try.pinned (OpenSpec.ofChange fnExactSmoothUpWrong)

/- THE SECOND FORM. 'bulk': how many values and letters a reading holds, each counted each time it is reached (what is shared counts as often as it is met; a slice's spare places count too). A statement '..UptoSaid' is the law's where the arguments, and the package variables that the reading takes, are together of bulk at most 1048576: NARROWER than '..Said'. Prove '..Said' where nothing that the law and all that it calls make is longer than what came in: it says more and counts as full. Else prove '..UptoSaid'. A law counts once. -/
mutual
def uptoBulk {H : Type} : DataW H → Nat
  | .lit (.string bytes) => bytes.length + 1
  | .lit _ => 1
  | .nil => 1
  | .ptr d => uptoBulk d + 1
  | .slice elems spare => uptoBulkAll elems + uptoBulkAll spare + 1
  | .agg parts => uptoBulkAll parts + 1
  | .iface _ d => uptoBulk d + 1
  | .map entries => uptoBulkEntries entries + 1
  | .held _ => 1
def uptoBulkAll {H : Type} : List (DataW H) → Nat
  | [] => 0
  | d :: r => uptoBulk d + uptoBulkAll r
def uptoBulkEntries {H : Type} : List (Lit × DataW H) → Nat
  | [] => 0
  | x :: r => uptoBulkEntry x + uptoBulkEntries r
def uptoBulkEntry {H : Type} : Lit × DataW H → Nat
  | (.string bytes, d) => bytes.length + uptoBulk d + 1
  | (_, d) => uptoBulk d + 1
 end
def uptoSmall : (H : Type) → List (DataW H) → Bool := fun _ ds => decide (uptoBulkAll ds ≤ 1048576)
def OpenSpec.upto (s : _root_.Go.ChangeSpec) : _root_.Go.OpenSpec := { _root_.Go.OpenSpec.ofChange s with cond := some uptoSmall }

/-- 'laws.FnSmoothUp', WHERE WHAT IT READS IS OF BULK AT MOST 1048576: true; the input reads as it did. -/
def fnSmoothUpUptoRow : OpenClaim := { program := "ytlbmhkefmnjlgaa", sum := "e73df899b89064f12d7a28cedbda89718167d8ce9fffb8a94128640d5b509dd5", func := "loop.example/wateronheights/laws.FnSmoothUp", spec := "fnSmoothUp", unfollowed := true, recurses := true, apart := false, narrowed := true }
def FnSmoothUpUptoSaid : Prop := fnSmoothUpUptoRow.holds Try.pinned (OpenSpec.upto fnSmoothUpSpec)

/-- 'laws.FnSmoothKeepsRising', WHERE WHAT IT READS IS OF BULK AT MOST 1048576: true; the input reads as it did. -/
def fnSmoothKeepsRisingUptoRow : OpenClaim := { program := "ytlbmhkefmnjlgaa", sum := "e73df899b89064f12d7a28cedbda89718167d8ce9fffb8a94128640d5b509dd5", func := "loop.example/wateronheights/laws.FnSmoothKeepsRising", spec := "fnSmoothKeepsRising", unfollowed := true, recurses := true, apart := false, narrowed := true }
def FnSmoothKeepsRisingUptoSaid : Prop := fnSmoothKeepsRisingUptoRow.holds Try.pinned (OpenSpec.upto fnSmoothKeepsRisingSpec)

/-- 'laws.FnExactSmoothUp', WHERE WHAT IT READS IS OF BULK AT MOST 1048576: true; the input reads as it did. -/
def fnExactSmoothUpUptoRow : OpenClaim := { program := "ytlbmhkefmnjlgaa", sum := "e73df899b89064f12d7a28cedbda89718167d8ce9fffb8a94128640d5b509dd5", func := "loop.example/wateronheights/laws.FnExactSmoothUp", spec := "fnExactSmoothUp", unfollowed := true, recurses := true, apart := false, narrowed := true }
def FnExactSmoothUpUptoSaid : Prop := fnExactSmoothUpUptoRow.holds Try.pinned (OpenSpec.upto fnExactSmoothUpSpec)

end Rows
end Go.Proofs.Ytlbmhkefmnjlgaa
