/-
  No cell of these rows narrows 'for every input' (looked for: loops, veiled, ifaces, maps, wideKeys, modest, calm, conditions, laid).
  DERIVED. THE GIVEN ROWS OF THIS SEAT. 9 by the template 'for every input the law returns true; each argument reads behind the call as it read before'; 0 by the template 'total and deterministic' (their statements: YtkeeonjbkfgeeaaTotals.lean).
  GIVEN WITH THE SEED: the statements are not yours to turn. If you find one false, say at which input.
  Laid BY PROGRAM, IN A SANDBOX (cutbox-rows.mjs): the forced cells as the released guide's own fill.sh prints them over the translation cd8d11f0e68865c9… (all of the seat's roots in one cut). By AI agents, Wed Nov 11 2026. No macro, syntax, notation, axiom, sorry.
-/
import Derived.Test.YtkeeonjbkfgeeaaChecked
import GoSem.Claim
import GoSem.ClaimJoined
import GoSem.ClaimMapViews
import Derived.JoinedTies
import Derived.KernelRfl
namespace Go.Proofs.Ytkeeonjbkfgeeaa
/- THE CELL 'sum', in the pinned program and in every row, IS THE sha256 OF THE DUMP (.gsa) THAT YtkeeonjbkfgeeaaProg.lean LOADS. Nothing in Lean hashes anything: it is a label: what it is worth is what the hold of that sum in a sandbox is worth. -/
noncomputable def Try.pinned : Pinned := { name := "ytkeeonjbkfgeeaa", sum := "cd8d11f0e68865c9b087eef4dbc6c708dff8df8dcb5b882bb88bdf2423a1d234", checked := Try.checked }
namespace Rows
def none {H : Type} : Left H := { results := [], args := [] }

/-- 'laws.FnSumsOf': WHATEVER THE INPUT: true; the input reads as it did. -/
def fnSumsOfSpec : ChangeSpec := { name := "fnSumsOf", fn := fun _ => fun
  | [d] => { results := [.lit (.bool true)], args := [d] }
  | _ => none }
def fnSumsOfRow : OpenClaim := { program := "ytkeeonjbkfgeeaa", sum := "cd8d11f0e68865c9b087eef4dbc6c708dff8df8dcb5b882bb88bdf2423a1d234", func := "loop.example/wateronheights/laws.FnSumsOf", spec := "fnSumsOf", unfollowed := true, recurses := true, apart := false }
def FnSumsOfSaid : Prop := fnSumsOfRow.holds Try.pinned (OpenSpec.ofChange fnSumsOfSpec)

/-- ITS FALSE NEIGHBOUR: 'it returns false'. Refute it at one input. -/
def fnSumsOfWrong : ChangeSpec := { name := "fnSumsOf", fn := fun _ => fun
  | [d] => { results := [.lit (.bool false)], args := [d] }
  | _ => none }
def FnSumsOfWrongFalsely : Prop := fnSumsOfRow.holds Try.pinned (OpenSpec.ofChange fnSumsOfWrong)

/-- 'laws.FnSumIn': WHATEVER THE INPUT: true; the input reads as it did. -/
def fnSumInSpec : ChangeSpec := { name := "fnSumIn", fn := fun _ => fun
  | [d] => { results := [.lit (.bool true)], args := [d] }
  | _ => none }
def fnSumInRow : OpenClaim := { program := "ytkeeonjbkfgeeaa", sum := "cd8d11f0e68865c9b087eef4dbc6c708dff8df8dcb5b882bb88bdf2423a1d234", func := "loop.example/wateronheights/laws.FnSumIn", spec := "fnSumIn", unfollowed := true, recurses := true, apart := false }
def FnSumInSaid : Prop := fnSumInRow.holds Try.pinned (OpenSpec.ofChange fnSumInSpec)

/-- ITS FALSE NEIGHBOUR: 'it returns false'. Refute it at one input. -/
def fnSumInWrong : ChangeSpec := { name := "fnSumIn", fn := fun _ => fun
  | [d] => { results := [.lit (.bool false)], args := [d] }
  | _ => none }
def FnSumInWrongFalsely : Prop := fnSumInRow.holds Try.pinned (OpenSpec.ofChange fnSumInWrong)

/-- 'laws.FnGreatestPart': WHATEVER THE INPUT: true; the input reads as it did. -/
def fnGreatestPartSpec : ChangeSpec := { name := "fnGreatestPart", fn := fun _ => fun
  | [d] => { results := [.lit (.bool true)], args := [d] }
  | _ => none }
def fnGreatestPartRow : OpenClaim := { program := "ytkeeonjbkfgeeaa", sum := "cd8d11f0e68865c9b087eef4dbc6c708dff8df8dcb5b882bb88bdf2423a1d234", func := "loop.example/wateronheights/laws.FnGreatestPart", spec := "fnGreatestPart", unfollowed := true, recurses := true, apart := false }
def FnGreatestPartSaid : Prop := fnGreatestPartRow.holds Try.pinned (OpenSpec.ofChange fnGreatestPartSpec)

/-- ITS FALSE NEIGHBOUR: 'it returns false'. Refute it at one input. -/
def fnGreatestPartWrong : ChangeSpec := { name := "fnGreatestPart", fn := fun _ => fun
  | [d] => { results := [.lit (.bool false)], args := [d] }
  | _ => none }
def FnGreatestPartWrongFalsely : Prop := fnGreatestPartRow.holds Try.pinned (OpenSpec.ofChange fnGreatestPartWrong)

/-- 'laws.FnPyramidOf': WHATEVER THE INPUT: true; the input reads as it did. -/
def fnPyramidOfSpec : ChangeSpec := { name := "fnPyramidOf", fn := fun _ => fun
  | [d] => { results := [.lit (.bool true)], args := [d] }
  | _ => none }
def fnPyramidOfRow : OpenClaim := { program := "ytkeeonjbkfgeeaa", sum := "cd8d11f0e68865c9b087eef4dbc6c708dff8df8dcb5b882bb88bdf2423a1d234", func := "loop.example/wateronheights/laws.FnPyramidOf", spec := "fnPyramidOf", unfollowed := true, recurses := true, apart := false }
def FnPyramidOfSaid : Prop := fnPyramidOfRow.holds Try.pinned (OpenSpec.ofChange fnPyramidOfSpec)

/-- ITS FALSE NEIGHBOUR: 'it returns false'. Refute it at one input. -/
def fnPyramidOfWrong : ChangeSpec := { name := "fnPyramidOf", fn := fun _ => fun
  | [d] => { results := [.lit (.bool false)], args := [d] }
  | _ => none }
def FnPyramidOfWrongFalsely : Prop := fnPyramidOfRow.holds Try.pinned (OpenSpec.ofChange fnPyramidOfWrong)

/-- 'laws.FnPyramidsAreSums': WHATEVER THE INPUT: true; the input reads as it did. -/
def fnPyramidsAreSumsSpec : ChangeSpec := { name := "fnPyramidsAreSums", fn := fun _ => fun
  | [d] => { results := [.lit (.bool true)], args := [d] }
  | _ => none }
def fnPyramidsAreSumsRow : OpenClaim := { program := "ytkeeonjbkfgeeaa", sum := "cd8d11f0e68865c9b087eef4dbc6c708dff8df8dcb5b882bb88bdf2423a1d234", func := "loop.example/wateronheights/laws.FnPyramidsAreSums", spec := "fnPyramidsAreSums", unfollowed := true, recurses := true, apart := false }
def FnPyramidsAreSumsSaid : Prop := fnPyramidsAreSumsRow.holds Try.pinned (OpenSpec.ofChange fnPyramidsAreSumsSpec)

/-- ITS FALSE NEIGHBOUR: 'it returns false'. Refute it at one input. -/
def fnPyramidsAreSumsWrong : ChangeSpec := { name := "fnPyramidsAreSums", fn := fun _ => fun
  | [d] => { results := [.lit (.bool false)], args := [d] }
  | _ => none }
def FnPyramidsAreSumsWrongFalsely : Prop := fnPyramidsAreSumsRow.holds Try.pinned (OpenSpec.ofChange fnPyramidsAreSumsWrong)

/-- 'laws.FnExactSumsOf': WHATEVER THE INPUT: true; the input reads as it did. -/
def fnExactSumsOfSpec : ChangeSpec := { name := "fnExactSumsOf", fn := fun _ => fun
  | [d] => { results := [.lit (.bool true)], args := [d] }
  | _ => none }
def fnExactSumsOfRow : OpenClaim := { program := "ytkeeonjbkfgeeaa", sum := "cd8d11f0e68865c9b087eef4dbc6c708dff8df8dcb5b882bb88bdf2423a1d234", func := "loop.example/wateronheights/laws.FnExactSumsOf", spec := "fnExactSumsOf", unfollowed := true, recurses := true, apart := false }
def FnExactSumsOfSaid : Prop := fnExactSumsOfRow.holds Try.pinned (OpenSpec.ofChange fnExactSumsOfSpec)

/-- ITS FALSE NEIGHBOUR: 'it returns false'. Refute it at one input. -/
def fnExactSumsOfWrong : ChangeSpec := { name := "fnExactSumsOf", fn := fun _ => fun
  | [d] => { results := [.lit (.bool false)], args := [d] }
  | _ => none }
def FnExactSumsOfWrongFalsely : Prop := fnExactSumsOfRow.holds Try.pinned (OpenSpec.ofChange fnExactSumsOfWrong)

/-- 'laws.FnExactSumIn': WHATEVER THE INPUT: true; the input reads as it did. -/
def fnExactSumInSpec : ChangeSpec := { name := "fnExactSumIn", fn := fun _ => fun
  | [d1, d2, d3, d4, d5] => { results := [.lit (.bool true)], args := [d1, d2, d3, d4, d5] }
  | _ => none }
def fnExactSumInRow : OpenClaim := { program := "ytkeeonjbkfgeeaa", sum := "cd8d11f0e68865c9b087eef4dbc6c708dff8df8dcb5b882bb88bdf2423a1d234", func := "loop.example/wateronheights/laws.FnExactSumIn", spec := "fnExactSumIn", unfollowed := true, recurses := true, apart := false }
def FnExactSumInSaid : Prop := fnExactSumInRow.holds Try.pinned (OpenSpec.ofChange fnExactSumInSpec)

/-- ITS FALSE NEIGHBOUR: 'it returns false'. Refute it at one input. -/
def fnExactSumInWrong : ChangeSpec := { name := "fnExactSumIn", fn := fun _ => fun
  | [d1, d2, d3, d4, d5] => { results := [.lit (.bool false)], args := [d1, d2, d3, d4, d5] }
  | _ => none }
def FnExactSumInWrongFalsely : Prop := fnExactSumInRow.holds Try.pinned (OpenSpec.ofChange fnExactSumInWrong)

/-- 'laws.FnExactGreatestPart': WHATEVER THE INPUT: true; the input reads as it did. -/
def fnExactGreatestPartSpec : ChangeSpec := { name := "fnExactGreatestPart", fn := fun _ => fun
  | [d1, d2] => { results := [.lit (.bool true)], args := [d1, d2] }
  | _ => none }
def fnExactGreatestPartRow : OpenClaim := { program := "ytkeeonjbkfgeeaa", sum := "cd8d11f0e68865c9b087eef4dbc6c708dff8df8dcb5b882bb88bdf2423a1d234", func := "loop.example/wateronheights/laws.FnExactGreatestPart", spec := "fnExactGreatestPart", unfollowed := true, recurses := true, apart := false }
def FnExactGreatestPartSaid : Prop := fnExactGreatestPartRow.holds Try.pinned (OpenSpec.ofChange fnExactGreatestPartSpec)

/-- ITS FALSE NEIGHBOUR: 'it returns false'. Refute it at one input. -/
def fnExactGreatestPartWrong : ChangeSpec := { name := "fnExactGreatestPart", fn := fun _ => fun
  | [d1, d2] => { results := [.lit (.bool false)], args := [d1, d2] }
  | _ => none }
def FnExactGreatestPartWrongFalsely : Prop := fnExactGreatestPartRow.holds Try.pinned (OpenSpec.ofChange fnExactGreatestPartWrong)

/-- 'laws.FnExactPyramidOf': WHATEVER THE INPUT: true; the input reads as it did. -/
def fnExactPyramidOfSpec : ChangeSpec := { name := "fnExactPyramidOf", fn := fun _ => fun
  | [d] => { results := [.lit (.bool true)], args := [d] }
  | _ => none }
def fnExactPyramidOfRow : OpenClaim := { program := "ytkeeonjbkfgeeaa", sum := "cd8d11f0e68865c9b087eef4dbc6c708dff8df8dcb5b882bb88bdf2423a1d234", func := "loop.example/wateronheights/laws.FnExactPyramidOf", spec := "fnExactPyramidOf", unfollowed := true, recurses := true, apart := false }
def FnExactPyramidOfSaid : Prop := fnExactPyramidOfRow.holds Try.pinned (OpenSpec.ofChange fnExactPyramidOfSpec)

/-- ITS FALSE NEIGHBOUR: 'it returns false'. Refute it at one input. -/
def fnExactPyramidOfWrong : ChangeSpec := { name := "fnExactPyramidOf", fn := fun _ => fun
  | [d] => { results := [.lit (.bool false)], args := [d] }
  | _ => none }
def FnExactPyramidOfWrongFalsely : Prop := fnExactPyramidOfRow.holds Try.pinned (OpenSpec.ofChange fnExactPyramidOfWrong)

/- THE SECOND FORM. 'bulk': how many values and letters a reading holds, each counted each time it is reached (what is shared counts as often as it is met; a slice's spare places count too). A statement '..UptoSaid' is the law's where the arguments, and the package variables that the reading takes, are together of bulk at most 1048576: NARROWER than '..Said'. Prove '..Said' where nothing that the law and all that it calls make is longer than what came in: it says more and counts as full. Else prove '..UptoSaid'. A law counts once. -/
mutual
def uptoBulk {H : Type} : DataW H → Nat
  | .lit (.string bytes) => bytes.length + 1
  | .lit _ => 1
  | .nil => 1
  | .ptr d => uptoBulk d + 1
  | .slice elems spare => uptoBulkAll elems + uptoBulkAll spare + 1
  | .agg parts => uptoBulkAll parts + 1
  | .iface _ d => uptoBulk d + 1
  | .map entries => uptoBulkEntries entries + 1
  | .held _ => 1
def uptoBulkAll {H : Type} : List (DataW H) → Nat
  | [] => 0
  | d :: r => uptoBulk d + uptoBulkAll r
def uptoBulkEntries {H : Type} : List (Lit × DataW H) → Nat
  | [] => 0
  | x :: r => uptoBulkEntry x + uptoBulkEntries r
def uptoBulkEntry {H : Type} : Lit × DataW H → Nat
  | (.string bytes, d) => bytes.length + uptoBulk d + 1
  | (_, d) => uptoBulk d + 1
 end
def uptoSmall : (H : Type) → List (DataW H) → Bool := fun _ ds => decide (uptoBulkAll ds ≤ 1048576)
def OpenSpec.upto (s : _root_.Go.ChangeSpec) : _root_.Go.OpenSpec := { _root_.Go.OpenSpec.ofChange s with cond := some uptoSmall }

/-- 'laws.FnSumsOf', WHERE WHAT IT READS IS OF BULK AT MOST 1048576: true; the input reads as it did. -/
def fnSumsOfUptoRow : OpenClaim := { program := "ytkeeonjbkfgeeaa", sum := "cd8d11f0e68865c9b087eef4dbc6c708dff8df8dcb5b882bb88bdf2423a1d234", func := "loop.example/wateronheights/laws.FnSumsOf", spec := "fnSumsOf", unfollowed := true, recurses := true, apart := false, narrowed := true }
def FnSumsOfUptoSaid : Prop := fnSumsOfUptoRow.holds Try.pinned (OpenSpec.upto fnSumsOfSpec)

/-- 'laws.FnSumIn', WHERE WHAT IT READS IS OF BULK AT MOST 1048576: true; the input reads as it did. -/
def fnSumInUptoRow : OpenClaim := { program := "ytkeeonjbkfgeeaa", sum := "cd8d11f0e68865c9b087eef4dbc6c708dff8df8dcb5b882bb88bdf2423a1d234", func := "loop.example/wateronheights/laws.FnSumIn", spec := "fnSumIn", unfollowed := true, recurses := true, apart := false, narrowed := true }
def FnSumInUptoSaid : Prop := fnSumInUptoRow.holds Try.pinned (OpenSpec.upto fnSumInSpec)

/-- 'laws.FnGreatestPart', WHERE WHAT IT READS IS OF BULK AT MOST 1048576: true; the input reads as it did. -/
def fnGreatestPartUptoRow : OpenClaim := { program := "ytkeeonjbkfgeeaa", sum := "cd8d11f0e68865c9b087eef4dbc6c708dff8df8dcb5b882bb88bdf2423a1d234", func := "loop.example/wateronheights/laws.FnGreatestPart", spec := "fnGreatestPart", unfollowed := true, recurses := true, apart := false, narrowed := true }
def FnGreatestPartUptoSaid : Prop := fnGreatestPartUptoRow.holds Try.pinned (OpenSpec.upto fnGreatestPartSpec)

/-- 'laws.FnPyramidOf', WHERE WHAT IT READS IS OF BULK AT MOST 1048576: true; the input reads as it did. -/
def fnPyramidOfUptoRow : OpenClaim := { program := "ytkeeonjbkfgeeaa", sum := "cd8d11f0e68865c9b087eef4dbc6c708dff8df8dcb5b882bb88bdf2423a1d234", func := "loop.example/wateronheights/laws.FnPyramidOf", spec := "fnPyramidOf", unfollowed := true, recurses := true, apart := false, narrowed := true }
def FnPyramidOfUptoSaid : Prop := fnPyramidOfUptoRow.holds Try.pinned (OpenSpec.upto fnPyramidOfSpec)

/-- 'laws.FnPyramidsAreSums', WHERE WHAT IT READS IS OF BULK AT MOST 1048576: true; the input reads as it did. -/
def fnPyramidsAreSumsUptoRow : OpenClaim := { program := "ytkeeonjbkfgeeaa", sum := "cd8d11f0e68865c9b087eef4dbc6c708dff8df8dcb5b882bb88bdf2423a1d234", func := "loop.example/wateronheights/laws.FnPyramidsAreSums", spec := "fnPyramidsAreSums", unfollowed := true, recurses := true, apart := false, narrowed := true }
def FnPyramidsAreSumsUptoSaid : Prop := fnPyramidsAreSumsUptoRow.holds Try.pinned (OpenSpec.upto fnPyramidsAreSumsSpec)

/-- 'laws.FnExactSumsOf', WHERE WHAT IT READS IS OF BULK AT MOST 1048576: true; the input reads as it did. -/
def fnExactSumsOfUptoRow : OpenClaim := { program := "ytkeeonjbkfgeeaa", sum := "cd8d11f0e68865c9b087eef4dbc6c708dff8df8dcb5b882bb88bdf2423a1d234", func := "loop.example/wateronheights/laws.FnExactSumsOf", spec := "fnExactSumsOf", unfollowed := true, recurses := true, apart := false, narrowed := true }
def FnExactSumsOfUptoSaid : Prop := fnExactSumsOfUptoRow.holds Try.pinned (OpenSpec.upto fnExactSumsOfSpec)

/-- 'laws.FnExactSumIn', WHERE WHAT IT READS IS OF BULK AT MOST 1048576: true; the input reads as it did. -/
def fnExactSumInUptoRow : OpenClaim := { program := "ytkeeonjbkfgeeaa", sum := "cd8d11f0e68865c9b087eef4dbc6c708dff8df8dcb5b882bb88bdf2423a1d234", func := "loop.example/wateronheights/laws.FnExactSumIn", spec := "fnExactSumIn", unfollowed := true, recurses := true, apart := false, narrowed := true }
def FnExactSumInUptoSaid : Prop := fnExactSumInUptoRow.holds Try.pinned (OpenSpec.upto fnExactSumInSpec)

/-- 'laws.FnExactGreatestPart', WHERE WHAT IT READS IS OF BULK AT MOST 1048576: true; the input reads as it did. -/
def fnExactGreatestPartUptoRow : OpenClaim := { program := "ytkeeonjbkfgeeaa", sum := "cd8d11f0e68865c9b087eef4dbc6c708dff8df8dcb5b882bb88bdf2423a1d234", func := "loop.example/wateronheights/laws.FnExactGreatestPart", spec := "fnExactGreatestPart", unfollowed := true, recurses := true, apart := false, narrowed := true }
def FnExactGreatestPartUptoSaid : Prop := fnExactGreatestPartUptoRow.holds Try.pinned (OpenSpec.upto fnExactGreatestPartSpec)

/-- 'laws.FnExactPyramidOf', WHERE WHAT IT READS IS OF BULK AT MOST 1048576: true; the input reads as it did. -/
def fnExactPyramidOfUptoRow : OpenClaim := { program := "ytkeeonjbkfgeeaa", sum := "cd8d11f0e68865c9b087eef4dbc6c708dff8df8dcb5b882bb88bdf2423a1d234", func := "loop.example/wateronheights/laws.FnExactPyramidOf", spec := "fnExactPyramidOf", unfollowed := true, recurses := true, apart := false, narrowed := true }
def FnExactPyramidOfUptoSaid : Prop := fnExactPyramidOfUptoRow.holds Try.pinned (OpenSpec.upto fnExactPyramidOfSpec)

end Rows
end Go.Proofs.Ytkeeonjbkfgeeaa
