/-
  No cell of these rows narrows 'for every input' (looked for: loops, veiled, ifaces, maps, wideKeys, modest, calm, conditions, laid).
  DERIVED. THE GIVEN ROWS OF THIS SEAT. 10 by the template 'for every input the law returns true; each argument reads behind the call as it read before'; 0 by the template 'total and deterministic' (their statements: YthljmolkicfdaaaTotals.lean).
  GIVEN WITH THE SEED: the statements are not yours to turn. If you find one false, say at which input.
  Laid BY PROGRAM, IN A SANDBOX (cutbox-rows.mjs): the forced cells as the released guide's own fill.sh prints them over the translation 0f25774b8edb3623… (all of the seat's roots in one cut). By AI agents, Wed Nov 11 2026. No macro, syntax, notation, axiom, sorry.
-/
import Derived.Test.YthljmolkicfdaaaChecked
import GoSem.Claim
import GoSem.ClaimJoined
import GoSem.ClaimMapViews
import Derived.JoinedTies
import Derived.KernelRfl
namespace Go.Proofs.Ythljmolkicfdaaa
/- THE CELL 'sum', in the pinned program and in every row, IS THE sha256 OF THE DUMP (.gsa) THAT YthljmolkicfdaaaProg.lean LOADS. Nothing in Lean hashes anything: it is a label: what it is worth is what the hold of that sum in a sandbox is worth. -/
noncomputable def Try.pinned : Pinned := { name := "ythljmolkicfdaaa", sum := "0f25774b8edb36237b602b075838aed79962ce04f3fe78438fcb28eccb95ee43", checked := Try.checked }
namespace Rows
def none {H : Type} : Left H := { results := [], args := [] }

/-- 'laws.FnRoofOf': WHATEVER THE INPUT: true; the input reads as it did. -/
def fnRoofOfSpec : ChangeSpec := { name := "fnRoofOf", fn := fun _ => fun
  | [d] => { results := [.lit (.bool true)], args := [d] }
  | _ => none }
def fnRoofOfRow : OpenClaim := { program := "ythljmolkicfdaaa", sum := "0f25774b8edb36237b602b075838aed79962ce04f3fe78438fcb28eccb95ee43", func := "loop.example/wateronheights/laws.FnRoofOf", spec := "fnRoofOf", apart := false }
def FnRoofOfSaid : Prop := fnRoofOfRow.holds Try.pinned (OpenSpec.ofChange fnRoofOfSpec)

/-- ITS FALSE NEIGHBOUR: 'it returns false'. Refute it at one input. -/
def fnRoofOfWrong : ChangeSpec := { name := "fnRoofOf", fn := fun _ => fun
  | [d] => { results := [.lit (.bool false)], args := [d] }
  | _ => none }
def FnRoofOfWrongFalsely : Prop := fnRoofOfRow.holds Try.pinned (OpenSpec.ofChange fnRoofOfWrong)

/-- 'laws.FnFurthestOf': WHATEVER THE INPUT: true; the input reads as it did. -/
def fnFurthestOfSpec : ChangeSpec := { name := "fnFurthestOf", fn := fun _ => fun
  | [d] => { results := [.lit (.bool true)], args := [d] }
  | _ => none }
def fnFurthestOfRow : OpenClaim := { program := "ythljmolkicfdaaa", sum := "0f25774b8edb36237b602b075838aed79962ce04f3fe78438fcb28eccb95ee43", func := "loop.example/wateronheights/laws.FnFurthestOf", spec := "fnFurthestOf", apart := false }
def FnFurthestOfSaid : Prop := fnFurthestOfRow.holds Try.pinned (OpenSpec.ofChange fnFurthestOfSpec)

/-- ITS FALSE NEIGHBOUR: 'it returns false'. Refute it at one input. -/
def fnFurthestOfWrong : ChangeSpec := { name := "fnFurthestOf", fn := fun _ => fun
  | [d] => { results := [.lit (.bool false)], args := [d] }
  | _ => none }
def FnFurthestOfWrongFalsely : Prop := fnFurthestOfRow.holds Try.pinned (OpenSpec.ofChange fnFurthestOfWrong)

/-- 'laws.FnLitBy': WHATEVER THE INPUT: true; the input reads as it did. -/
def fnLitBySpec : ChangeSpec := { name := "fnLitBy", fn := fun _ => fun
  | [d] => { results := [.lit (.bool true)], args := [d] }
  | _ => none }
def fnLitByRow : OpenClaim := { program := "ythljmolkicfdaaa", sum := "0f25774b8edb36237b602b075838aed79962ce04f3fe78438fcb28eccb95ee43", func := "loop.example/wateronheights/laws.FnLitBy", spec := "fnLitBy", apart := false }
def FnLitBySaid : Prop := fnLitByRow.holds Try.pinned (OpenSpec.ofChange fnLitBySpec)

/-- ITS FALSE NEIGHBOUR: 'it returns false'. Refute it at one input. -/
def fnLitByWrong : ChangeSpec := { name := "fnLitBy", fn := fun _ => fun
  | [d] => { results := [.lit (.bool false)], args := [d] }
  | _ => none }
def FnLitByWrongFalsely : Prop := fnLitByRow.holds Try.pinned (OpenSpec.ofChange fnLitByWrong)

/-- 'laws.FnTiltsHideNothing': WHATEVER THE INPUT: true; the input reads as it did. -/
def fnTiltsHideNothingSpec : ChangeSpec := { name := "fnTiltsHideNothing", fn := fun _ => fun
  | [d] => { results := [.lit (.bool true)], args := [d] }
  | _ => none }
def fnTiltsHideNothingRow : OpenClaim := { program := "ythljmolkicfdaaa", sum := "0f25774b8edb36237b602b075838aed79962ce04f3fe78438fcb28eccb95ee43", func := "loop.example/wateronheights/laws.FnTiltsHideNothing", spec := "fnTiltsHideNothing", apart := false }
def FnTiltsHideNothingSaid : Prop := fnTiltsHideNothingRow.holds Try.pinned (OpenSpec.ofChange fnTiltsHideNothingSpec)

/-- ITS FALSE NEIGHBOUR: 'it returns false'. Refute it at one input. -/
def fnTiltsHideNothingWrong : ChangeSpec := { name := "fnTiltsHideNothing", fn := fun _ => fun
  | [d] => { results := [.lit (.bool false)], args := [d] }
  | _ => none }
def FnTiltsHideNothingWrongFalsely : Prop := fnTiltsHideNothingRow.holds Try.pinned (OpenSpec.ofChange fnTiltsHideNothingWrong)

/-- 'laws.FnRoofsSeeMost': WHATEVER THE INPUT: true; the input reads as it did. -/
def fnRoofsSeeMostSpec : ChangeSpec := { name := "fnRoofsSeeMost", fn := fun _ => fun
  | [d] => { results := [.lit (.bool true)], args := [d] }
  | _ => none }
def fnRoofsSeeMostRow : OpenClaim := { program := "ythljmolkicfdaaa", sum := "0f25774b8edb36237b602b075838aed79962ce04f3fe78438fcb28eccb95ee43", func := "loop.example/wateronheights/laws.FnRoofsSeeMost", spec := "fnRoofsSeeMost", apart := false }
def FnRoofsSeeMostSaid : Prop := fnRoofsSeeMostRow.holds Try.pinned (OpenSpec.ofChange fnRoofsSeeMostSpec)

/-- ITS FALSE NEIGHBOUR: 'it returns false'. Refute it at one input. -/
def fnRoofsSeeMostWrong : ChangeSpec := { name := "fnRoofsSeeMost", fn := fun _ => fun
  | [d] => { results := [.lit (.bool false)], args := [d] }
  | _ => none }
def FnRoofsSeeMostWrongFalsely : Prop := fnRoofsSeeMostRow.holds Try.pinned (OpenSpec.ofChange fnRoofsSeeMostWrong)

/-- 'laws.FnLitSeesOut': WHATEVER THE INPUT: true; the input reads as it did. -/
def fnLitSeesOutSpec : ChangeSpec := { name := "fnLitSeesOut", fn := fun _ => fun
  | [d] => { results := [.lit (.bool true)], args := [d] }
  | _ => none }
def fnLitSeesOutRow : OpenClaim := { program := "ythljmolkicfdaaa", sum := "0f25774b8edb36237b602b075838aed79962ce04f3fe78438fcb28eccb95ee43", func := "loop.example/wateronheights/laws.FnLitSeesOut", spec := "fnLitSeesOut", apart := false }
def FnLitSeesOutSaid : Prop := fnLitSeesOutRow.holds Try.pinned (OpenSpec.ofChange fnLitSeesOutSpec)

/-- ITS FALSE NEIGHBOUR: 'it returns false'. Refute it at one input. -/
def fnLitSeesOutWrong : ChangeSpec := { name := "fnLitSeesOut", fn := fun _ => fun
  | [d] => { results := [.lit (.bool false)], args := [d] }
  | _ => none }
def FnLitSeesOutWrongFalsely : Prop := fnLitSeesOutRow.holds Try.pinned (OpenSpec.ofChange fnLitSeesOutWrong)

/-- 'laws.FnExactSeenFrom': WHATEVER THE INPUT: true; the input reads as it did. -/
def fnExactSeenFromSpec : ChangeSpec := { name := "fnExactSeenFrom", fn := fun _ => fun
  | [d1, d2] => { results := [.lit (.bool true)], args := [d1, d2] }
  | _ => none }
def fnExactSeenFromRow : OpenClaim := { program := "ythljmolkicfdaaa", sum := "0f25774b8edb36237b602b075838aed79962ce04f3fe78438fcb28eccb95ee43", func := "loop.example/wateronheights/laws.FnExactSeenFrom", spec := "fnExactSeenFrom", apart := false }
def FnExactSeenFromSaid : Prop := fnExactSeenFromRow.holds Try.pinned (OpenSpec.ofChange fnExactSeenFromSpec)

/-- ITS FALSE NEIGHBOUR: 'it returns false'. Refute it at one input. -/
def fnExactSeenFromWrong : ChangeSpec := { name := "fnExactSeenFrom", fn := fun _ => fun
  | [d1, d2] => { results := [.lit (.bool false)], args := [d1, d2] }
  | _ => none }
def FnExactSeenFromWrongFalsely : Prop := fnExactSeenFromRow.holds Try.pinned (OpenSpec.ofChange fnExactSeenFromWrong)

/-- 'laws.FnExactRoofOf': WHATEVER THE INPUT: true; the input reads as it did. -/
def fnExactRoofOfSpec : ChangeSpec := { name := "fnExactRoofOf", fn := fun _ => fun
  | [d] => { results := [.lit (.bool true)], args := [d] }
  | _ => none }
def fnExactRoofOfRow : OpenClaim := { program := "ythljmolkicfdaaa", sum := "0f25774b8edb36237b602b075838aed79962ce04f3fe78438fcb28eccb95ee43", func := "loop.example/wateronheights/laws.FnExactRoofOf", spec := "fnExactRoofOf", apart := false }
def FnExactRoofOfSaid : Prop := fnExactRoofOfRow.holds Try.pinned (OpenSpec.ofChange fnExactRoofOfSpec)

/-- ITS FALSE NEIGHBOUR: 'it returns false'. Refute it at one input. -/
def fnExactRoofOfWrong : ChangeSpec := { name := "fnExactRoofOf", fn := fun _ => fun
  | [d] => { results := [.lit (.bool false)], args := [d] }
  | _ => none }
def FnExactRoofOfWrongFalsely : Prop := fnExactRoofOfRow.holds Try.pinned (OpenSpec.ofChange fnExactRoofOfWrong)

/-- 'laws.FnExactFurthestOf': WHATEVER THE INPUT: true; the input reads as it did. -/
def fnExactFurthestOfSpec : ChangeSpec := { name := "fnExactFurthestOf", fn := fun _ => fun
  | [d1, d2] => { results := [.lit (.bool true)], args := [d1, d2] }
  | _ => none }
def fnExactFurthestOfRow : OpenClaim := { program := "ythljmolkicfdaaa", sum := "0f25774b8edb36237b602b075838aed79962ce04f3fe78438fcb28eccb95ee43", func := "loop.example/wateronheights/laws.FnExactFurthestOf", spec := "fnExactFurthestOf", apart := false }
def FnExactFurthestOfSaid : Prop := fnExactFurthestOfRow.holds Try.pinned (OpenSpec.ofChange fnExactFurthestOfSpec)

/-- ITS FALSE NEIGHBOUR: 'it returns false'. Refute it at one input. -/
def fnExactFurthestOfWrong : ChangeSpec := { name := "fnExactFurthestOf", fn := fun _ => fun
  | [d1, d2] => { results := [.lit (.bool false)], args := [d1, d2] }
  | _ => none }
def FnExactFurthestOfWrongFalsely : Prop := fnExactFurthestOfRow.holds Try.pinned (OpenSpec.ofChange fnExactFurthestOfWrong)

/-- 'laws.FnExactLitBy': WHATEVER THE INPUT: true; the input reads as it did. -/
def fnExactLitBySpec : ChangeSpec := { name := "fnExactLitBy", fn := fun _ => fun
  | [d1, d2, d3] => { results := [.lit (.bool true)], args := [d1, d2, d3] }
  | _ => none }
def fnExactLitByRow : OpenClaim := { program := "ythljmolkicfdaaa", sum := "0f25774b8edb36237b602b075838aed79962ce04f3fe78438fcb28eccb95ee43", func := "loop.example/wateronheights/laws.FnExactLitBy", spec := "fnExactLitBy", apart := false }
def FnExactLitBySaid : Prop := fnExactLitByRow.holds Try.pinned (OpenSpec.ofChange fnExactLitBySpec)

/-- ITS FALSE NEIGHBOUR: 'it returns false'. Refute it at one input. -/
def fnExactLitByWrong : ChangeSpec := { name := "fnExactLitBy", fn := fun _ => fun
  | [d1, d2, d3] => { results := [.lit (.bool false)], args := [d1, d2, d3] }
  | _ => none }
def FnExactLitByWrongFalsely : Prop := fnExactLitByRow.holds Try.pinned (OpenSpec.ofChange fnExactLitByWrong)

/- THE SECOND FORM. 'bulk': how many values and letters a reading holds, each counted each time it is reached (what is shared counts as often as it is met; a slice's spare places count too). A statement '..UptoSaid' is the law's where the arguments, and the package variables that the reading takes, are together of bulk at most 1048576: NARROWER than '..Said'. Prove '..Said' where nothing that the law and all that it calls make is longer than what came in: it says more and counts as full. Else prove '..UptoSaid'. A law counts once. -/
mutual
def uptoBulk {H : Type} : DataW H → Nat
  | .lit (.string bytes) => bytes.length + 1
  | .lit _ => 1
  | .nil => 1
  | .ptr d => uptoBulk d + 1
  | .slice elems spare => uptoBulkAll elems + uptoBulkAll spare + 1
  | .agg parts => uptoBulkAll parts + 1
  | .iface _ d => uptoBulk d + 1
  | .map entries => uptoBulkEntries entries + 1
  | .held _ => 1
def uptoBulkAll {H : Type} : List (DataW H) → Nat
  | [] => 0
  | d :: r => uptoBulk d + uptoBulkAll r
def uptoBulkEntries {H : Type} : List (Lit × DataW H) → Nat
  | [] => 0
  | x :: r => uptoBulkEntry x + uptoBulkEntries r
def uptoBulkEntry {H : Type} : Lit × DataW H → Nat
  | (.string bytes, d) => bytes.length + uptoBulk d + 1
  | (_, d) => uptoBulk d + 1
 end
def uptoSmall : (H : Type) → List (DataW H) → Bool := fun _ ds => decide (uptoBulkAll ds ≤ 1048576)
def OpenSpec.upto (s : _root_.Go.ChangeSpec) : _root_.Go.OpenSpec := { _root_.Go.OpenSpec.ofChange s with cond := some uptoSmall }

/-- 'laws.FnRoofOf', WHERE WHAT IT READS IS OF BULK AT MOST 1048576: true; the input reads as it did. -/
def fnRoofOfUptoRow : OpenClaim := { program := "ythljmolkicfdaaa", sum := "0f25774b8edb36237b602b075838aed79962ce04f3fe78438fcb28eccb95ee43", func := "loop.example/wateronheights/laws.FnRoofOf", spec := "fnRoofOf", apart := false, narrowed := true }
def FnRoofOfUptoSaid : Prop := fnRoofOfUptoRow.holds Try.pinned (OpenSpec.upto fnRoofOfSpec)

/-- 'laws.FnFurthestOf', WHERE WHAT IT READS IS OF BULK AT MOST 1048576: true; the input reads as it did. -/
def fnFurthestOfUptoRow : OpenClaim := { program := "ythljmolkicfdaaa", sum := "0f25774b8edb36237b602b075838aed79962ce04f3fe78438fcb28eccb95ee43", func := "loop.example/wateronheights/laws.FnFurthestOf", spec := "fnFurthestOf", apart := false, narrowed := true }
def FnFurthestOfUptoSaid : Prop := fnFurthestOfUptoRow.holds Try.pinned (OpenSpec.upto fnFurthestOfSpec)

/-- 'laws.FnLitBy', WHERE WHAT IT READS IS OF BULK AT MOST 1048576: true; the input reads as it did. -/
def fnLitByUptoRow : OpenClaim := { program := "ythljmolkicfdaaa", sum := "0f25774b8edb36237b602b075838aed79962ce04f3fe78438fcb28eccb95ee43", func := "loop.example/wateronheights/laws.FnLitBy", spec := "fnLitBy", apart := false, narrowed := true }
def FnLitByUptoSaid : Prop := fnLitByUptoRow.holds Try.pinned (OpenSpec.upto fnLitBySpec)

/-- 'laws.FnTiltsHideNothing', WHERE WHAT IT READS IS OF BULK AT MOST 1048576: true; the input reads as it did. -/
def fnTiltsHideNothingUptoRow : OpenClaim := { program := "ythljmolkicfdaaa", sum := "0f25774b8edb36237b602b075838aed79962ce04f3fe78438fcb28eccb95ee43", func := "loop.example/wateronheights/laws.FnTiltsHideNothing", spec := "fnTiltsHideNothing", apart := false, narrowed := true }
def FnTiltsHideNothingUptoSaid : Prop := fnTiltsHideNothingUptoRow.holds Try.pinned (OpenSpec.upto fnTiltsHideNothingSpec)

/-- 'laws.FnRoofsSeeMost', WHERE WHAT IT READS IS OF BULK AT MOST 1048576: true; the input reads as it did. -/
def fnRoofsSeeMostUptoRow : OpenClaim := { program := "ythljmolkicfdaaa", sum := "0f25774b8edb36237b602b075838aed79962ce04f3fe78438fcb28eccb95ee43", func := "loop.example/wateronheights/laws.FnRoofsSeeMost", spec := "fnRoofsSeeMost", apart := false, narrowed := true }
def FnRoofsSeeMostUptoSaid : Prop := fnRoofsSeeMostUptoRow.holds Try.pinned (OpenSpec.upto fnRoofsSeeMostSpec)

/-- 'laws.FnLitSeesOut', WHERE WHAT IT READS IS OF BULK AT MOST 1048576: true; the input reads as it did. -/
def fnLitSeesOutUptoRow : OpenClaim := { program := "ythljmolkicfdaaa", sum := "0f25774b8edb36237b602b075838aed79962ce04f3fe78438fcb28eccb95ee43", func := "loop.example/wateronheights/laws.FnLitSeesOut", spec := "fnLitSeesOut", apart := false, narrowed := true }
def FnLitSeesOutUptoSaid : Prop := fnLitSeesOutUptoRow.holds Try.pinned (OpenSpec.upto fnLitSeesOutSpec)

/-- 'laws.FnExactSeenFrom', WHERE WHAT IT READS IS OF BULK AT MOST 1048576: true; the input reads as it did. -/
def fnExactSeenFromUptoRow : OpenClaim := { program := "ythljmolkicfdaaa", sum := "0f25774b8edb36237b602b075838aed79962ce04f3fe78438fcb28eccb95ee43", func := "loop.example/wateronheights/laws.FnExactSeenFrom", spec := "fnExactSeenFrom", apart := false, narrowed := true }
def FnExactSeenFromUptoSaid : Prop := fnExactSeenFromUptoRow.holds Try.pinned (OpenSpec.upto fnExactSeenFromSpec)

/-- 'laws.FnExactRoofOf', WHERE WHAT IT READS IS OF BULK AT MOST 1048576: true; the input reads as it did. -/
def fnExactRoofOfUptoRow : OpenClaim := { program := "ythljmolkicfdaaa", sum := "0f25774b8edb36237b602b075838aed79962ce04f3fe78438fcb28eccb95ee43", func := "loop.example/wateronheights/laws.FnExactRoofOf", spec := "fnExactRoofOf", apart := false, narrowed := true }
def FnExactRoofOfUptoSaid : Prop := fnExactRoofOfUptoRow.holds Try.pinned (OpenSpec.upto fnExactRoofOfSpec)

/-- 'laws.FnExactFurthestOf', WHERE WHAT IT READS IS OF BULK AT MOST 1048576: true; the input reads as it did. -/
def fnExactFurthestOfUptoRow : OpenClaim := { program := "ythljmolkicfdaaa", sum := "0f25774b8edb36237b602b075838aed79962ce04f3fe78438fcb28eccb95ee43", func := "loop.example/wateronheights/laws.FnExactFurthestOf", spec := "fnExactFurthestOf", apart := false, narrowed := true }
def FnExactFurthestOfUptoSaid : Prop := fnExactFurthestOfUptoRow.holds Try.pinned (OpenSpec.upto fnExactFurthestOfSpec)

/-- 'laws.FnExactLitBy', WHERE WHAT IT READS IS OF BULK AT MOST 1048576: true; the input reads as it did. -/
def fnExactLitByUptoRow : OpenClaim := { program := "ythljmolkicfdaaa", sum := "0f25774b8edb36237b602b075838aed79962ce04f3fe78438fcb28eccb95ee43", func := "loop.example/wateronheights/laws.FnExactLitBy", spec := "fnExactLitBy", apart := false, narrowed := true }
def FnExactLitByUptoSaid : Prop := fnExactLitByUptoRow.holds Try.pinned (OpenSpec.upto fnExactLitBySpec)

end Rows
end Go.Proofs.Ythljmolkicfdaaa
