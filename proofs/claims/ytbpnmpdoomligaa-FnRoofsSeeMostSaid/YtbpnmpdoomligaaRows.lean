/-
  No cell of these rows narrows 'for every input' (looked for: loops, veiled, ifaces, maps, wideKeys, modest, calm, conditions, laid).
  DERIVED. THE GIVEN ROWS OF THIS SEAT. 7 by the template 'for every input the law returns true; each argument reads behind the call as it read before'; 0 by the template 'total and deterministic' (their statements: YtbpnmpdoomligaaTotals.lean).
  GIVEN WITH THE SEED: the statements are not yours to turn. If you find one false, say at which input.
  Laid BY PROGRAM, IN A SANDBOX (cutbox-rows.mjs): the forced cells as the released guide's own fill.sh prints them over the translation 1af9457948bccad7… (all of the seat's roots in one cut). By AI agents, Wed Nov 11 2026. No macro, syntax, notation, axiom, sorry.
-/
import Derived.Test.YtbpnmpdoomligaaChecked
import GoSem.Claim
import GoSem.ClaimJoined
import GoSem.ClaimMapViews
import Derived.JoinedTies
import Derived.KernelRfl
namespace Go.Proofs.Ytbpnmpdoomligaa
/- THE CELL 'sum', in the pinned program and in every row, IS THE sha256 OF THE DUMP (.gsa) THAT YtbpnmpdoomligaaProg.lean LOADS. Nothing in Lean hashes anything: it is a label: what it is worth is what the hold of that sum in a sandbox is worth. -/
noncomputable def Try.pinned : Pinned := { name := "ytbpnmpdoomligaa", sum := "1af9457948bccad70351d59bb108afe67ae9366f159e5c9c4aed08d479dc76b2", checked := Try.checked }
namespace Rows
def none {H : Type} : Left H := { results := [], args := [] }

/-- 'laws.FnValidProfile': WHATEVER THE INPUT: true; the input reads as it did. -/
def fnValidProfileSpec : ChangeSpec := { name := "fnValidProfile", fn := fun _ => fun
  | [d] => { results := [.lit (.bool true)], args := [d] }
  | _ => none }
def fnValidProfileRow : OpenClaim := { program := "ytbpnmpdoomligaa", sum := "1af9457948bccad70351d59bb108afe67ae9366f159e5c9c4aed08d479dc76b2", func := "loop.example/wateronheights/laws.FnValidProfile", spec := "fnValidProfile", apart := false }
def FnValidProfileSaid : Prop := fnValidProfileRow.holds Try.pinned (OpenSpec.ofChange fnValidProfileSpec)

/-- ITS FALSE NEIGHBOUR: 'it returns false'. Refute it at one input. -/
def fnValidProfileWrong : ChangeSpec := { name := "fnValidProfile", fn := fun _ => fun
  | [d] => { results := [.lit (.bool false)], args := [d] }
  | _ => none }
def FnValidProfileWrongFalsely : Prop := fnValidProfileRow.holds Try.pinned (OpenSpec.ofChange fnValidProfileWrong)

/-- 'laws.FnSeenFrom': WHATEVER THE INPUT: true; the input reads as it did. -/
def fnSeenFromSpec : ChangeSpec := { name := "fnSeenFrom", fn := fun _ => fun
  | [d] => { results := [.lit (.bool true)], args := [d] }
  | _ => none }
def fnSeenFromRow : OpenClaim := { program := "ytbpnmpdoomligaa", sum := "1af9457948bccad70351d59bb108afe67ae9366f159e5c9c4aed08d479dc76b2", func := "loop.example/wateronheights/laws.FnSeenFrom", spec := "fnSeenFrom", apart := false }
def FnSeenFromSaid : Prop := fnSeenFromRow.holds Try.pinned (OpenSpec.ofChange fnSeenFromSpec)

/-- ITS FALSE NEIGHBOUR: 'it returns false'. Refute it at one input. -/
def fnSeenFromWrong : ChangeSpec := { name := "fnSeenFrom", fn := fun _ => fun
  | [d] => { results := [.lit (.bool false)], args := [d] }
  | _ => none }
def FnSeenFromWrongFalsely : Prop := fnSeenFromRow.holds Try.pinned (OpenSpec.ofChange fnSeenFromWrong)

/-- 'laws.FnRoofOf': WHATEVER THE INPUT: true; the input reads as it did. -/
def fnRoofOfSpec : ChangeSpec := { name := "fnRoofOf", fn := fun _ => fun
  | [d] => { results := [.lit (.bool true)], args := [d] }
  | _ => none }
def fnRoofOfRow : OpenClaim := { program := "ytbpnmpdoomligaa", sum := "1af9457948bccad70351d59bb108afe67ae9366f159e5c9c4aed08d479dc76b2", func := "loop.example/wateronheights/laws.FnRoofOf", spec := "fnRoofOf", apart := false }
def FnRoofOfSaid : Prop := fnRoofOfRow.holds Try.pinned (OpenSpec.ofChange fnRoofOfSpec)

/-- ITS FALSE NEIGHBOUR: 'it returns false'. Refute it at one input. -/
def fnRoofOfWrong : ChangeSpec := { name := "fnRoofOf", fn := fun _ => fun
  | [d] => { results := [.lit (.bool false)], args := [d] }
  | _ => none }
def FnRoofOfWrongFalsely : Prop := fnRoofOfRow.holds Try.pinned (OpenSpec.ofChange fnRoofOfWrong)

/-- 'laws.FnFurthestOf': WHATEVER THE INPUT: true; the input reads as it did. -/
def fnFurthestOfSpec : ChangeSpec := { name := "fnFurthestOf", fn := fun _ => fun
  | [d] => { results := [.lit (.bool true)], args := [d] }
  | _ => none }
def fnFurthestOfRow : OpenClaim := { program := "ytbpnmpdoomligaa", sum := "1af9457948bccad70351d59bb108afe67ae9366f159e5c9c4aed08d479dc76b2", func := "loop.example/wateronheights/laws.FnFurthestOf", spec := "fnFurthestOf", apart := false }
def FnFurthestOfSaid : Prop := fnFurthestOfRow.holds Try.pinned (OpenSpec.ofChange fnFurthestOfSpec)

/-- ITS FALSE NEIGHBOUR: 'it returns false'. Refute it at one input. -/
def fnFurthestOfWrong : ChangeSpec := { name := "fnFurthestOf", fn := fun _ => fun
  | [d] => { results := [.lit (.bool false)], args := [d] }
  | _ => none }
def FnFurthestOfWrongFalsely : Prop := fnFurthestOfRow.holds Try.pinned (OpenSpec.ofChange fnFurthestOfWrong)

/-- 'laws.FnLitBy': WHATEVER THE INPUT: true; the input reads as it did. -/
def fnLitBySpec : ChangeSpec := { name := "fnLitBy", fn := fun _ => fun
  | [d] => { results := [.lit (.bool true)], args := [d] }
  | _ => none }
def fnLitByRow : OpenClaim := { program := "ytbpnmpdoomligaa", sum := "1af9457948bccad70351d59bb108afe67ae9366f159e5c9c4aed08d479dc76b2", func := "loop.example/wateronheights/laws.FnLitBy", spec := "fnLitBy", apart := false }
def FnLitBySaid : Prop := fnLitByRow.holds Try.pinned (OpenSpec.ofChange fnLitBySpec)

/-- ITS FALSE NEIGHBOUR: 'it returns false'. Refute it at one input. -/
def fnLitByWrong : ChangeSpec := { name := "fnLitBy", fn := fun _ => fun
  | [d] => { results := [.lit (.bool false)], args := [d] }
  | _ => none }
def FnLitByWrongFalsely : Prop := fnLitByRow.holds Try.pinned (OpenSpec.ofChange fnLitByWrong)

/-- 'laws.FnTiltsHideNothing': WHATEVER THE INPUT: true; the input reads as it did. -/
def fnTiltsHideNothingSpec : ChangeSpec := { name := "fnTiltsHideNothing", fn := fun _ => fun
  | [d] => { results := [.lit (.bool true)], args := [d] }
  | _ => none }
def fnTiltsHideNothingRow : OpenClaim := { program := "ytbpnmpdoomligaa", sum := "1af9457948bccad70351d59bb108afe67ae9366f159e5c9c4aed08d479dc76b2", func := "loop.example/wateronheights/laws.FnTiltsHideNothing", spec := "fnTiltsHideNothing", apart := false }
def FnTiltsHideNothingSaid : Prop := fnTiltsHideNothingRow.holds Try.pinned (OpenSpec.ofChange fnTiltsHideNothingSpec)

/-- ITS FALSE NEIGHBOUR: 'it returns false'. Refute it at one input. -/
def fnTiltsHideNothingWrong : ChangeSpec := { name := "fnTiltsHideNothing", fn := fun _ => fun
  | [d] => { results := [.lit (.bool false)], args := [d] }
  | _ => none }
def FnTiltsHideNothingWrongFalsely : Prop := fnTiltsHideNothingRow.holds Try.pinned (OpenSpec.ofChange fnTiltsHideNothingWrong)

/-- 'laws.FnRoofsSeeMost': WHATEVER THE INPUT: true; the input reads as it did. -/
def fnRoofsSeeMostSpec : ChangeSpec := { name := "fnRoofsSeeMost", fn := fun _ => fun
  | [d] => { results := [.lit (.bool true)], args := [d] }
  | _ => none }
def fnRoofsSeeMostRow : OpenClaim := { program := "ytbpnmpdoomligaa", sum := "1af9457948bccad70351d59bb108afe67ae9366f159e5c9c4aed08d479dc76b2", func := "loop.example/wateronheights/laws.FnRoofsSeeMost", spec := "fnRoofsSeeMost", apart := false }
def FnRoofsSeeMostSaid : Prop := fnRoofsSeeMostRow.holds Try.pinned (OpenSpec.ofChange fnRoofsSeeMostSpec)

/-- ITS FALSE NEIGHBOUR: 'it returns false'. Refute it at one input. -/
def fnRoofsSeeMostWrong : ChangeSpec := { name := "fnRoofsSeeMost", fn := fun _ => fun
  | [d] => { results := [.lit (.bool false)], args := [d] }
  | _ => none }
def FnRoofsSeeMostWrongFalsely : Prop := fnRoofsSeeMostRow.holds Try.pinned (OpenSpec.ofChange fnRoofsSeeMostWrong)

/- THE SECOND FORM. 'bulk': how many values and letters a reading holds, each counted each time it is reached (what is shared counts as often as it is met; a slice's spare places count too). A statement '..UptoSaid' is the law's where the arguments, and the package variables that the reading takes, are together of bulk at most 1048576: NARROWER than '..Said'. Prove '..Said' where nothing that the law and all that it calls make is longer than what came in: it says more and counts as full. Else prove '..UptoSaid'. A law counts once. -/
mutual
def uptoBulk {H : Type} : DataW H → Nat
  | .lit (.string bytes) => bytes.length + 1
  | .lit _ => 1
  | .nil => 1
  | .ptr d => uptoBulk d + 1
  | .slice elems spare => uptoBulkAll elems + uptoBulkAll spare + 1
  | .agg parts => uptoBulkAll parts + 1
  | .iface _ d => uptoBulk d + 1
  | .map entries => uptoBulkEntries entries + 1
  | .held _ => 1
def uptoBulkAll {H : Type} : List (DataW H) → Nat
  | [] => 0
  | d :: r => uptoBulk d + uptoBulkAll r
def uptoBulkEntries {H : Type} : List (Lit × DataW H) → Nat
  | [] => 0
  | x :: r => uptoBulkEntry x + uptoBulkEntries r
def uptoBulkEntry {H : Type} : Lit × DataW H → Nat
  | (.string bytes, d) => bytes.length + uptoBulk d + 1
  | (_, d) => uptoBulk d + 1
 end
def uptoSmall : (H : Type) → List (DataW H) → Bool := fun _ ds => decide (uptoBulkAll ds ≤ 1048576)
def OpenSpec.upto (s : _root_.Go.ChangeSpec) : _root_.Go.OpenSpec := { _root_.Go.OpenSpec.ofChange s with cond := some uptoSmall }

/-- 'laws.FnValidProfile', WHERE WHAT IT READS IS OF BULK AT MOST 1048576: true; the input reads as it did. -/
def fnValidProfileUptoRow : OpenClaim := { program := "ytbpnmpdoomligaa", sum := "1af9457948bccad70351d59bb108afe67ae9366f159e5c9c4aed08d479dc76b2", func := "loop.example/wateronheights/laws.FnValidProfile", spec := "fnValidProfile", apart := false, narrowed := true }
def FnValidProfileUptoSaid : Prop := fnValidProfileUptoRow.holds Try.pinned (OpenSpec.upto fnValidProfileSpec)

/-- 'laws.FnSeenFrom', WHERE WHAT IT READS IS OF BULK AT MOST 1048576: true; the input reads as it did. -/
def fnSeenFromUptoRow : OpenClaim := { program := "ytbpnmpdoomligaa", sum := "1af9457948bccad70351d59bb108afe67ae9366f159e5c9c4aed08d479dc76b2", func := "loop.example/wateronheights/laws.FnSeenFrom", spec := "fnSeenFrom", apart := false, narrowed := true }
def FnSeenFromUptoSaid : Prop := fnSeenFromUptoRow.holds Try.pinned (OpenSpec.upto fnSeenFromSpec)

/-- 'laws.FnRoofOf', WHERE WHAT IT READS IS OF BULK AT MOST 1048576: true; the input reads as it did. -/
def fnRoofOfUptoRow : OpenClaim := { program := "ytbpnmpdoomligaa", sum := "1af9457948bccad70351d59bb108afe67ae9366f159e5c9c4aed08d479dc76b2", func := "loop.example/wateronheights/laws.FnRoofOf", spec := "fnRoofOf", apart := false, narrowed := true }
def FnRoofOfUptoSaid : Prop := fnRoofOfUptoRow.holds Try.pinned (OpenSpec.upto fnRoofOfSpec)

/-- 'laws.FnFurthestOf', WHERE WHAT IT READS IS OF BULK AT MOST 1048576: true; the input reads as it did. -/
def fnFurthestOfUptoRow : OpenClaim := { program := "ytbpnmpdoomligaa", sum := "1af9457948bccad70351d59bb108afe67ae9366f159e5c9c4aed08d479dc76b2", func := "loop.example/wateronheights/laws.FnFurthestOf", spec := "fnFurthestOf", apart := false, narrowed := true }
def FnFurthestOfUptoSaid : Prop := fnFurthestOfUptoRow.holds Try.pinned (OpenSpec.upto fnFurthestOfSpec)

/-- 'laws.FnLitBy', WHERE WHAT IT READS IS OF BULK AT MOST 1048576: true; the input reads as it did. -/
def fnLitByUptoRow : OpenClaim := { program := "ytbpnmpdoomligaa", sum := "1af9457948bccad70351d59bb108afe67ae9366f159e5c9c4aed08d479dc76b2", func := "loop.example/wateronheights/laws.FnLitBy", spec := "fnLitBy", apart := false, narrowed := true }
def FnLitByUptoSaid : Prop := fnLitByUptoRow.holds Try.pinned (OpenSpec.upto fnLitBySpec)

/-- 'laws.FnTiltsHideNothing', WHERE WHAT IT READS IS OF BULK AT MOST 1048576: true; the input reads as it did. -/
def fnTiltsHideNothingUptoRow : OpenClaim := { program := "ytbpnmpdoomligaa", sum := "1af9457948bccad70351d59bb108afe67ae9366f159e5c9c4aed08d479dc76b2", func := "loop.example/wateronheights/laws.FnTiltsHideNothing", spec := "fnTiltsHideNothing", apart := false, narrowed := true }
def FnTiltsHideNothingUptoSaid : Prop := fnTiltsHideNothingUptoRow.holds Try.pinned (OpenSpec.upto fnTiltsHideNothingSpec)

/-- 'laws.FnRoofsSeeMost', WHERE WHAT IT READS IS OF BULK AT MOST 1048576: true; the input reads as it did. -/
def fnRoofsSeeMostUptoRow : OpenClaim := { program := "ytbpnmpdoomligaa", sum := "1af9457948bccad70351d59bb108afe67ae9366f159e5c9c4aed08d479dc76b2", func := "loop.example/wateronheights/laws.FnRoofsSeeMost", spec := "fnRoofsSeeMost", apart := false, narrowed := true }
def FnRoofsSeeMostUptoSaid : Prop := fnRoofsSeeMostUptoRow.holds Try.pinned (OpenSpec.upto fnRoofsSeeMostSpec)

end Rows
end Go.Proofs.Ytbpnmpdoomligaa
