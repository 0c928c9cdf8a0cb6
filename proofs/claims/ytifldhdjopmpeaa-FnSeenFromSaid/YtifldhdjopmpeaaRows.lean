/-
  No cell of these rows narrows 'for every input' (looked for: loops, veiled, ifaces, maps, wideKeys, modest, calm, conditions, laid).
  DERIVED. THE GIVEN ROWS OF THIS SEAT. 10 by the template 'for every input the law returns true; each argument reads behind the call as it read before'; 0 by the template 'total and deterministic' (their statements: YtifldhdjopmpeaaTotals.lean).
  GIVEN WITH THE SEED: the statements are not yours to turn. If you find one false, say at which input.
  Laid BY PROGRAM, IN A SANDBOX (cutbox-rows.mjs): the forced cells as the released guide's own fill.sh prints them over the translation 3a07375eadf3bfbc… (all of the seat's roots in one cut). By AI agents, Wed Nov 11 2026. No macro, syntax, notation, axiom, sorry.
-/
import Derived.Test.YtifldhdjopmpeaaChecked
import GoSem.Claim
import GoSem.ClaimJoined
import GoSem.ClaimMapViews
import Derived.JoinedTies
import Derived.KernelRfl
namespace Go.Proofs.Ytifldhdjopmpeaa
/- THE CELL 'sum', in the pinned program and in every row, IS THE sha256 OF THE DUMP (.gsa) THAT YtifldhdjopmpeaaProg.lean LOADS. Nothing in Lean hashes anything: it is a label: what it is worth is what the hold of that sum in a sandbox is worth. -/
noncomputable def Try.pinned : Pinned := { name := "ytifldhdjopmpeaa", sum := "3a07375eadf3bfbcac36671091a70208a4f81c5dd30262a8b69e3e9a68108cc8", checked := Try.checked }
namespace Rows
def none {H : Type} : Left H := { results := [], args := [] }

/-- 'laws.FnValidGrid': WHATEVER THE INPUT: true; the input reads as it did. -/
def fnValidGridSpec : ChangeSpec := { name := "fnValidGrid", fn := fun _ => fun
  | [d] => { results := [.lit (.bool true)], args := [d] }
  | _ => none }
def fnValidGridRow : OpenClaim := { program := "ytifldhdjopmpeaa", sum := "3a07375eadf3bfbcac36671091a70208a4f81c5dd30262a8b69e3e9a68108cc8", func := "loop.example/wateronheights/laws.FnValidGrid", spec := "fnValidGrid", apart := false }
def FnValidGridSaid : Prop := fnValidGridRow.holds Try.pinned (OpenSpec.ofChange fnValidGridSpec)

/-- ITS FALSE NEIGHBOUR: 'it returns false'. Refute it at one input. -/
def fnValidGridWrong : ChangeSpec := { name := "fnValidGrid", fn := fun _ => fun
  | [d] => { results := [.lit (.bool false)], args := [d] }
  | _ => none }
def FnValidGridWrongFalsely : Prop := fnValidGridRow.holds Try.pinned (OpenSpec.ofChange fnValidGridWrong)

/-- 'laws.FnCountsAt': WHATEVER THE INPUT: true; the input reads as it did. -/
def fnCountsAtSpec : ChangeSpec := { name := "fnCountsAt", fn := fun _ => fun
  | [d] => { results := [.lit (.bool true)], args := [d] }
  | _ => none }
def fnCountsAtRow : OpenClaim := { program := "ytifldhdjopmpeaa", sum := "3a07375eadf3bfbcac36671091a70208a4f81c5dd30262a8b69e3e9a68108cc8", func := "loop.example/wateronheights/laws.FnCountsAt", spec := "fnCountsAt", apart := false }
def FnCountsAtSaid : Prop := fnCountsAtRow.holds Try.pinned (OpenSpec.ofChange fnCountsAtSpec)

/-- ITS FALSE NEIGHBOUR: 'it returns false'. Refute it at one input. -/
def fnCountsAtWrong : ChangeSpec := { name := "fnCountsAt", fn := fun _ => fun
  | [d] => { results := [.lit (.bool false)], args := [d] }
  | _ => none }
def FnCountsAtWrongFalsely : Prop := fnCountsAtRow.holds Try.pinned (OpenSpec.ofChange fnCountsAtWrong)

/-- 'laws.FnAreaAt': WHATEVER THE INPUT: true; the input reads as it did. -/
def fnAreaAtSpec : ChangeSpec := { name := "fnAreaAt", fn := fun _ => fun
  | [d] => { results := [.lit (.bool true)], args := [d] }
  | _ => none }
def fnAreaAtRow : OpenClaim := { program := "ytifldhdjopmpeaa", sum := "3a07375eadf3bfbcac36671091a70208a4f81c5dd30262a8b69e3e9a68108cc8", func := "loop.example/wateronheights/laws.FnAreaAt", spec := "fnAreaAt", unfollowed := true, recurses := true, apart := false }
def FnAreaAtSaid : Prop := fnAreaAtRow.holds Try.pinned (OpenSpec.ofChange fnAreaAtSpec)

/-- ITS FALSE NEIGHBOUR: 'it returns false'. Refute it at one input. -/
def fnAreaAtWrong : ChangeSpec := { name := "fnAreaAt", fn := fun _ => fun
  | [d] => { results := [.lit (.bool false)], args := [d] }
  | _ => none }
def FnAreaAtWrongFalsely : Prop := fnAreaAtRow.holds Try.pinned (OpenSpec.ofChange fnAreaAtWrong)

/-- 'laws.FnCountsOfAll': WHATEVER THE INPUT: true; the input reads as it did. -/
def fnCountsOfAllSpec : ChangeSpec := { name := "fnCountsOfAll", fn := fun _ => fun
  | [d] => { results := [.lit (.bool true)], args := [d] }
  | _ => none }
def fnCountsOfAllRow : OpenClaim := { program := "ytifldhdjopmpeaa", sum := "3a07375eadf3bfbcac36671091a70208a4f81c5dd30262a8b69e3e9a68108cc8", func := "loop.example/wateronheights/laws.FnCountsOfAll", spec := "fnCountsOfAll", apart := false }
def FnCountsOfAllSaid : Prop := fnCountsOfAllRow.holds Try.pinned (OpenSpec.ofChange fnCountsOfAllSpec)

/-- ITS FALSE NEIGHBOUR: 'it returns false'. Refute it at one input. -/
def fnCountsOfAllWrong : ChangeSpec := { name := "fnCountsOfAll", fn := fun _ => fun
  | [d] => { results := [.lit (.bool false)], args := [d] }
  | _ => none }
def FnCountsOfAllWrongFalsely : Prop := fnCountsOfAllRow.holds Try.pinned (OpenSpec.ofChange fnCountsOfAllWrong)

/-- 'laws.FnExactValidGrid': WHATEVER THE INPUT: true; the input reads as it did. -/
def fnExactValidGridSpec : ChangeSpec := { name := "fnExactValidGrid", fn := fun _ => fun
  | [d] => { results := [.lit (.bool true)], args := [d] }
  | _ => none }
def fnExactValidGridRow : OpenClaim := { program := "ytifldhdjopmpeaa", sum := "3a07375eadf3bfbcac36671091a70208a4f81c5dd30262a8b69e3e9a68108cc8", func := "loop.example/wateronheights/laws.FnExactValidGrid", spec := "fnExactValidGrid", apart := false }
def FnExactValidGridSaid : Prop := fnExactValidGridRow.holds Try.pinned (OpenSpec.ofChange fnExactValidGridSpec)

/-- ITS FALSE NEIGHBOUR: 'it returns false'. Refute it at one input. -/
def fnExactValidGridWrong : ChangeSpec := { name := "fnExactValidGrid", fn := fun _ => fun
  | [d] => { results := [.lit (.bool false)], args := [d] }
  | _ => none }
def FnExactValidGridWrongFalsely : Prop := fnExactValidGridRow.holds Try.pinned (OpenSpec.ofChange fnExactValidGridWrong)

/-- 'laws.FnExactCountsAt': WHATEVER THE INPUT: true; the input reads as it did. -/
def fnExactCountsAtSpec : ChangeSpec := { name := "fnExactCountsAt", fn := fun _ => fun
  | [d1, d2] => { results := [.lit (.bool true)], args := [d1, d2] }
  | _ => none }
def fnExactCountsAtRow : OpenClaim := { program := "ytifldhdjopmpeaa", sum := "3a07375eadf3bfbcac36671091a70208a4f81c5dd30262a8b69e3e9a68108cc8", func := "loop.example/wateronheights/laws.FnExactCountsAt", spec := "fnExactCountsAt", apart := false }
def FnExactCountsAtSaid : Prop := fnExactCountsAtRow.holds Try.pinned (OpenSpec.ofChange fnExactCountsAtSpec)

/-- ITS FALSE NEIGHBOUR: 'it returns false'. Refute it at one input. -/
def fnExactCountsAtWrong : ChangeSpec := { name := "fnExactCountsAt", fn := fun _ => fun
  | [d1, d2] => { results := [.lit (.bool false)], args := [d1, d2] }
  | _ => none }
def FnExactCountsAtWrongFalsely : Prop := fnExactCountsAtRow.holds Try.pinned (OpenSpec.ofChange fnExactCountsAtWrong)

/-- 'laws.FnExactAreaAt': WHATEVER THE INPUT: true; the input reads as it did. -/
def fnExactAreaAtSpec : ChangeSpec := { name := "fnExactAreaAt", fn := fun _ => fun
  | [d1, d2] => { results := [.lit (.bool true)], args := [d1, d2] }
  | _ => none }
def fnExactAreaAtRow : OpenClaim := { program := "ytifldhdjopmpeaa", sum := "3a07375eadf3bfbcac36671091a70208a4f81c5dd30262a8b69e3e9a68108cc8", func := "loop.example/wateronheights/laws.FnExactAreaAt", spec := "fnExactAreaAt", unfollowed := true, recurses := true, apart := false }
def FnExactAreaAtSaid : Prop := fnExactAreaAtRow.holds Try.pinned (OpenSpec.ofChange fnExactAreaAtSpec)

/-- ITS FALSE NEIGHBOUR: 'it returns false'. Refute it at one input. -/
def fnExactAreaAtWrong : ChangeSpec := { name := "fnExactAreaAt", fn := fun _ => fun
  | [d1, d2] => { results := [.lit (.bool false)], args := [d1, d2] }
  | _ => none }
def FnExactAreaAtWrongFalsely : Prop := fnExactAreaAtRow.holds Try.pinned (OpenSpec.ofChange fnExactAreaAtWrong)

/-- 'laws.FnValidProfile': WHATEVER THE INPUT: true; the input reads as it did. -/
def fnValidProfileSpec : ChangeSpec := { name := "fnValidProfile", fn := fun _ => fun
  | [d] => { results := [.lit (.bool true)], args := [d] }
  | _ => none }
def fnValidProfileRow : OpenClaim := { program := "ytifldhdjopmpeaa", sum := "3a07375eadf3bfbcac36671091a70208a4f81c5dd30262a8b69e3e9a68108cc8", func := "loop.example/wateronheights/laws.FnValidProfile", spec := "fnValidProfile", apart := false }
def FnValidProfileSaid : Prop := fnValidProfileRow.holds Try.pinned (OpenSpec.ofChange fnValidProfileSpec)

/-- ITS FALSE NEIGHBOUR: 'it returns false'. Refute it at one input. -/
def fnValidProfileWrong : ChangeSpec := { name := "fnValidProfile", fn := fun _ => fun
  | [d] => { results := [.lit (.bool false)], args := [d] }
  | _ => none }
def FnValidProfileWrongFalsely : Prop := fnValidProfileRow.holds Try.pinned (OpenSpec.ofChange fnValidProfileWrong)

/-- 'laws.FnExactValidProfile': WHATEVER THE INPUT: true; the input reads as it did. -/
def fnExactValidProfileSpec : ChangeSpec := { name := "fnExactValidProfile", fn := fun _ => fun
  | [d] => { results := [.lit (.bool true)], args := [d] }
  | _ => none }
def fnExactValidProfileRow : OpenClaim := { program := "ytifldhdjopmpeaa", sum := "3a07375eadf3bfbcac36671091a70208a4f81c5dd30262a8b69e3e9a68108cc8", func := "loop.example/wateronheights/laws.FnExactValidProfile", spec := "fnExactValidProfile", apart := false }
def FnExactValidProfileSaid : Prop := fnExactValidProfileRow.holds Try.pinned (OpenSpec.ofChange fnExactValidProfileSpec)

/-- ITS FALSE NEIGHBOUR: 'it returns false'. Refute it at one input. -/
def fnExactValidProfileWrong : ChangeSpec := { name := "fnExactValidProfile", fn := fun _ => fun
  | [d] => { results := [.lit (.bool false)], args := [d] }
  | _ => none }
def FnExactValidProfileWrongFalsely : Prop := fnExactValidProfileRow.holds Try.pinned (OpenSpec.ofChange fnExactValidProfileWrong)

/-- 'laws.FnSeenFrom': WHATEVER THE INPUT: true; the input reads as it did. -/
def fnSeenFromSpec : ChangeSpec := { name := "fnSeenFrom", fn := fun _ => fun
  | [d] => { results := [.lit (.bool true)], args := [d] }
  | _ => none }
def fnSeenFromRow : OpenClaim := { program := "ytifldhdjopmpeaa", sum := "3a07375eadf3bfbcac36671091a70208a4f81c5dd30262a8b69e3e9a68108cc8", func := "loop.example/wateronheights/laws.FnSeenFrom", spec := "fnSeenFrom", apart := false }
def FnSeenFromSaid : Prop := fnSeenFromRow.holds Try.pinned (OpenSpec.ofChange fnSeenFromSpec)

/-- ITS FALSE NEIGHBOUR: 'it returns false'. Refute it at one input. -/
def fnSeenFromWrong : ChangeSpec := { name := "fnSeenFrom", fn := fun _ => fun
  | [d] => { results := [.lit (.bool false)], args := [d] }
  | _ => none }
def FnSeenFromWrongFalsely : Prop := fnSeenFromRow.holds Try.pinned (OpenSpec.ofChange fnSeenFromWrong)

/- THE SECOND FORM. 'bulk': how many values and letters a reading holds, each counted each time it is reached (what is shared counts as often as it is met; a slice's spare places count too). A statement '..UptoSaid' is the law's where the arguments, and the package variables that the reading takes, are together of bulk at most 1048576: NARROWER than '..Said'. Prove '..Said' where nothing that the law and all that it calls make is longer than what came in: it says more and counts as full. Else prove '..UptoSaid'. A law counts once. -/
mutual
def uptoBulk {H : Type} : DataW H → Nat
  | .lit (.string bytes) => bytes.length + 1
  | .lit _ => 1
  | .nil => 1
  | .ptr d => uptoBulk d + 1
  | .slice elems spare => uptoBulkAll elems + uptoBulkAll spare + 1
  | .agg parts => uptoBulkAll parts + 1
  | .iface _ d => uptoBulk d + 1
  | .map entries => uptoBulkEntries entries + 1
  | .held _ => 1
def uptoBulkAll {H : Type} : List (DataW H) → Nat
  | [] => 0
  | d :: r => uptoBulk d + uptoBulkAll r
def uptoBulkEntries {H : Type} : List (Lit × DataW H) → Nat
  | [] => 0
  | x :: r => uptoBulkEntry x + uptoBulkEntries r
def uptoBulkEntry {H : Type} : Lit × DataW H → Nat
  | (.string bytes, d) => bytes.length + uptoBulk d + 1
  | (_, d) => uptoBulk d + 1
 end
def uptoSmall : (H : Type) → List (DataW H) → Bool := fun _ ds => decide (uptoBulkAll ds ≤ 1048576)
def OpenSpec.upto (s : _root_.Go.ChangeSpec) : _root_.Go.OpenSpec := { _root_.Go.OpenSpec.ofChange s with cond := some uptoSmall }

/-- 'laws.FnValidGrid', WHERE WHAT IT READS IS OF BULK AT MOST 1048576: true; the input reads as it did. -/
def fnValidGridUptoRow : OpenClaim := { program := "ytifldhdjopmpeaa", sum := "3a07375eadf3bfbcac36671091a70208a4f81c5dd30262a8b69e3e9a68108cc8", func := "loop.example/wateronheights/laws.FnValidGrid", spec := "fnValidGrid", apart := false, narrowed := true }
def FnValidGridUptoSaid : Prop := fnValidGridUptoRow.holds Try.pinned (OpenSpec.upto fnValidGridSpec)

/-- 'laws.FnCountsAt', WHERE WHAT IT READS IS OF BULK AT MOST 1048576: true; the input reads as it did. -/
def fnCountsAtUptoRow : OpenClaim := { program := "ytifldhdjopmpeaa", sum := "3a07375eadf3bfbcac36671091a70208a4f81c5dd30262a8b69e3e9a68108cc8", func := "loop.example/wateronheights/laws.FnCountsAt", spec := "fnCountsAt", apart := false, narrowed := true }
def FnCountsAtUptoSaid : Prop := fnCountsAtUptoRow.holds Try.pinned (OpenSpec.upto fnCountsAtSpec)

/-- 'laws.FnAreaAt', WHERE WHAT IT READS IS OF BULK AT MOST 1048576: true; the input reads as it did. -/
def fnAreaAtUptoRow : OpenClaim := { program := "ytifldhdjopmpeaa", sum := "3a07375eadf3bfbcac36671091a70208a4f81c5dd30262a8b69e3e9a68108cc8", func := "loop.example/wateronheights/laws.FnAreaAt", spec := "fnAreaAt", unfollowed := true, recurses := true, apart := false, narrowed := true }
def FnAreaAtUptoSaid : Prop := fnAreaAtUptoRow.holds Try.pinned (OpenSpec.upto fnAreaAtSpec)

/-- 'laws.FnCountsOfAll', WHERE WHAT IT READS IS OF BULK AT MOST 1048576: true; the input reads as it did. -/
def fnCountsOfAllUptoRow : OpenClaim := { program := "ytifldhdjopmpeaa", sum := "3a07375eadf3bfbcac36671091a70208a4f81c5dd30262a8b69e3e9a68108cc8", func := "loop.example/wateronheights/laws.FnCountsOfAll", spec := "fnCountsOfAll", apart := false, narrowed := true }
def FnCountsOfAllUptoSaid : Prop := fnCountsOfAllUptoRow.holds Try.pinned (OpenSpec.upto fnCountsOfAllSpec)

/-- 'laws.FnExactValidGrid', WHERE WHAT IT READS IS OF BULK AT MOST 1048576: true; the input reads as it did. -/
def fnExactValidGridUptoRow : OpenClaim := { program := "ytifldhdjopmpeaa", sum := "3a07375eadf3bfbcac36671091a70208a4f81c5dd30262a8b69e3e9a68108cc8", func := "loop.example/wateronheights/laws.FnExactValidGrid", spec := "fnExactValidGrid", apart := false, narrowed := true }
def FnExactValidGridUptoSaid : Prop := fnExactValidGridUptoRow.holds Try.pinned (OpenSpec.upto fnExactValidGridSpec)

/-- 'laws.FnExactCountsAt', WHERE WHAT IT READS IS OF BULK AT MOST 1048576: true; the input reads as it did. -/
def fnExactCountsAtUptoRow : OpenClaim := { program := "ytifldhdjopmpeaa", sum := "3a07375eadf3bfbcac36671091a70208a4f81c5dd30262a8b69e3e9a68108cc8", func := "loop.example/wateronheights/laws.FnExactCountsAt", spec := "fnExactCountsAt", apart := false, narrowed := true }
def FnExactCountsAtUptoSaid : Prop := fnExactCountsAtUptoRow.holds Try.pinned (OpenSpec.upto fnExactCountsAtSpec)

/-- 'laws.FnExactAreaAt', WHERE WHAT IT READS IS OF BULK AT MOST 1048576: true; the input reads as it did. -/
def fnExactAreaAtUptoRow : OpenClaim := { program := "ytifldhdjopmpeaa", sum := "3a07375eadf3bfbcac36671091a70208a4f81c5dd30262a8b69e3e9a68108cc8", func := "loop.example/wateronheights/laws.FnExactAreaAt", spec := "fnExactAreaAt", unfollowed := true, recurses := true, apart := false, narrowed := true }
def FnExactAreaAtUptoSaid : Prop := fnExactAreaAtUptoRow.holds Try.pinned (OpenSpec.upto fnExactAreaAtSpec)

/-- 'laws.FnValidProfile', WHERE WHAT IT READS IS OF BULK AT MOST 1048576: true; the input reads as it did. -/
def fnValidProfileUptoRow : OpenClaim := { program := "ytifldhdjopmpeaa", sum := "3a07375eadf3bfbcac36671091a70208a4f81c5dd30262a8b69e3e9a68108cc8", func := "loop.example/wateronheights/laws.FnValidProfile", spec := "fnValidProfile", apart := false, narrowed := true }
def FnValidProfileUptoSaid : Prop := fnValidProfileUptoRow.holds Try.pinned (OpenSpec.upto fnValidProfileSpec)

/-- 'laws.FnExactValidProfile', WHERE WHAT IT READS IS OF BULK AT MOST 1048576: true; the input reads as it did. -/
def fnExactValidProfileUptoRow : OpenClaim := { program := "ytifldhdjopmpeaa", sum := "3a07375eadf3bfbcac36671091a70208a4f81c5dd30262a8b69e3e9a68108cc8", func := "loop.example/wateronheights/laws.FnExactValidProfile", spec := "fnExactValidProfile", apart := false, narrowed := true }
def FnExactValidProfileUptoSaid : Prop := fnExactValidProfileUptoRow.holds Try.pinned (OpenSpec.upto fnExactValidProfileSpec)

/-- 'laws.FnSeenFrom', WHERE WHAT IT READS IS OF BULK AT MOST 1048576: true; the input reads as it did. -/
def fnSeenFromUptoRow : OpenClaim := { program := "ytifldhdjopmpeaa", sum := "3a07375eadf3bfbcac36671091a70208a4f81c5dd30262a8b69e3e9a68108cc8", func := "loop.example/wateronheights/laws.FnSeenFrom", spec := "fnSeenFrom", apart := false, narrowed := true }
def FnSeenFromUptoSaid : Prop := fnSeenFromUptoRow.holds Try.pinned (OpenSpec.upto fnSeenFromSpec)

end Rows
end Go.Proofs.Ytifldhdjopmpeaa
