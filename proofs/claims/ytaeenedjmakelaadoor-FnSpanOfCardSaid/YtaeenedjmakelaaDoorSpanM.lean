/- The least tree as the specification looks for it, as lists. -/
import Derived.Test.YtaeenedjmakelaaDoorMeetM
namespace Go.Proofs.YtaeenedjmakelaaDoor
open Go.RowKit

abbrev SpanS := (Nat → Nat) × Int
/-- The way between i and b is taken, if it is as high as t and joins. -/
def spB (p : List Int) (t : Int) (i : Nat) (st : SpanS) (b : Nat) : SpanS :=
  if max (p.getD i 0) (p.getD b 0) = t ∧ st.1 i ≠ st.1 b then (joinR st.1 (st.1 i) (st.1 b), st.2 + t) else st
def spJ (p : List Int) (t : Int) (i : Nat) (ar : List Int) (st : SpanS) : Nat → SpanS
  | 0 => st
  | j + 1 => spB p t i (spJ p t i ar st j) (ar.getD j 0).toNat
def spI (p : List Int) (n m : Nat) (t : Int) (st : SpanS) : Nat → SpanS
  | 0 => st
  | i + 1 => spJ p t i (aroundL n m i) (spI p n m t st i) (aroundL n m i).length
def spT (p : List Int) (n m N : Nat) : Nat → SpanS
  | 0 => (id, 0)
  | t + 1 => spI p n m (t : Int) (spT p n m N t) N
end Go.Proofs.YtaeenedjmakelaaDoor
