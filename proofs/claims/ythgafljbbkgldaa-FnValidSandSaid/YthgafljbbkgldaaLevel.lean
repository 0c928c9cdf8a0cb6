/- The contracts of impl.validLevel, higherThan, cellsWhere, AreaAt, and of spec.validTop and AreaAt. -/
import Derived.Test.YthgafljbbkgldaaAt
import Derived.Test.YthgafljbbkgldaaSGrid
import Derived.Test.YthgafljbbkgldaaConcat
import Derived.Test.YthgafljbbkgldaaExact
import Derived.Test.YthgafljbbkgldaaSumTo
import Derived.Shelf.Abstract
namespace Go.Proofs.Ythgafljbbkgldaa
open Go.RowKit

def vLevel (h : List (List Int)) (t : Int) : Bool := vGrid h && inR t (-1) 12
/-- Whether a cell is higher than t. -/
def above (p : List Int) (t : Int) (i : Nat) : Bool := decide (t < p.getD i 0)
/-- A function value (function fk, what it captured: lb) that tells P of the cells below N. -/
def Tells (fk : Nat) (lb : Array Value) (N : Nat) (P : Nat → Bool) (w : World) : Prop :=
  ∀ (I : Nat) (W : World), Grew w W → I < N → Calls Try.prog fk (#[.int .i64 I] ++ lb) W fun e w' => e = .returned (.bool (P I)) ∧ ∃ q, w' = W.drewN q
theorem Tells.grew {fk : Nat} {lb : Array Value} {N : Nat} {P : Nat → Bool} {w w' : World} (h : Tells fk lb N P w) (hg : Grew w w') : Tells fk lb N P w' := fun I W hW hI => h I W (hg.trans hW) hI
/-- The cells of which P holds. -/
def whereL (N : Nat) (P : Nat → Bool) : List Int := ((List.range N).filter P).map fun (i : Nat) => (i : Int)
theorem whereL_succ (N : Nat) (P : Nat → Bool) : whereL (N + 1) P = whereL N P ++ (if P N = true then [(N : Int)] else []) := by
  unfold whereL
  rw [List.range_succ, List.filter_append, List.map_append]
  cases h : P N <;> simp [h]
theorem whereL_len (N : Nat) (P : Nat → Bool) : (whereL N P).length ≤ N := by
  unfold whereL
  rw [List.length_map]
  exact Nat.le_trans (List.length_filter_le _ _) (by simp)

/-- How many cells are higher than t. -/
def areaL (p : List Int) (t : Int) : Int := sumTo (fun i => if above p t i = true then 1 else 0) p.length
theorem areaL_len (p : List Int) (t : Int) : ((whereL p.length (above p t)).length : Int) = areaL p t := by
  unfold whereL areaL
  rw [List.length_map, filter_len]
def areaX (h : List (List Int)) (t : Int) : Int := if vLevel h t = true then areaL h.flatten t else -1
theorem vLevel_grid {h : List (List Int)} {t : Int} (hv : vLevel h t = true) : vGrid h = true := by
  simp only [vLevel, Bool.and_eq_true] at hv
  exact hv.1


end Go.Proofs.Ythgafljbbkgldaa
