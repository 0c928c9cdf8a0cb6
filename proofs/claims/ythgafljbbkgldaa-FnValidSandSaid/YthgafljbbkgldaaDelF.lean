/- The contracts of slices.IndexFunc and slices.DeleteFunc, of whole numbers, and of slices.Contains, of bools. -/
import Derived.Test.YthgafljbbkgldaaTopM
import Derived.Lib.SliceRun
import Derived.Shelf.Abstract
namespace Go.Proofs.Ythgafljbbkgldaa
open Go.RowKit

theorem setCells_within (g : Nat) : ∀ (vs : List Value) (o : Nat) (w : World), Within g (g + 1) w (w.setCells g o vs)
  | [], _, w => Within.refl _ _ w
  | v :: vs, o, w => (one_within w g o v).trans (setCells_within g vs (o + 1) _)
theorem zeroI (w : World) : (zeroValue 3).run Try.prog w = .ok (.int .i64 0) w := by kernel_rfl
/-- The first place of which B holds; how many there are if there is none. -/
def firstB (B : Int → Bool) (xs : List Int) : Nat := xs.findIdx B
/-- How many of the first k numbers stay. -/
def keptN (B : Int → Bool) (xs : List Int) (k : Nat) : Nat := ((xs.take k).filter fun x => !B x).length
theorem keptN_succ (B : Int → Bool) (xs : List Int) (k : Nat) (hk : k < xs.length) : keptN B xs (k + 1) = keptN B xs k + if B (xs.getD k 0) = true then 0 else 1 := by
  have e : xs.getD k 0 = xs[k] := by simp [hk]
  unfold keptN
  rw [List.take_succ_eq_append_getElem hk, List.filter_append, List.length_append, e]
  cases hb : B xs[k] <;> simp [hb]
theorem keptN_le (B : Int → Bool) (xs : List Int) (k : Nat) : keptN B xs k ≤ k := by
  unfold keptN
  refine Nat.le_trans (List.length_filter_le _ _) ?_
  rw [List.length_take]
  exact Nat.min_le_left _ _
theorem keptN_first (B : Int → Bool) (xs : List Int) (t : Nat) (ht : t ≤ xs.length) (h : ∀ i, i < t → B (xs.getD i 0) = false) : keptN B xs t = t := by
  induction t with
  | zero => simp [keptN]
  | succ t ih => rw [keptN_succ B xs t (by omega), ih (by omega) (fun i hi => h i (by omega)), h t (by omega)]; simp

end Go.Proofs.Ythgafljbbkgldaa
