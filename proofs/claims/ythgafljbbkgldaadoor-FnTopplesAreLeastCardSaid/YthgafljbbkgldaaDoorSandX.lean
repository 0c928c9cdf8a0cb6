/- What the laws on sand ask: how much there is, in whatever form. -/
import Derived.Test.YthgafljbbkgldaaDoorSandJ
import Derived.Test.YthgafljbbkgldaaDoorSSandJ
import Derived.Test.YthgafljbbkgldaaDoorSZero
import Derived.Test.YthgafljbbkgldaaDoorExact
namespace Go.Proofs.YthgafljbbkgldaaDoor
open Go.RowKit

theorem total_shape {n m : Nat} {x : List Int} (hb : Box n m) (hl : x.length = n * m) : total (shapeL x m n) ≤ 1000000 := by
  have e : total (shapeL x m n) = (shapeL x m n).flatten.length := by unfold total; rw [List.length_flatten]
  rw [e, shapeL_flat _ _ _ hl, hl]
  have : n * m ≤ 16 := Nat.mul_le_mul hb.1.2 hb.2.2
  omega
theorem calmX_total (h : List (List Int)) : total (calmX h) ≤ 1000000 := by
  unfold calmX
  split
  · next hs => exact total_shape (sand_of hs).2.1.box (sand_of hs).2.1.calm_len
  · simp [total]
theorem timesX_total (h : List (List Int)) : total (timesX h) ≤ 1000000 := by
  unfold timesX
  split
  · next hs => exact total_shape (sand_of hs).2.1.box (sand_of hs).2.1.calm.1.tlen
  · simp [total]
theorem addX_total (a b : List (List Int)) : total (addX a b) ≤ 1000000 := by
  unfold addX
  split
  · next hs => exact total_shape (plus_sandy hs).1.box (plus_sandy hs).1.calm_len
  · simp [total]
theorem zeroX_total (r c : Int) : total (zeroX r c) ≤ 1000000 := by
  unfold zeroX
  split
  · next hs =>
    have hb : Box r.toNat c.toNat := ⟨⟨by omega, by omega⟩, by omega, by omega⟩
    exact total_shape hb (rest_sandy hb).1.calm_len
  · simp [total]
/-- Whether it burns. -/
noncomputable def burnsB (h : List (List Int)) : Bool := @decide (burnsX h) (Classical.propDecidable _)
theorem burnsB_iff (h : List (List Int)) : burnsB h = true ↔ burnsX h := by
  unfold burnsB
  exact @decide_eq_true_iff _ (Classical.propDecidable _)
theorem BurnsPost.told {h : List (List Int)} {w : World} {e : Ending} {w' : World} (hp : BurnsPost h w e w') : e = .returned (.bool (burnsB h)) ∧ Grew w w' := by
  obtain ⟨B, rfl, hB, hg⟩ := hp
  have : B = burnsB h := by
    rw [Bool.eq_iff_iff, hB, burnsB_iff]
  exact ⟨by rw [this], hg⟩
end Go.Proofs.YthgafljbbkgldaaDoor
