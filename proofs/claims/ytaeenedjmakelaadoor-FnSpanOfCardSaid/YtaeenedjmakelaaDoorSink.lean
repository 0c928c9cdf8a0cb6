/- The contracts of impl.sinkAll and impl.FillBySinking. -/
import Derived.Test.YtaeenedjmakelaaDoorSFlats
import Derived.Test.YtaeenedjmakelaaDoorCells
import Derived.Test.YtaeenedjmakelaaDoorInRows
import Derived.Test.YtaeenedjmakelaaDoorFlatsOf
namespace Go.Proofs.YtaeenedjmakelaaDoor
open Go.RowKit

/-- The heights to which water stands; there is one such list. -/
noncomputable def levelL (n m : Nat) (p : List Int) : List Int := pickL (Level n m p)
theorem Level.eq {n m : Nat} {p w : List Int} (W : Level n m p w) : levelL n m p = w := pickL_eq W fun _ V => V.uniq W
noncomputable def fillL (h : List (List Int)) : List (List Int) :=
  if vGrid h then shapeL (levelL h.length (h.getD 0 []).length h.flatten) (h.getD 0 []).length h.length else []
theorem fillL_no {h : List (List Int)} (hg : vGrid h = false) : fillL h = [] := by unfold fillL; rw [hg]; rfl
theorem fillL_yes {h : List (List Int)} {n m : Nat} {w : List Int} (hg : vGrid h = true) (en : h.length = n) (em : (h.getD 0 []).length = m) (W : Level n m h.flatten w) : fillL h = shapeL w m n := by
  unfold fillL
  rw [if_pos hg, en, em, W.eq]
theorem fillL_total (h : List (List Int)) : total (fillL h) ≤ 1000000 := by
  unfold fillL
  by_cases hg : vGrid h = true
  · rw [if_pos hg]; exact shape_grid_total hg _
  · rw [if_neg hg]; simp [total]
/-- A grid's heights in one row. -/
theorem grid_num {h : List (List Int)} {m : Nat} (g : Grid h m) (I : Nat) (hI : I < h.length * m) : 0 ≤ h.flatten.getD I 0 ∧ h.flatten.getD I 0 ≤ 12 := by
  rw [flat_at g I hI]
  exact g.num _ (div_lt_of _ _ I hI) _ (Nat.mod_lt I g.m1)
theorem Sink.sum {n m : Nat} {p w : List Int} (S : Sink n m p w) (hp : ∀ i, i < n * m → 0 ≤ p.getD i 0) : 0 ≤ w.sum := low_sum w fun i hi => by
  rw [S.len] at hi
  have := (S.esc i hi).base
  have := hp i hi
  omega

def SinkPost (n m : Nat) (p : List Int) (B0 g1 c1 g N c : Nat) (S : Int) (w0 : World) (e : Ending) (w' : World) : Prop :=
  ∃ (bb : Bool) (xs : List Int), e = .returned (.bool bb) ∧ IntsO 3 g (g + 1) w' (.slice (some ⟨g, 0, none⟩) N c) xs ∧ IntsO 3 B0 g w' (.slice (some ⟨g1, 0, none⟩) N c1) p ∧ Sink n m p xs ∧ (bb = false → Still n m p xs N 0) ∧ (bb = true → xs.sum < S) ∧ Grew w0 w'

end Go.Proofs.YtaeenedjmakelaaDoor
