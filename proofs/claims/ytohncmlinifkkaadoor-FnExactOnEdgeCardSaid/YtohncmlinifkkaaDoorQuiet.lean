/- What a comparison leaves: a Bool, and draws. -/
import Derived.Test.YtohncmlinifkkaaDoorMem
namespace Go.Proofs.YtohncmlinifkkaaDoor
open Go.RowKit

def QuietBool (b : Bool) (w : World) (e : Ending) (w' : World) : Prop := e = .returned (.bool b) ∧ ∃ n, w' = w.drewN n
theorem take_eq_snoc {α : Type} {xs ys : List α} {k : Nat} (d : α) (h1 : k < xs.length) (h2 : k < ys.length) (h : xs.take k = ys.take k) (he : xs.getD k d = ys.getD k d) : xs.take (k + 1) = ys.take (k + 1) := by
  rw [List.take_succ_eq_append_getElem h1, List.take_succ_eq_append_getElem h2, h]
  simp [h1, h2] at he
  rw [he]
theorem quiet_grew {w wr : World} (h : ∃ n, wr = w.drewN n) : Grew w wr := by
  obtain ⟨n, rfl⟩ := h
  exact (Grew.refl w).drewN n
theorem quiet_step {w wr : World} (h : ∃ n, wr = w.drewN n) (m : Nat) : ∃ n, wr.drewN m = w.drewN n := by
  obtain ⟨n, rfl⟩ := h
  exact ⟨n + m, World.drewN_drewN _ _ _⟩

end Go.Proofs.YtohncmlinifkkaaDoor
