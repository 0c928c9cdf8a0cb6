/- The contract of spec.someProfile: a drawn row of at most nine numbers in -1 .. 13. -/
import Derived.Test.YtdfnhodhdfhhcaaDoorSomeG
namespace Go.Proofs.YtdfnhodhdfhhcaaDoor
open Go.RowKit

def DrawnP (xs : List Int) : Prop := xs.length ≤ 9 ∧ ∀ i, i < xs.length → -1 ≤ xs.getD i 0 ∧ xs.getD i 0 ≤ 13
theorem DrawnP.nil : DrawnP [] := ⟨by simp, fun i hi => absurd hi (Nat.not_lt_zero _)⟩
theorem DrawnP.snoc {xs : List Int} {x : Int} (h : DrawnP xs) (hl : xs.length ≤ 8) (hx : -1 ≤ x ∧ x ≤ 13) : DrawnP (xs ++ [x]) := by
  refine ⟨by simp; omega, fun i hi => ?_⟩
  simp at hi
  by_cases hlt : i < xs.length
  · rw [getD_append_l _ _ _ _ hlt]; exact h.2 i hlt
  · obtain rfl : i = xs.length := by omega
    rw [getD_append_r]; exact hx
theorem DrawnP.set {xs : List Int} {x : Int} (h : DrawnP xs) (hx : -1 ≤ x ∧ x ≤ 13) (j : Nat) : DrawnP (xs.set j x) := by
  refine ⟨by simp; exact h.1, fun i hi => ?_⟩
  simp at hi
  by_cases e : j = i
  · subst e; simp [hi]; exact hx
  · rw [List.getD_eq_getElem?_getD, List.getElem?_set_ne e, ← List.getD_eq_getElem?_getD]; exact h.2 i hi

theorem IntsO.litAt (E lo blk hi n : Nat) (w : World) (xs : List Int) (cs : Array Value) (h : cs.toList = xs.map (.int .i64)) (hb : blk = w.heap.size) (hn : n = xs.length) (hlo : lo ≤ blk) (hhi : blk < hi) (hl : xs.length ≤ maxLen) :
    IntsO E lo hi (w.alloc (.cells cs E)) (.slice (some ⟨blk, 0, none⟩) n n) xs := by
  subst hb hn
  exact (IntsO.lit E lo w xs cs h hlo hl).wide (Nat.le_refl _) hhi

def SomePPost (w0 w : World) (rb p : Nat) (e : Ending) (w' : World) : Prop :=
  ∃ v xs q, e = .returned v ∧ IntsO 3 w.heap.size w'.heap.size w' v xs ∧ DrawnP xs ∧ Rdr w0 w' rb q ∧ q ≤ p + 20 ∧ Within rb (rb + 1) w w'
/-- The same, and never nil. -/
def SomePPost2 (w0 w : World) (rb p : Nat) (e : Ending) (w' : World) : Prop :=
  ∃ v xs q, e = .returned v ∧ (∃ g c, v = .slice (some ⟨g, 0, none⟩) xs.length c) ∧ IntsO 3 w.heap.size w'.heap.size w' v xs ∧ DrawnP xs ∧ Rdr w0 w' rb q ∧ q ≤ p + 20 ∧ Within rb (rb + 1) w w'

end Go.Proofs.YtdfnhodhdfhhcaaDoor
