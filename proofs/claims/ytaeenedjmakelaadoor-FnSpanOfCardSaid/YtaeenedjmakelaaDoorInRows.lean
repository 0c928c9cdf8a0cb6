/- The contract of impl.inRows: a list cut into rows, by slices.Chunk. -/
import Derived.Test.YtaeenedjmakelaaDoorChunk
namespace Go.Proofs.YtaeenedjmakelaaDoor
open Go.RowKit Go.Shelf

attribute [local go_sem] Oper.semAt_some

theorem shapeL_fin (xs : List Int) (n m : Nat) : ((List.finRange n).map fun k => (xs.drop (k.1 * m)).take m) = shapeL xs m n := by
  apply List.ext_getElem
  · simp [shapeL]
  · intro i h1 h2
    simp [shapeL]

/-- What a round leaves: a row was made, appended, and the slice put back into its box. -/
theorem round_end {w W w3 w6 : World} {v v6 : Value} {H H6 : List (List Int)} {o : Obj} (hv : Boxed W w.heap.size 32 v) (hO : RowsO 22 3 (w.heap.size + 3) W.heap.size W v H) (hs : w.heap.size + 3 ≤ W.heap.size) (hbl : Below w.heap.size w W)
    (hg3 : Grew W w3) (hO6 : RowsO 22 3 (w.heap.size + 3) w6.heap.size w6 v6 H6) (hG6 : (w3.alloc o).grownBy w6 v.ownBlock) :
    Boxed w6 w.heap.size 32 v ∧ KeepsOthers W (w6.setCell ⟨w.heap.size, 0, none⟩ v6) ∧ Keep2 (w.heap.size + 1) (w.heap.size + 1 + 1) W (w6.setCell ⟨w.heap.size, 0, none⟩ v6) ∧
      Boxed (w6.setCell ⟨w.heap.size, 0, none⟩ v6) w.heap.size 32 v6 ∧ RowsO 22 3 (w.heap.size + 3) (w6.setCell ⟨w.heap.size, 0, none⟩ v6).heap.size (w6.setCell ⟨w.heap.size, 0, none⟩ v6) v6 H6 ∧
      w.heap.size + 3 ≤ (w6.setCell ⟨w.heap.size, 0, none⟩ v6).heap.size ∧ Below w.heap.size w (w6.setCell ⟨w.heap.size, 0, none⟩ v6) := by
  have hsz : (w6.setCell ⟨w.heap.size, 0, none⟩ v6).heap.size = w6.heap.size := by simp [World.setCell]
  have h36 : w3.heap.size + 1 ≤ w6.heap.size := by have := hG6.size; simpa using this
  have h3 := hg3.size
  have hrow : ∀ g, v.ownBlock = some g → w.heap.size + 3 ≤ g ∧ ∃ ob : Obj, W.heap[g]? = some ob ∧ ob.isCells = true := fun g e => by
    obtain ⟨V, h1, _⟩ := hO
    refine ⟨(World.ownsRow.lt h1 g e).1, ?_⟩
    rcases h1.2 with ⟨e4, _⟩ | ⟨g1, cap, cur, e4, _, h6, _⟩
    · subst e4; simp [Value.ownBlock] at e
    · subst e4
      simp only [Value.ownBlock, Option.some.injEq] at e
      subst e
      exact ⟨_, h6, rfl⟩
  have hold : ∀ k, k < W.heap.size → (∀ g, v.ownBlock = some g → k ≠ g) → k ≠ w.heap.size → (w6.setCell ⟨w.heap.size, 0, none⟩ v6).heap[k]? = W.heap[k]? := fun k hk hne hk2 => by
    rw [Below.heap_setCell _ _ _ _ hk2, hG6.block k (by simp; omega) (fun e => hne k e.symm rfl), Below.heap_alloc _ _ _ (by omega), hg3.block hk]
  have hv6 : Boxed w6 w.heap.size 32 v := Boxed.kept (Boxed.alloc ((hg3.block hv.lt).trans hv) o) hG6 fun e => by have := (hrow _ e.symm).1; omega
  refine ⟨hv6, ?_, ?_, hv6.set v6, ?_, by omega, ?_⟩
  · refine (((grew_others hg3).trans (KeepsOthers.alloc _ _)).trans (KeepsOthers.of_grownBy hG6 fun j ob e hj => ?_)).trans (KeepsOthers.setCell _ _ _)
    obtain ⟨hj1, ob2, hj2, hj3⟩ := hrow j e
    have hjl := (Array.getElem?_eq_some_iff.1 hj2).1
    rw [Below.heap_alloc _ _ _ (by omega), hg3.block hjl, hj2] at hj
    simp only [Option.some.injEq] at hj
    subst hj
    exact hj3
  · exact ⟨hold (w.heap.size + 1) (by omega) (fun g e => by have := (hrow g e).1; omega) (by omega), hold (w.heap.size + 1 + 1) (by omega) (fun g e => by have := (hrow g e).1; omega) (by omega)⟩
  · rw [hsz]
    exact hO6.within ((Within.refl w.heap.size (w.heap.size + 1) w6).setCell (p := ⟨w.heap.size, 0, none⟩) (Nat.le_refl _) (Nat.lt_succ_self _) _) (.inr (by omega))
  · refine hbl.trans (((((Below.mono hg3 (show w.heap.size ≤ W.heap.size by omega)).alloc (show w.heap.size ≤ w3.heap.size by omega) o).grown hG6 (by simp; omega) fun j e => ?_)).setCell (p := ⟨w.heap.size, 0, none⟩) (Nat.le_refl _) _)
    have := (hrow j e).1
    show w.heap.size ≤ j
    omega

end Go.Proofs.YtaeenedjmakelaaDoor
