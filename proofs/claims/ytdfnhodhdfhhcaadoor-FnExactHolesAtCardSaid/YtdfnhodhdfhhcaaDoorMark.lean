/- The contracts of laws.markIntS, heldIntS, markIntSS and heldIntSS. -/
import Derived.Test.YtdfnhodhdfhhcaaDoorExact
namespace Go.Proofs.YtdfnhodhdfhhcaaDoor
open Go.RowKit

/-- k, k+1, .. : n numbers. -/
def seqL (k : Int) (n : Nat) : List Int := (List.range n).map fun (i : Nat) => k + (i : Int)
theorem seqL_len (k : Int) (n : Nat) : (seqL k n).length = n := by simp [seqL]
theorem seqL_at (k : Int) (n i : Nat) (h : i < n) : (seqL k n).getD i 0 = k + i := by simp [seqL, h]

/-- The first j are marked. -/
def markTo (xs : List Int) (k : Int) (j : Nat) : List Int := (List.range xs.length).map fun (i : Nat) => if i < j then k + (i : Int) else xs.getD i 0
theorem markTo_len (xs : List Int) (k : Int) (j : Nat) : (markTo xs k j).length = xs.length := by simp [markTo]
theorem markTo_zero (xs : List Int) (k : Int) : markTo xs k 0 = xs := by
  apply List.ext_getElem
  · simp [markTo]
  · intro i h1 h2
    simp [markTo, h2]
theorem markTo_all (xs : List Int) (k : Int) : markTo xs k xs.length = seqL k xs.length := by
  unfold markTo seqL
  exact List.map_congr_left fun i hi => by rw [if_pos (List.mem_range.1 hi)]
theorem markTo_set (xs : List Int) (k : Int) (j : Nat) (_hj : j < xs.length) : (markTo xs k j).set j (k + j) = markTo xs k (j + 1) := by
  apply List.ext_getElem
  · simp [markTo]
  · intro i h1 h2
    simp only [markTo, List.getElem_set, List.getElem_map, List.getElem_range]
    by_cases e : j = i
    · subst e; simp
    · rw [if_neg e]
      by_cases h : i < j
      · rw [if_pos h, if_pos (by omega)]
      · rw [if_neg h, if_neg (by omega)]

/-- One row of own rows has turned. -/
theorem RowsO.turn {T E lo hi : Nat} (hTE : T ≠ E) {w w' : World} {v u : Value} {H : List (List Int)} {xs' : List Int} (hv : RowsO T E lo hi w v H) {gv nv cv : Nat} (hs : v = .slice (some ⟨gv, 0, none⟩) nv cv) {j : Nat} (hj : j < H.length)
    (hcell : w.cell? ⟨gv, j, none⟩ = some u) (hW : ∀ k, k < w.heap.size → u.ownBlock ≠ some k → w'.heap[k]? = w.heap[k]?) (hu : IntsO E lo hi w' u xs') : RowsO T E lo hi w' v (H.set j xs') := by
  obtain ⟨V, h1, h2, h3, h4⟩ := hv
  have eV : V j = u := by
    subst hs
    have hn : nv = H.length := by
      rcases h1.2 with ⟨e, _⟩ | ⟨_, _, _, e, _⟩
      · cases e
      · cases e; rfl
    subst hn
    rw [World.ownsRow.cellAt h1 j (by omega)] at hcell
    simpa [hj] using hcell
  refine ⟨V, ?_, h2, ?_, ?_⟩
  · rw [List.length_set]
    exact ownsRow_block h1 fun k e => hW k (World.ownsRow.lt h1 k e).2 fun e2 => ownsRow_int_block hTE h1 (h3 j hj).1 k (by rw [eV]; exact e2) e
  · intro r hr
    rw [List.length_set] at hr
    by_cases e : r = j
    · subst e
      rw [List.getD_eq_getElem?_getD, List.getElem?_set_self hr, Option.getD_some, eV]
      exact hu
    · rw [List.getD_eq_getElem?_getD, List.getElem?_set_ne (by omega), ← List.getD_eq_getElem?_getD]
      refine ⟨ownsRow_block (h3 r hr).1 fun k ek => hW k (World.ownsRow.lt (h3 r hr).1 k ek).2 fun e2 => ?_, (h3 r hr).2⟩
      rw [← eV] at e2
      rcases Nat.lt_or_gt_of_ne e with h | h
      · exact h4 r j h hj _ ek e2
      · exact h4 j r h hr _ e2 ek
  · intro r s hrs hlen
    rw [List.length_set] at hlen
    exact h4 r s hrs hlen
/-- An own slice lies in its own block alone. -/
theorem IntsO.narrow {E lo hi : Nat} {w : World} {v : Value} {xs : List Int} (h : IntsO E lo hi w v xs) : ∃ a b, lo ≤ b ∧ IntsO E a b w v xs ∧ (∀ k, v.ownBlock ≠ some k → k < a ∨ b ≤ k) ∧ (a < b → lo ≤ a ∧ b ≤ hi) := by
  rcases h.1.2 with ⟨rfl, h0⟩ | ⟨g, cap, cur, rfl, hg, hh, h5⟩
  · refine ⟨lo, lo, Nat.le_refl _, ⟨h.1, fun g e => by simp [Value.ownBlock] at e⟩, fun k _ => by omega, fun h => absurd h (Nat.lt_irrefl _)⟩
  · have := h.2 g rfl
    refine ⟨g, g + 1, by omega, ⟨⟨h.1.1, .inr ⟨g, cap, cur, rfl, Nat.le_refl _, hh, h5⟩⟩, fun k e => by simp [Value.ownBlock] at e; omega⟩, fun k hk => ?_, fun _ => ⟨hg, by omega⟩⟩
    have : k ≠ g := fun e => hk (by rw [e]; rfl)
    omega

/-- All rows marked from k on. -/
def markL (k : Int) (H : List (List Int)) : List (List Int) := (List.range H.length).map fun r => seqL (k + total (H.take r)) (H.getD r []).length
/-- The first j rows marked. -/
def markRows (k : Int) (H : List (List Int)) (j : Nat) : List (List Int) := (List.range H.length).map fun r => if r < j then seqL (k + total (H.take r)) (H.getD r []).length else H.getD r []
theorem markRows_len (k : Int) (H : List (List Int)) (j : Nat) : (markRows k H j).length = H.length := by simp [markRows]
theorem markRows_at (k : Int) (H : List (List Int)) (j : Nat) (h : j < H.length) : (markRows k H j).getD j [] = H.getD j [] := by simp [markRows, h]
theorem markRows_zero (k : Int) (H : List (List Int)) : markRows k H 0 = H := by
  apply List.ext_getElem
  · simp [markRows]
  · intro i h1 h2
    simp [markRows, h2]
theorem markRows_all (k : Int) (H : List (List Int)) : markRows k H H.length = markL k H := by
  unfold markRows markL
  exact List.map_congr_left fun i hi => by rw [if_pos (List.mem_range.1 hi)]
theorem markRows_set (k : Int) (H : List (List Int)) (j : Nat) (_h : j < H.length) : (markRows k H j).set j (seqL (k + total (H.take j)) (H.getD j []).length) = markRows k H (j + 1) := by
  apply List.ext_getElem
  · simp [markRows]
  · intro i h1 h2
    simp only [markRows, List.getElem_set, List.getElem_map, List.getElem_range]
    by_cases e : j = i
    · subst e; simp
    · rw [if_neg e]
      by_cases h : i < j
      · rw [if_pos h, if_pos (by omega)]
      · rw [if_neg h, if_neg (by omega)]
theorem markL_at (k : Int) (H : List (List Int)) (j : Nat) (h : j < H.length) : (markL k H).getD j [] = seqL (k + total (H.take j)) (H.getD j []).length := by simp [markL, h]
theorem markL_len (k : Int) (H : List (List Int)) : (markL k H).length = H.length := by simp [markL]

def MarkPost (lo hi : Nat) (v : Value) (H : List (List Int)) (k : Int) (w : World) (e : Ending) (w' : World) : Prop :=
  e = .returned (.int .i64 (k + total H)) ∧ RowsO 29 3 lo hi w' v (markL k H) ∧ Within lo hi w w'

end Go.Proofs.YtdfnhodhdfhhcaaDoor
