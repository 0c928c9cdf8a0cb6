/- Grids as lists: what it is to be one, turned and upside down; lists that grow. -/
import Derived.Test.YtaeenedjmakelaaDoorGrid
import Derived.Test.YtaeenedjmakelaaDoorBase
namespace Go.Proofs.YtaeenedjmakelaaDoor
open Go.RowKit

theorem Tryd.infoI : (Tryd.prog.info? 3).map (fun i => (i.zero, i.size, i.bytes)) = some (some (.int .i64 0), 1, 8) := by kernel_rfl
theorem Tryd.infoIs : (Tryd.prog.info? 22).map (fun i => (i.zero, i.size, i.bytes)) = some (some (.slice none 0 0), 1, 24) := by kernel_rfl

/-- What it is to be a grid. -/
structure Grid (h : List (List Int)) (m : Nat) : Prop where
  n1 : 1 ≤ h.length
  n5 : h.length ≤ 5
  m1 : 1 ≤ m
  m5 : m ≤ 5
  len : ∀ r, r < h.length → (h.getD r []).length = m
  num : ∀ r, r < h.length → ∀ c, c < m → 0 ≤ (h.getD r []).getD c 0 ∧ (h.getD r []).getD c 0 ≤ 12
/-- The shape of a grid, whatever its numbers. -/
structure Shp (h : List (List Int)) (m : Nat) : Prop where
  n1 : 1 ≤ h.length
  n5 : h.length ≤ 5
  m1 : 1 ≤ m
  m5 : m ≤ 5
  len : ∀ r, r < h.length → (h.getD r []).length = m
theorem Grid.shp {h : List (List Int)} {m : Nat} (g : Grid h m) : Shp h m := ⟨g.n1, g.n5, g.m1, g.m5, g.len⟩
theorem all_get {α : Type} {p : α → Bool} {xs : List α} (d : α) (h : xs.all p = true) (k : Nat) (hk : k < xs.length) : p (xs.getD k d) = true := by
  have := List.all_eq_true.1 h xs[k] (List.getElem_mem hk)
  simpa [hk] using this
theorem all_of_get {α : Type} {p : α → Bool} {xs : List α} (d : α) (h : ∀ k, k < xs.length → p (xs.getD k d) = true) : xs.all p = true := by
  rw [List.all_eq_true]
  intro x hx
  obtain ⟨k, hk, rfl⟩ := List.getElem_of_mem hx
  have := h k hk
  simpa [hk] using this
theorem Grid.of {h : List (List Int)} (hv : vGrid h = true) : Grid h (h.getD 0 []).length := by
  simp only [vGrid, Bool.and_eq_true, decide_eq_true_eq] at hv
  obtain ⟨⟨h1, h5⟩, ha⟩ := hv
  have hr := fun r hr => all_get [] ha r hr
  simp only [Bool.and_eq_true, decide_eq_true_eq, vRow] at hr
  have h0 := hr 0 (by omega)
  refine ⟨h1, h5, h0.2.1.1, h0.2.1.2, fun r hl => (hr r hl).1, fun r hl c hc => ?_⟩
  have := all_get 0 (hr r hl).2.2 c (by rw [(hr r hl).1]; exact hc)
  simpa [okH] using this
theorem Grid.to {h : List (List Int)} {m : Nat} (g : Grid h m) : vGrid h = true := by
  simp only [vGrid, Bool.and_eq_true, decide_eq_true_eq]
  refine ⟨⟨g.n1, g.n5⟩, all_of_get [] fun r hr => ?_⟩
  have h0 := g.len 0 g.n1
  simp only [vRow, Bool.and_eq_true, decide_eq_true_eq]
  refine ⟨by rw [g.len r hr, h0], ⟨by rw [g.len r hr]; exact g.m1, by rw [g.len r hr]; exact g.m5⟩, all_of_get 0 fun c hc => ?_⟩
  rw [g.len r hr] at hc
  have := g.num r hr c hc
  simp only [okH, Bool.and_eq_true, decide_eq_true_eq]
  exact this

/-- Rows as columns. -/
def flipL (h : List (List Int)) : List (List Int) := (List.range (h.getD 0 []).length).map fun c => h.map fun row => row.getD c 0
/-- Upside down. -/
def underL (h : List (List Int)) : List (List Int) := h.map fun row => row.map fun x => 12 - x
theorem getD_map' {α β : Type} (f : α → β) (l : List α) (i : Nat) (d : α) (e : β) (h : i < l.length) : (l.map f).getD i e = f (l.getD i d) := by simp [h]
theorem getD_range' (n i : Nat) (d : Nat) (h : i < n) : (List.range n).getD i d = i := by simp [h]
theorem flip_grid {h : List (List Int)} {m : Nat} (g : Grid h m) : Grid (flipL h) h.length := by
  have h0 := g.len 0 g.n1
  have hl : (flipL h).length = m := by simp [flipL]; simpa using h0
  have hr : ∀ r, r < m → (flipL h).getD r [] = h.map fun row => row.getD r 0 := fun r hr => by
    unfold flipL
    rw [getD_map' _ _ r 0 [] (by simpa [← h0] using hr), getD_range' _ _ _ (by rw [h0]; exact hr)]
  refine ⟨by rw [hl]; exact g.m1, by rw [hl]; exact g.m5, g.n1, g.n5, fun r hlt => ?_, fun r hlt c hc => ?_⟩
  · rw [hr r (by rwa [hl] at hlt), List.length_map]
  · rw [hl] at hlt
    rw [hr r hlt, getD_map' _ _ c [] 0 hc]
    exact g.num c hc r hlt
theorem under_grid {h : List (List Int)} {m : Nat} (g : Grid h m) : Grid (underL h) m := by
  have hl : (underL h).length = h.length := by simp [underL]
  have hr : ∀ r, r < h.length → (underL h).getD r [] = (h.getD r []).map fun x => 12 - x := fun r hr => by
    unfold underL
    rw [getD_map' _ _ r [] [] hr]
  refine ⟨by rw [hl]; exact g.n1, by rw [hl]; exact g.n5, g.m1, g.m5, fun r hlt => ?_, fun r hlt c hc => ?_⟩
  · rw [hl] at hlt; rw [hr r hlt, List.length_map]; exact g.len r hlt
  · rw [hl] at hlt
    rw [hr r hlt, getD_map' _ _ c 0 0 (by rw [g.len r hlt]; exact hc)]
    have := g.num r hlt c hc
    omega

theorem snoc_map {α β : Type} {f : α → β} {l : List α} {xs : List β} {y : β} (d : α) (h : xs = (l.take xs.length).map f) (hl : xs.length < l.length) (hy : y = f (l.getD xs.length d)) : xs ++ [y] = (l.take (xs ++ [y]).length).map f := by
  rw [List.length_append, List.length_singleton, List.take_succ_eq_append_getElem hl, List.map_append, ← h, hy]
  simp [hl]
theorem snoc_take {α : Type} {l : List α} {xs : List α} {y : α} (d : α) (h : xs = l.take xs.length) (hl : xs.length < l.length) (hy : y = l.getD xs.length d) : xs ++ [y] = l.take (xs ++ [y]).length := by
  rw [List.length_append, List.length_singleton, List.take_succ_eq_append_getElem hl, ← h, hy]
  simp [hl]
theorem flipL_len {h : List (List Int)} {m : Nat} (e : (h.getD 0 []).length = m) : (flipL h).length = m := by simp [flipL]; simpa using e
theorem flipL_at {h : List (List Int)} {m : Nat} (e : (h.getD 0 []).length = m) (r : Nat) (hr : r < m) : (flipL h).getD r [] = h.map fun row => row.getD r 0 := by
  unfold flipL
  rw [getD_map' _ _ r 0 [] (by simpa [← e] using hr), getD_range' _ _ _ (by rw [e]; exact hr)]
def NewRows (w : World) (H : List (List Int)) (e : Ending) (w' : World) : Prop := ∃ v, e = .returned v ∧ RowsO 22 3 w.heap.size w'.heap.size w' v H ∧ Grew w w'

end Go.Proofs.YtaeenedjmakelaaDoor
