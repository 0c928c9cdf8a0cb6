/- Cells in the order in which rising water comes to them, as lists. -/
import Derived.Test.YtaeenedjmakelaaDoorKeepG
namespace Go.Proofs.YtaeenedjmakelaaDoor
open Go.RowKit

theorem ahead_irrefl (p : List Int) (a : Nat) : ahead p a a = false := by
  cases h : ahead p a a with
  | false => rfl
  | true => have := ahead_iff.1 h; omega
theorem ahead_asymm {p : List Int} {a b : Nat} (h : ahead p a b = true) : ahead p b a = false := by
  cases g : ahead p b a with
  | false => rfl
  | true => have := ahead_iff.1 h; have := ahead_iff.1 g; omega
theorem ahead_trans {p : List Int} {a b c : Nat} (h : ahead p a b = true) (g : ahead p b c = true) : ahead p a c = true := by
  have := ahead_iff.1 h; have := ahead_iff.1 g; exact ahead_iff.2 (by omega)
theorem ahead_total {p : List Int} {a b : Nat} (h1 : ahead p a b = false) (h2 : ahead p b a = false) : a = b := by
  have h3 : ¬ ahead p a b = true := by rw [h1]; simp
  have h4 : ¬ ahead p b a = true := by rw [h2]; simp
  rw [ahead_iff] at h3 h4
  omega
/-- Where a number is put into a list of cells: behind the last one, from the end, that is no higher. -/
def posO (l : List Nat) (p : List Int) (x : Int) : Nat → Nat
  | 0 => 0
  | k + 1 => if x < p.getD (l.getD k 0) 0 then posO l p x k else k + 1
theorem posO_le (l : List Nat) (p : List Int) (x : Int) : ∀ k, posO l p x k ≤ k
  | 0 => Nat.le_refl _
  | k + 1 => by
    have := posO_le l p x k
    rw [posO]; split <;> omega
theorem posO_high (l : List Nat) (p : List Int) (x : Int) : ∀ k j, posO l p x k ≤ j → j < k → x < p.getD (l.getD j 0) 0
  | 0, j, _, h => absurd h (Nat.not_lt_zero _)
  | k + 1, j, h1, h2 => by
    rw [posO] at h1
    split at h1
    · rename_i h
      by_cases e : j = k
      · subst e; exact h
      · exact posO_high l p x k j h1 (by omega)
    · omega
theorem posO_low (l : List Nat) (p : List Int) (x : Int) : ∀ k, posO l p x k ≠ 0 → p.getD (l.getD (posO l p x k - 1) 0) 0 ≤ x
  | 0, h => absurd rfl h
  | k + 1, h => by
    rw [posO] at h ⊢
    split
    · rename_i hlt
      rw [if_pos hlt] at h
      exact posO_low l p x k h
    · rename_i hlt
      rw [Nat.add_sub_cancel]; omega
/-- The first i cells in their order. -/
def ordTo (p : List Int) : Nat → List Nat
  | 0 => []
  | i + 1 => (ordTo p i).take (posO (ordTo p i) p (p.getD i 0) (ordTo p i).length) ++ i :: (ordTo p i).drop (posO (ordTo p i) p (p.getD i 0) (ordTo p i).length)
theorem ordTo_perm (p : List Int) : ∀ i, (ordTo p i).Perm (List.range i)
  | 0 => List.Perm.refl _
  | i + 1 => by
    have ih := ordTo_perm p i
    rw [ordTo, List.range_succ]
    refine (List.perm_middle).trans ?_
    rw [List.take_append_drop]
    exact (List.Perm.cons i ih).trans (List.perm_append_singleton i (List.range i)).symm
theorem ordTo_len (p : List Int) (i : Nat) : (ordTo p i).length = i := by rw [(ordTo_perm p i).length_eq, List.length_range]
theorem mem_ordTo {p : List Int} {i x : Nat} : x ∈ ordTo p i ↔ x < i := by rw [(ordTo_perm p i).mem_iff, List.mem_range]
theorem ordTo_sorted (p : List Int) : ∀ i, (ordTo p i).Pairwise fun a b => ahead p a b = true
  | 0 => List.Pairwise.nil
  | i + 1 => by
    have ih := ordTo_sorted p i
    have hlen := ordTo_len p i
    have hm : ∀ x, x ∈ ordTo p i → x < i := fun x hx => mem_ordTo.1 hx
    rw [ordTo]
    obtain ⟨l, el⟩ : ∃ l, ordTo p i = l := ⟨_, rfl⟩
    rw [el] at ih hlen hm ⊢
    obtain ⟨k, ek⟩ : ∃ k, posO l p (p.getD i 0) l.length = k := ⟨_, rfl⟩
    have hkl : k ≤ l.length := by rw [← ek]; exact posO_le _ _ _ _
    have hhi : ∀ j, k ≤ j → j < l.length → p.getD i 0 < p.getD (l.getD j 0) 0 := fun j h1 h2 => posO_high l p _ l.length j (by rw [ek]; exact h1) h2
    have hlo : k ≠ 0 → p.getD (l.getD (k - 1) 0) 0 ≤ p.getD i 0 := fun h => by
      have := posO_low l p (p.getD i 0) l.length (by rw [ek]; exact h)
      rwa [ek] at this
    rw [ek]
    have gd : ∀ j, (hj : j < l.length) → l.getD j 0 = l[j] := fun j hj => by simp [hj]
    have low : ∀ j, j < k → ahead p (l.getD j 0) i = true := fun j hj => by
      have h0 := hlo (by omega)
      have hji : l.getD j 0 < i := hm _ (by rw [gd j (by omega)]; exact List.getElem_mem _)
      by_cases e : j = k - 1
      · subst e
        exact ahead_iff.2 (by omega)
      · have := List.pairwise_iff_getElem.1 ih j (k - 1) (by omega) (by omega) (by omega)
        rw [← gd j (by omega), ← gd (k - 1) (by omega)] at this
        have := ahead_iff.1 this
        exact ahead_iff.2 (by omega)
    refine List.pairwise_append.2 ⟨List.Pairwise.sublist (List.take_sublist _ _) ih, List.pairwise_cons.2 ⟨fun b hb => ?_, List.Pairwise.sublist (List.drop_sublist _ _) ih⟩, fun a ha b hb => ?_⟩
    · obtain ⟨j, hj, rfl⟩ := List.getElem_of_mem hb
      rw [List.length_drop] at hj
      have := hhi (k + j) (by omega) (by omega)
      rw [gd _ (by omega)] at this
      rw [List.getElem_drop]
      exact ahead_iff.2 (.inl this)
    · obtain ⟨j, hj, rfl⟩ := List.getElem_of_mem ha
      rw [List.length_take] at hj
      have h1 := low j (by omega)
      rw [gd j (by omega)] at h1
      rw [List.getElem_take]
      rcases List.mem_cons.1 hb with rfl | hb
      · exact h1
      · obtain ⟨t, ht, rfl⟩ := List.getElem_of_mem hb
        rw [List.length_drop] at ht
        rw [List.getElem_drop]
        have := hhi (k + t) (by omega) (by omega)
        rw [gd _ (by omega)] at this
        exact ahead_trans h1 (ahead_iff.2 (.inl this))
/-- A list of all cells in which none is ahead of one before it is this one. -/
theorem ord_unique {p : List Int} {N : Nat} {L : List Nat} (hp : L.Perm (List.range N)) (hs : L.Pairwise fun a b => ahead p b a = false) : L = ordTo p N :=
  List.Perm.eq_of_pairwise (le := fun a b => ahead p b a = false) (fun _ _ _ _ h1 h2 => ahead_total h2 h1) hs ((ordTo_sorted p N).imp fun h => ahead_asymm h) (hp.trans (ordTo_perm p N).symm)
/-- Numbers of cells as the program has them. -/
def castL (l : List Nat) : List Int := l.map fun (x : Nat) => (x : Int)
theorem castL_len (l : List Nat) : (castL l).length = l.length := by simp [castL]
theorem castL_at (l : List Nat) (j : Nat) (h : j < l.length) : (castL l).getD j 0 = (l.getD j 0 : Nat) := by simp [castL, h]
end Go.Proofs.YtaeenedjmakelaaDoor
