/- Pieces, as lists: cells beside each other that are joined (J); what it is to be the list of first cells; there is one at most. -/
import Derived.Test.YteojdpfhhbcjlaaDoorAroundM
import Derived.Test.YteojdpfhhbcjlaaDoorRowOf
namespace Go.Proofs.YteojdpfhhbcjlaaDoor
open Go.RowKit

/-- Over cells beside each other that are joined. -/
inductive Reach (n m : Nat) (J : Nat → Nat → Bool) (i : Nat) : Nat → Prop
  | refl : Reach n m J i i
  | step {j k : Nat} : Reach n m J i j → (k : Int) ∈ aroundL n m j → J j k = true → Reach n m J i k
def Symm (J : Nat → Nat → Bool) : Prop := ∀ i k, J i k = true → J k i = true

structure Flats (n m : Nat) (J : Nat → Nat → Bool) (f : List Int) : Prop where
  len : f.length = n * m
  ok : ∀ i, i < n * m → ∃ j : Nat, f.getD i 0 = j ∧ j ≤ i ∧ Reach n m J i j
  same : ∀ i, i < n * m → ∀ k : Nat, (k : Int) ∈ aroundL n m i → J i k = true → f.getD k 0 = f.getD i 0

theorem around_lt {n m i k : Nat} (hn : n ≤ 5) (hm : m ≤ 5) (hi : i < n * m) (hk : (k : Int) ∈ aroundL n m i) : k < n * m := by
  have := ((around_facts hn hm hi).1 k hk).2.1
  omega
theorem around_back {n m i k : Nat} (hn : n ≤ 5) (hm : m ≤ 5) (hi : i < n * m) (hk : (k : Int) ∈ aroundL n m i) : (i : Int) ∈ aroundL n m k := by
  have := ((around_facts hn hm hi).1 k hk).2.2
  rwa [Int.toNat_natCast] at this
theorem Reach.lt {n m i j : Nat} {J : Nat → Nat → Bool} (hn : n ≤ 5) (hm : m ≤ 5) (hi : i < n * m) (h : Reach n m J i j) : j < n * m := by
  induction h with
  | refl => exact hi
  | step _ hk _ ih => exact around_lt hn hm ih hk
theorem Reach.trans {n m i j k : Nat} {J : Nat → Nat → Bool} (h : Reach n m J i j) (g : Reach n m J j k) : Reach n m J i k := by
  induction g with
  | refl => exact h
  | step _ hk he ih => exact .step ih hk he
theorem Reach.symm {n m i j : Nat} {J : Nat → Nat → Bool} (hJ : Symm J) (hn : n ≤ 5) (hm : m ≤ 5) (hi : i < n * m) (h : Reach n m J i j) : Reach n m J j i := by
  induction h with
  | refl => exact .refl
  | step hj hk he ih => exact (Reach.step .refl (around_back hn hm (hj.lt hn hm hi) hk) (hJ _ _ he)).trans ih
theorem Flats.reach {n m i j : Nat} {J : Nat → Nat → Bool} {f : List Int} (hn : n ≤ 5) (hm : m ≤ 5) (F : Flats n m J f) (hi : i < n * m) (h : Reach n m J i j) : f.getD j 0 = f.getD i 0 := by
  induction h with
  | refl => rfl
  | step hj hk he ih => rw [F.same _ (hj.lt hn hm hi) _ hk he, ih]
theorem Flats.le {n m : Nat} {J : Nat → Nat → Bool} {f g : List Int} (hn : n ≤ 5) (hm : m ≤ 5) (F : Flats n m J f) (G : Flats n m J g) (i : Nat) (hi : i < n * m) : f.getD i 0 ≤ g.getD i 0 := by
  obtain ⟨j, e, _, hr⟩ := G.ok i hi
  obtain ⟨k, e2, hk, _⟩ := F.ok j (hr.lt hn hm hi)
  rw [e, ← F.reach hn hm hi hr, e2]
  omega
theorem Flats.uniq {n m : Nat} {J : Nat → Nat → Bool} {f g : List Int} (hn : n ≤ 5) (hm : m ≤ 5) (F : Flats n m J f) (G : Flats n m J g) : f = g := by
  apply List.ext_getElem
  · rw [F.len, G.len]
  · intro i h1 h2
    have h3 := F.le hn hm G i (by rw [← F.len]; exact h1)
    have h4 := G.le hn hm F i (by rw [← F.len]; exact h1)
    have e1 : f.getD i 0 = f[i] := by simp [h1]
    have e2 : g.getD i 0 = g[i] := by simp [h2]
    rw [← e1, ← e2]
    omega

/-- Joined as they are of one height. -/
def sameH (p : List Int) (i k : Nat) : Bool := decide (p.getD i 0 = p.getD k 0)
theorem sameH_iff {p : List Int} {i k : Nat} : sameH p i k = true ↔ p.getD i 0 = p.getD k 0 := by simp [sameH]
theorem sameH_symm (p : List Int) : Symm (sameH p) := fun _ _ h => sameH_iff.2 (sameH_iff.1 h).symm
theorem Reach.high {n m i j : Nat} {p : List Int} (h : Reach n m (sameH p) i j) : p.getD j 0 = p.getD i 0 := by
  induction h with
  | refl => rfl
  | step _ _ he ih => rw [← sameH_iff.1 he, ih]

/-- The height of a cell. -/
theorem flat_at {h : List (List Int)} {m : Nat} (g : Grid h m) (I : Nat) (hI : I < h.length * m) : h.flatten.getD I 0 = (h.getD (I / m) []).getD (I % m) 0 := by
  have hm : 0 < m := g.m1
  have hr : I / m < h.length := div_lt_of h.length m I hI
  have hc : I % m < m := Nat.mod_lt I hm
  have e1 : h = h.take (I / m) ++ (h.getD (I / m) [] :: h.drop (I / m + 1)) := by
    have e : h.getD (I / m) [] = h[I / m] := by simp [hr]
    rw [e, List.getElem_cons_drop, List.take_append_drop]
  have e2 := flat_grid g (I / m) (Nat.le_of_lt hr)
  have e3 := g.len (I / m) hr
  obtain ⟨row, er⟩ : ∃ row, h.getD (I / m) [] = row := ⟨_, rfl⟩
  rw [er] at e1 e3 ⊢
  have e4 : h.flatten = (h.take (I / m)).flatten ++ (row ++ (h.drop (I / m + 1)).flatten) := by
    conv => lhs; rw [e1]
    simp
  have e5 := Nat.div_add_mod I m
  have e6 : m * (I / m) = I / m * m := Nat.mul_comm _ _
  rw [e4, List.getD_eq_getElem?_getD, List.getElem?_append_right (by omega), e2, List.getElem?_append_left (by omega), ← List.getD_eq_getElem?_getD]
  congr 1
  omega
end Go.Proofs.YteojdpfhhbcjlaaDoor
