/- Flats by sinking labels, as lists: what each step keeps, and that it ends. -/
import Derived.Test.YteojdpfhhbcjlaaDoorBfs
namespace Go.Proofs.YteojdpfhhbcjlaaDoor
open Go.RowKit

theorem sum_set (l : List Int) (k : Nat) (v : Int) (hk : k < l.length) : (l.set k v).sum + l.getD k 0 = l.sum + v := by
  induction l generalizing k with
  | nil => exact absurd hk (Nat.not_lt_zero _)
  | cons a l ih =>
    rcases k with _ | k
    · simp; omega
    · have := ih k (by simpa using hk)
      simp only [List.set_cons_succ, List.sum_cons, List.getD_cons_succ]
      omega

/-- Each label is reached, and no later. -/
structure Low (n m : Nat) (J : Nat → Nat → Bool) (xs : List Int) : Prop where
  len : xs.length = n * m
  ok : ∀ i, i < n * m → ∃ j : Nat, xs.getD i 0 = j ∧ j ≤ i ∧ Reach n m J i j
theorem low_start (n m : Nat) (J : Nat → Nat → Bool) (xs : List Int) (hl : xs.length = n * m) (h : ∀ i, i < n * m → xs.getD i 0 = i) : Low n m J xs :=
  ⟨hl, fun i hi => ⟨i, h i hi, Nat.le_refl _, .refl⟩⟩
theorem low_sum (l : List Int) (h : ∀ i, i < l.length → 0 ≤ l.getD i 0) : 0 ≤ l.sum := by
  induction l with
  | nil => simp
  | cons a l ih =>
    have h0 := h 0 (by simp)
    have := ih fun i hi => by have := h (i + 1) (by simpa using hi); simpa using this
    simp at h0 ⊢
    omega
theorem Low.sum {n m : Nat} {J : Nat → Nat → Bool} {xs : List Int} (L : Low n m J xs) : 0 ≤ xs.sum := low_sum xs fun i hi => by
  obtain ⟨j, e, _⟩ := L.ok i (by rw [← L.len]; exact hi)
  rw [e]; omega
theorem Low.sink {n m i k : Nat} {J : Nat → Nat → Bool} {xs : List Int} (L : Low n m J xs) (hn : n ≤ 5) (hm : m ≤ 5) (hi : i < n * m) (hk : (k : Int) ∈ aroundL n m i) (hp : J i k = true) (hlt : xs.getD k 0 < xs.getD i 0) :
    Low n m J (xs.set i (xs.getD k 0)) ∧ (xs.set i (xs.getD k 0)).sum < xs.sum := by
  have hkN := around_lt hn hm hi hk
  have hl := L.len
  obtain ⟨j, e, _, hr⟩ := L.ok k hkN
  obtain ⟨j2, e2, h2, _⟩ := L.ok i hi
  refine ⟨⟨by simp [hl], fun x hx => ?_⟩, ?_⟩
  · rw [getD_set _ _ _ _ (by omega)]
    by_cases ex : x = i
    · rw [if_pos ex]
      subst ex
      exact ⟨j, e, by omega, (Reach.step .refl hk hp).trans hr⟩
    · rw [if_neg ex]; exact L.ok x hx
  · have := sum_set xs i (xs.getD k 0) (by omega)
    omega
/-- Nothing sinks at the cells before i, nor at the first t of those beside i. -/
def Calm (n m : Nat) (J : Nat → Nat → Bool) (xs : List Int) (i t : Nat) : Prop :=
  ∀ x s k : Nat, (x < i ∨ (x = i ∧ s < t)) → s < (aroundL n m x).length → (aroundL n m x).getD s 0 = k → J x k = true → ¬ xs.getD k 0 < xs.getD x 0
theorem calm_start (n m : Nat) (J : Nat → Nat → Bool) (xs : List Int) : Calm n m J xs 0 0 := fun x s k h => by omega
theorem Calm.next {n m i t : Nat} {J : Nat → Nat → Bool} {xs : List Int} (C : Calm n m J xs i t) (ht : t = (aroundL n m i).length) : Calm n m J xs (i + 1) 0 := fun x s k h hs he hp => by
  refine C x s k ?_ hs he hp
  by_cases e : x = i
  · subst e; exact .inr ⟨rfl, by omega⟩
  · exact .inl (by omega)
theorem Calm.skip {n m i t K : Nat} {J : Nat → Nat → Bool} {xs : List Int} (C : Calm n m J xs i t) (hK : (aroundL n m i).getD t 0 = K) (h : J i K = true → ¬ xs.getD K 0 < xs.getD i 0) : Calm n m J xs i (t + 1) := fun x s k hx hs he hp => by
  by_cases e : x = i ∧ s = t
  · obtain ⟨rfl, rfl⟩ := e
    have : k = K := by omega
    subst this
    exact h hp
  · exact C x s k (by omega) hs he hp
theorem Low.flats {n m : Nat} {J : Nat → Nat → Bool} {xs : List Int} (L : Low n m J xs) (hJ : Symm J) (hn : n ≤ 5) (hm : m ≤ 5) (C : Calm n m J xs (n * m) 0) : Flats n m J xs := by
  have key : ∀ i k : Nat, i < n * m → (k : Int) ∈ aroundL n m i → J i k = true → ¬ xs.getD k 0 < xs.getD i 0 := fun i k hi hk he => by
    obtain ⟨s, hs1, hs2⟩ := List.getElem_of_mem hk
    exact C i s k (.inl hi) hs1 (by simp [hs1, hs2]) he
  refine ⟨L.len, L.ok, fun i hi k hk he => ?_⟩
  have h1 := key i k hi hk he
  have h2 := key k i (around_lt hn hm hi hk) (around_back hn hm hi hk) (hJ _ _ he)
  omega
end Go.Proofs.YteojdpfhhbcjlaaDoor
