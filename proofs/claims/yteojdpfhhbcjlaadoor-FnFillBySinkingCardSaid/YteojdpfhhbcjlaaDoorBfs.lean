/- The search for pieces by a queue, as lists. -/
import Derived.Test.YteojdpfhhbcjlaaDoorFlatsM
namespace Go.Proofs.YteojdpfhhbcjlaaDoor
open Go.RowKit

theorem getD_set (l : List Int) (k i : Nat) (v : Int) (hk : k < l.length) : (l.set k v).getD i 0 = if i = k then v else l.getD i 0 := by
  by_cases e : i = k
  · subst e; simp [hk]
  · rw [if_neg e, List.getD_eq_getElem?_getD, List.getElem?_set_ne (fun e2 => e e2.symm), ← List.getD_eq_getElem?_getD]
theorem count_set (l : List Int) (k : Nat) (v : Int) (hk : k < l.length) (h1 : l.getD k 0 = -1) (h2 : v ≠ -1) : (l.set k v).count (-1) + 1 = l.count (-1) := by
  induction l generalizing k with
  | nil => exact absurd hk (Nat.not_lt_zero _)
  | cons a l ih =>
    rcases k with _ | k
    · simp at h1
      subst h1
      simp [h2]
    · simp at hk h1
      have := ih k hk (by simpa using h1)
      simp only [List.set_cons_succ, List.count_cons]
      omega

/-- Cells met so far: each has the first cell of its flat. -/
structure Met (n m : Nat) (J : Nat → Nat → Bool) (c : Nat) (fs : List Int) : Prop where
  len : fs.length = n * m
  ok : ∀ i, i < n * m → fs.getD i 0 = -1 ∨ ∃ j : Nat, fs.getD i 0 = j ∧ j ≤ i ∧ j < c ∧ Reach n m J i j
  below : ∀ i, i < c → i < n * m → fs.getD i 0 ≠ -1
/-- Between two first cells. -/
structure Between (n m : Nat) (J : Nat → Nat → Bool) (c : Nat) (fs : List Int) : Prop extends Met n m J c fs where
  closed : ∀ i, i < n * m → fs.getD i 0 ≠ -1 → ∀ k : Nat, (k : Int) ∈ aroundL n m i → J i k = true → fs.getD k 0 = fs.getD i 0
/-- While the flat of c is gone over: the queue, from place q on, is not done. -/
structure Going (n m : Nat) (J : Nat → Nat → Bool) (c : Nat) (fs met : List Int) (q : Nat) : Prop extends Met n m J (c + 1) fs where
  mets : ∀ s, s < met.length → ∃ X : Nat, met.getD s 0 = X ∧ X < n * m ∧ fs.getD X 0 = c
  closed : ∀ i, i < n * m → fs.getD i 0 ≠ -1 → (∀ s, q ≤ s → s < met.length → met.getD s 0 ≠ i) → ∀ k : Nat, (k : Int) ∈ aroundL n m i → J i k = true → fs.getD k 0 = fs.getD i 0
  room : met.length + fs.count (-1) ≤ n * m
/-- The first t of the cells beside the one at place q are done. -/
def Done (n m : Nat) (J : Nat → Nat → Bool) (c : Nat) (fs met : List Int) (q t : Nat) : Prop :=
  ∀ s k : Nat, s < t → s < (aroundL n m (met.getD q 0).toNat).length → (aroundL n m (met.getD q 0).toNat).getD s 0 = k → J (met.getD q 0).toNat k = true → fs.getD k 0 = c

theorem between_start (n m : Nat) (J : Nat → Nat → Bool) : Between n m J 0 (List.replicate (n * m) (-1)) := by
  have e : ∀ i, i < n * m → (List.replicate (n * m) (-1 : Int)).getD i 0 = -1 := fun i hi => by simp [hi]
  exact ⟨⟨by simp, fun i hi => .inl (e i hi), fun i hi => absurd hi (Nat.not_lt_zero _)⟩, fun i hi h => absurd (e i hi) h⟩
theorem Between.flats {n m : Nat} {J : Nat → Nat → Bool} {fs : List Int} (B : Between n m J (n * m) fs) : Flats n m J fs := by
  refine ⟨B.len, fun i hi => ?_, fun i hi => B.closed i hi (B.below i hi hi)⟩
  rcases B.ok i hi with h | ⟨j, h1, h2, _, h3⟩
  · exact absurd h (B.below i hi hi)
  · exact ⟨j, h1, h2, h3⟩
theorem Between.next {n m c : Nat} {J : Nat → Nat → Bool} {fs : List Int} (B : Between n m J c fs) (h : fs.getD c 0 ≠ -1) : Between n m J (c + 1) fs := by
  refine ⟨⟨B.len, fun i hi => ?_, fun i hi hi2 => ?_⟩, B.closed⟩
  · rcases B.ok i hi with h | ⟨j, h1, h2, h3, h4⟩
    · exact .inl h
    · exact .inr ⟨j, h1, h2, by omega, h4⟩
  · by_cases e : i = c
    · subst e; exact h
    · exact B.below i (by omega) hi2
theorem Going.between {n m c : Nat} {J : Nat → Nat → Bool} {fs met : List Int} (G : Going n m J c fs met met.length) : Between n m J (c + 1) fs :=
  ⟨G.toMet, fun i hi h k hk he => G.closed i hi h (fun s h1 h2 => by omega) k hk he⟩
theorem count_le (l : List Int) : l.count (-1) ≤ l.length := List.count_le_length
theorem Between.going {n m c : Nat} {J : Nat → Nat → Bool} {fs : List Int} (B : Between n m J c fs) (hc : c < n * m) (h : fs.getD c 0 = -1) : Going n m J c (fs.set c c) [(c : Int)] 0 := by
  have hl := B.len
  have g : ∀ i, (fs.set c (c : Int)).getD i 0 = if i = c then (c : Int) else fs.getD i 0 := fun i => getD_set fs c i c (by omega)
  refine ⟨⟨by simp [hl], fun i hi => ?_, fun i hi hi2 => ?_⟩, fun s hs => ?_, fun i hi hne hno k hk he => ?_, ?_⟩
  · rw [g]
    by_cases e : i = c
    · rw [if_pos e]; exact .inr ⟨c, rfl, by omega, by omega, by subst e; exact .refl⟩
    · rw [if_neg e]
      rcases B.ok i hi with h | ⟨j, h1, h2, h3, h4⟩
      · exact .inl h
      · exact .inr ⟨j, h1, h2, by omega, h4⟩
  · rw [g]
    by_cases e : i = c
    · rw [if_pos e]; omega
    · rw [if_neg e]; exact B.below i (by omega) hi2
  · have : s = 0 := by simp at hs; omega
    subst this
    exact ⟨c, rfl, hc, by rw [g, if_pos rfl]⟩
  · have hic : i ≠ c := fun e => hno 0 (Nat.le_refl _) (by simp) (by simp [e])
    rw [g i, if_neg hic] at hne ⊢
    have := B.closed i hi hne k hk he
    rw [g]
    by_cases e : k = c
    · rw [e] at this; rw [h] at this; exact absurd this.symm hne
    · rw [if_neg e]; exact this
  · have := count_set fs c c (by omega) h (by omega)
    have := count_le fs
    simp only [List.length_singleton]
    omega
theorem Going.high {n m c X : Nat} {J : Nat → Nat → Bool} {fs met : List Int} {q : Nat} (G : Going n m J c fs met q) (hX : X < n * m) (h : fs.getD X 0 = c) : Reach n m J X c := by
  rcases G.ok X hX with h1 | ⟨j, h1, _, _, h2⟩
  · omega
  · have : j = c := by omega
    subst this; exact h2
/-- A cell beside is met. -/
theorem Going.mark {n m c k t : Nat} {J : Nat → Nat → Bool} {fs met : List Int} {q : Nat} (hJ : Symm J) (hn : n ≤ 5) (hm : m ≤ 5) (G : Going n m J c fs met q) (hq : q < met.length) (D : Done n m J c fs met q t)
    (ht : t < (aroundL n m (met.getD q 0).toNat).length) (hk : (aroundL n m (met.getD q 0).toNat).getD t 0 = k) (h1 : fs.getD k 0 = -1) (h2 : J (met.getD q 0).toNat k = true) :
    Going n m J c (fs.set k c) (met ++ [(k : Int)]) q ∧ Done n m J c (fs.set k c) (met ++ [(k : Int)]) q (t + 1) ∧ (met ++ [(k : Int)]).getD q 0 = met.getD q 0 := by
  obtain ⟨X, hX1, hX2, hX3⟩ := G.mets q hq
  have hR := G.high hX2 hX3
  rw [hX1, Int.toNat_natCast] at ht hk h2
  have hmem : (k : Int) ∈ aroundL n m X := by
    rw [← hk, List.getD_eq_getElem?_getD, List.getElem?_eq_getElem ht]
    exact List.getElem_mem ht
  have hkN := around_lt hn hm hX2 hmem
  have hl := G.len
  have hkl : k < fs.length := by omega
  have g : ∀ i, (fs.set k (c : Int)).getD i 0 = if i = k then (c : Int) else fs.getD i 0 := fun i => getD_set fs k i c hkl
  have hck : c < k := by
    rcases Nat.lt_or_ge c k with h | h
    · exact h
    · exact absurd h1 (G.below k (by omega) hkN)
  have hRk : Reach n m J k c := (Reach.step .refl (around_back hn hm hX2 hmem) (hJ _ _ h2)).trans hR
  have eq : (met ++ [(k : Int)]).getD q 0 = met.getD q 0 := getD_append_l _ _ _ _ hq
  refine ⟨⟨⟨by simp [hl], fun i hi => ?_, fun i hi hi2 => ?_⟩, fun s hs => ?_, fun i hi hne hno j hj he => ?_, ?_⟩, ?_, eq⟩
  · rw [g]
    by_cases e : i = k
    · rw [if_pos e]; subst e; exact .inr ⟨c, rfl, by omega, by omega, hRk⟩
    · rw [if_neg e]; exact G.ok i hi
  · rw [g]
    by_cases e : i = k
    · rw [if_pos e]; omega
    · rw [if_neg e]; exact G.below i hi hi2
  · by_cases e : s = met.length
    · subst e
      exact ⟨k, getD_append_r _ _ _, hkN, by rw [g, if_pos rfl]⟩
    · have hs' : s < met.length := by simp at hs; omega
      obtain ⟨Y, hY1, hY2, hY3⟩ := G.mets s hs'
      refine ⟨Y, by rw [getD_append_l _ _ _ _ hs', hY1], hY2, ?_⟩
      rw [g]
      by_cases e2 : Y = k
      · rw [if_pos e2]
      · rw [if_neg e2, hY3]
  · have hik : i ≠ k := fun e => hno met.length (by omega) (by simp) (by rw [getD_append_r, e])
    rw [g i, if_neg hik] at hne ⊢
    have := G.closed i hi hne (fun s hs1 hs2 => by have := hno s hs1 (by simp; omega); rwa [getD_append_l _ _ _ _ hs2] at this) j hj he
    rw [g]
    by_cases e : j = k
    · rw [e] at this; rw [h1] at this; exact absurd this.symm hne
    · rw [if_neg e]; exact this
  · have := count_set fs k c hkl h1 (by omega)
    have := G.room
    simp only [List.length_append, List.length_singleton]
    omega
  · intro s j hs hs2 hj hp
    rw [eq] at hs2 hj hp
    rw [g]
    by_cases e : j = k
    · rw [if_pos e]
    · rw [if_neg e]
      by_cases e2 : s = t
      · subst e2; rw [hX1, Int.toNat_natCast, hk] at hj; omega
      · exact D s j (by omega) hs2 hj hp
/-- A cell beside is of another height, or met. -/
theorem Going.skip {n m c k t : Nat} {J : Nat → Nat → Bool} {fs met : List Int} {q : Nat} (hJ : Symm J) (hn : n ≤ 5) (hm : m ≤ 5) (G : Going n m J c fs met q) (hq : q < met.length) (D : Done n m J c fs met q t)
    (ht : t < (aroundL n m (met.getD q 0).toNat).length) (hk : (aroundL n m (met.getD q 0).toNat).getD t 0 = k) (h : fs.getD k 0 ≠ -1 ∨ J (met.getD q 0).toNat k = false) : Done n m J c fs met q (t + 1) := by
  intro s j hs hs2 hj hp
  by_cases e2 : s = t
  · subst e2
    rw [hk] at hj
    have : j = k := by omega
    subst this
    rcases h with h | h
    · obtain ⟨X, hX1, hX2, hX3⟩ := G.mets q hq
      have hR := G.high hX2 hX3
      rw [hX1, Int.toNat_natCast] at ht hk hp
      have hmem : (j : Int) ∈ aroundL n m X := by
        rw [← hk, List.getD_eq_getElem?_getD, List.getElem?_eq_getElem ht]
        exact List.getElem_mem ht
      have hjN := around_lt hn hm hX2 hmem
      by_cases hin : ∀ s, q ≤ s → s < met.length → met.getD s 0 ≠ j
      · have := G.closed j hjN h hin X (around_back hn hm hX2 hmem) (hJ _ _ hp)
        rw [← this, hX3]
      · simp only [Classical.not_forall] at hin
        obtain ⟨s, _, hs3, hs4⟩ := hin
        obtain ⟨Y, hY1, _, hY3⟩ := G.mets s hs3
        have hs5 : met.getD s 0 = j := Classical.not_not.1 hs4
        have : Y = j := by omega
        subst this; exact hY3
    · rw [h] at hp; cases hp
  · exact D s j (by omega) hs2 hj hp
theorem Going.next {n m c : Nat} {J : Nat → Nat → Bool} {fs met : List Int} {q : Nat} (G : Going n m J c fs met q) (hq : q < met.length) (D : Done n m J c fs met q (aroundL n m (met.getD q 0).toNat).length) : Going n m J c fs met (q + 1) := by
  obtain ⟨X, hX1, hX2, hX3⟩ := G.mets q hq
  have hR := G.high hX2 hX3
  refine ⟨G.toMet, G.mets, fun i hi hne hno k hk he => ?_, G.room⟩
  by_cases e : i = X
  · subst e
    obtain ⟨s, hs1, hs2⟩ := List.getElem_of_mem hk
    have := D s k (by rw [hX1, Int.toNat_natCast]; exact hs1) (by rw [hX1, Int.toNat_natCast]; exact hs1) (by rw [hX1, Int.toNat_natCast]; simp [hs1, hs2]) (by rw [hX1, Int.toNat_natCast]; exact he)
    rw [this, hX3]
  · refine G.closed i hi hne (fun s h1 h2 => ?_) k hk he
    by_cases e2 : s = q
    · subst e2; rw [hX1]; omega
    · exact hno s (by omega) h2
theorem done_zero (n m : Nat) (J : Nat → Nat → Bool) (c : Nat) (fs met : List Int) (q : Nat) : Done n m J c fs met q 0 := fun _ _ hs => absurd hs (Nat.not_lt_zero _)
end Go.Proofs.YteojdpfhhbcjlaaDoor
