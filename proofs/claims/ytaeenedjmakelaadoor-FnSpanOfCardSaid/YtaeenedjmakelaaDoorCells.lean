/- Cells beside each other, flats, searches, water and the queue, as lists. -/
import Derived.Test.YtaeenedjmakelaaDoorBesideL
import Derived.Test.YtaeenedjmakelaaDoorAscends
import Derived.Test.YtaeenedjmakelaaDoorRowOf
/- What is beside is beside both ways: by reckoning over all grids. -/
namespace Go.Proofs.YtaeenedjmakelaaDoor
open Go.RowKit

def aroundChk (n m I : Nat) : Bool := (aroundL n m I).all (fun j => decide (0 ≤ j) && decide (j < ((n * m : Nat) : Int)) && decide ((I : Int) ∈ aroundL n m j.toNat)) && ascB (aroundL n m I) && decide ((aroundL n m I).length ≤ 4)
theorem around_chk : ∀ n, n < 6 → ∀ m, m < 6 → ∀ I, I < 25 → (n * m ≤ I ∨ aroundChk n m I = true) := by decide +kernel
theorem around_facts {n m I : Nat} (hn : n ≤ 5) (hm : m ≤ 5) (hI : I < n * m) :
    (∀ j, j ∈ aroundL n m I → 0 ≤ j ∧ j < ((n * m : Nat) : Int) ∧ (I : Int) ∈ aroundL n m j.toNat) ∧ ascB (aroundL n m I) = true ∧ (aroundL n m I).length ≤ 4 := by
  have h25 : I < 25 := Nat.lt_of_lt_of_le hI (Nat.mul_le_mul hn hm)
  rcases around_chk n (by omega) m (by omega) I h25 with h | h
  · omega
  · simp only [aroundChk, Bool.and_eq_true, List.all_eq_true, decide_eq_true_eq] at h
    exact ⟨fun j hj => ⟨(h.1.1 j hj).1.1, (h.1.1 j hj).1.2, (h.1.1 j hj).2⟩, h.1.2, h.2⟩
end Go.Proofs.YtaeenedjmakelaaDoor

/- Pieces, as lists: cells beside each other that are joined (J); what it is to be the list of first cells; there is one at most. -/
namespace Go.Proofs.YtaeenedjmakelaaDoor
open Go.RowKit

/-- Over cells beside each other that are joined. -/
inductive Reach (n m : Nat) (J : Nat → Nat → Bool) (i : Nat) : Nat → Prop
  | refl : Reach n m J i i
  | step {j k : Nat} : Reach n m J i j → (k : Int) ∈ aroundL n m j → J j k = true → Reach n m J i k
def Symm (J : Nat → Nat → Bool) : Prop := ∀ i k, J i k = true → J k i = true

structure Flats (n m : Nat) (J : Nat → Nat → Bool) (f : List Int) : Prop where
  len : f.length = n * m
  ok : ∀ i, i < n * m → ∃ j : Nat, f.getD i 0 = j ∧ j ≤ i ∧ Reach n m J i j
  same : ∀ i, i < n * m → ∀ k : Nat, (k : Int) ∈ aroundL n m i → J i k = true → f.getD k 0 = f.getD i 0

theorem around_lt {n m i k : Nat} (hn : n ≤ 5) (hm : m ≤ 5) (hi : i < n * m) (hk : (k : Int) ∈ aroundL n m i) : k < n * m := by
  have := ((around_facts hn hm hi).1 k hk).2.1
  omega
theorem around_back {n m i k : Nat} (hn : n ≤ 5) (hm : m ≤ 5) (hi : i < n * m) (hk : (k : Int) ∈ aroundL n m i) : (i : Int) ∈ aroundL n m k := by
  have := ((around_facts hn hm hi).1 k hk).2.2
  rwa [Int.toNat_natCast] at this
theorem Reach.lt {n m i j : Nat} {J : Nat → Nat → Bool} (hn : n ≤ 5) (hm : m ≤ 5) (hi : i < n * m) (h : Reach n m J i j) : j < n * m := by
  induction h with
  | refl => exact hi
  | step _ hk _ ih => exact around_lt hn hm ih hk
theorem Reach.trans {n m i j k : Nat} {J : Nat → Nat → Bool} (h : Reach n m J i j) (g : Reach n m J j k) : Reach n m J i k := by
  induction g with
  | refl => exact h
  | step _ hk he ih => exact .step ih hk he
theorem Reach.symm {n m i j : Nat} {J : Nat → Nat → Bool} (hJ : Symm J) (hn : n ≤ 5) (hm : m ≤ 5) (hi : i < n * m) (h : Reach n m J i j) : Reach n m J j i := by
  induction h with
  | refl => exact .refl
  | step hj hk he ih => exact (Reach.step .refl (around_back hn hm (hj.lt hn hm hi) hk) (hJ _ _ he)).trans ih
theorem Flats.reach {n m i j : Nat} {J : Nat → Nat → Bool} {f : List Int} (hn : n ≤ 5) (hm : m ≤ 5) (F : Flats n m J f) (hi : i < n * m) (h : Reach n m J i j) : f.getD j 0 = f.getD i 0 := by
  induction h with
  | refl => rfl
  | step hj hk he ih => rw [F.same _ (hj.lt hn hm hi) _ hk he, ih]
theorem Flats.le {n m : Nat} {J : Nat → Nat → Bool} {f g : List Int} (hn : n ≤ 5) (hm : m ≤ 5) (F : Flats n m J f) (G : Flats n m J g) (i : Nat) (hi : i < n * m) : f.getD i 0 ≤ g.getD i 0 := by
  obtain ⟨j, e, _, hr⟩ := G.ok i hi
  obtain ⟨k, e2, hk, _⟩ := F.ok j (hr.lt hn hm hi)
  rw [e, ← F.reach hn hm hi hr, e2]
  omega
theorem Flats.uniq {n m : Nat} {J : Nat → Nat → Bool} {f g : List Int} (hn : n ≤ 5) (hm : m ≤ 5) (F : Flats n m J f) (G : Flats n m J g) : f = g := by
  apply List.ext_getElem
  · rw [F.len, G.len]
  · intro i h1 h2
    have h3 := F.le hn hm G i (by rw [← F.len]; exact h1)
    have h4 := G.le hn hm F i (by rw [← F.len]; exact h1)
    have e1 : f.getD i 0 = f[i] := by simp [h1]
    have e2 : g.getD i 0 = g[i] := by simp [h2]
    rw [← e1, ← e2]
    omega

/-- Joined as they are of one height. -/
def sameH (p : List Int) (i k : Nat) : Bool := decide (p.getD i 0 = p.getD k 0)
theorem sameH_iff {p : List Int} {i k : Nat} : sameH p i k = true ↔ p.getD i 0 = p.getD k 0 := by simp [sameH]
theorem sameH_symm (p : List Int) : Symm (sameH p) := fun _ _ h => sameH_iff.2 (sameH_iff.1 h).symm
theorem Reach.high {n m i j : Nat} {p : List Int} (h : Reach n m (sameH p) i j) : p.getD j 0 = p.getD i 0 := by
  induction h with
  | refl => rfl
  | step _ _ he ih => rw [← sameH_iff.1 he, ih]

/-- The height of a cell. -/
theorem flat_at {h : List (List Int)} {m : Nat} (g : Grid h m) (I : Nat) (hI : I < h.length * m) : h.flatten.getD I 0 = (h.getD (I / m) []).getD (I % m) 0 := by
  have hm : 0 < m := g.m1
  have hr : I / m < h.length := div_lt_of h.length m I hI
  have hc : I % m < m := Nat.mod_lt I hm
  have e1 : h = h.take (I / m) ++ (h.getD (I / m) [] :: h.drop (I / m + 1)) := by
    have e : h.getD (I / m) [] = h[I / m] := by simp [hr]
    rw [e, List.getElem_cons_drop, List.take_append_drop]
  have e2 := flat_grid g (I / m) (Nat.le_of_lt hr)
  have e3 := g.len (I / m) hr
  obtain ⟨row, er⟩ : ∃ row, h.getD (I / m) [] = row := ⟨_, rfl⟩
  rw [er] at e1 e3 ⊢
  have e4 : h.flatten = (h.take (I / m)).flatten ++ (row ++ (h.drop (I / m + 1)).flatten) := by
    conv => lhs; rw [e1]
    simp
  have e5 := Nat.div_add_mod I m
  have e6 : m * (I / m) = I / m * m := Nat.mul_comm _ _
  rw [e4, List.getD_eq_getElem?_getD, List.getElem?_append_right (by omega), e2, List.getElem?_append_left (by omega), ← List.getD_eq_getElem?_getD]
  congr 1
  omega
end Go.Proofs.YtaeenedjmakelaaDoor

/- The search for pieces by a queue, as lists. -/
namespace Go.Proofs.YtaeenedjmakelaaDoor
open Go.RowKit

theorem getD_set (l : List Int) (k i : Nat) (v : Int) (hk : k < l.length) : (l.set k v).getD i 0 = if i = k then v else l.getD i 0 := by
  by_cases e : i = k
  · subst e; simp [hk]
  · rw [if_neg e, List.getD_eq_getElem?_getD, List.getElem?_set_ne (fun e2 => e e2.symm), ← List.getD_eq_getElem?_getD]
theorem count_set (l : List Int) (k : Nat) (v : Int) (hk : k < l.length) (h1 : l.getD k 0 = -1) (h2 : v ≠ -1) : (l.set k v).count (-1) + 1 = l.count (-1) := by
  induction l generalizing k with
  | nil => exact absurd hk (Nat.not_lt_zero _)
  | cons a l ih =>
    rcases k with _ | k
    · simp at h1
      subst h1
      simp [h2]
    · simp at hk h1
      have := ih k hk (by simpa using h1)
      simp only [List.set_cons_succ, List.count_cons]
      omega

/-- Cells met so far: each has the first cell of its flat. -/
structure Met (n m : Nat) (J : Nat → Nat → Bool) (c : Nat) (fs : List Int) : Prop where
  len : fs.length = n * m
  ok : ∀ i, i < n * m → fs.getD i 0 = -1 ∨ ∃ j : Nat, fs.getD i 0 = j ∧ j ≤ i ∧ j < c ∧ Reach n m J i j
  below : ∀ i, i < c → i < n * m → fs.getD i 0 ≠ -1
/-- Between two first cells. -/
structure Between (n m : Nat) (J : Nat → Nat → Bool) (c : Nat) (fs : List Int) : Prop extends Met n m J c fs where
  closed : ∀ i, i < n * m → fs.getD i 0 ≠ -1 → ∀ k : Nat, (k : Int) ∈ aroundL n m i → J i k = true → fs.getD k 0 = fs.getD i 0
/-- While the flat of c is gone over: the queue, from place q on, is not done. -/
structure Going (n m : Nat) (J : Nat → Nat → Bool) (c : Nat) (fs met : List Int) (q : Nat) : Prop extends Met n m J (c + 1) fs where
  mets : ∀ s, s < met.length → ∃ X : Nat, met.getD s 0 = X ∧ X < n * m ∧ fs.getD X 0 = c
  closed : ∀ i, i < n * m → fs.getD i 0 ≠ -1 → (∀ s, q ≤ s → s < met.length → met.getD s 0 ≠ i) → ∀ k : Nat, (k : Int) ∈ aroundL n m i → J i k = true → fs.getD k 0 = fs.getD i 0
  room : met.length + fs.count (-1) ≤ n * m
/-- The first t of the cells beside the one at place q are done. -/
def Done (n m : Nat) (J : Nat → Nat → Bool) (c : Nat) (fs met : List Int) (q t : Nat) : Prop :=
  ∀ s k : Nat, s < t → s < (aroundL n m (met.getD q 0).toNat).length → (aroundL n m (met.getD q 0).toNat).getD s 0 = k → J (met.getD q 0).toNat k = true → fs.getD k 0 = c

theorem between_start (n m : Nat) (J : Nat → Nat → Bool) : Between n m J 0 (List.replicate (n * m) (-1)) := by
  have e : ∀ i, i < n * m → (List.replicate (n * m) (-1 : Int)).getD i 0 = -1 := fun i hi => by simp [hi]
  exact ⟨⟨by simp, fun i hi => .inl (e i hi), fun i hi => absurd hi (Nat.not_lt_zero _)⟩, fun i hi h => absurd (e i hi) h⟩
theorem Between.flats {n m : Nat} {J : Nat → Nat → Bool} {fs : List Int} (B : Between n m J (n * m) fs) : Flats n m J fs := by
  refine ⟨B.len, fun i hi => ?_, fun i hi => B.closed i hi (B.below i hi hi)⟩
  rcases B.ok i hi with h | ⟨j, h1, h2, _, h3⟩
  · exact absurd h (B.below i hi hi)
  · exact ⟨j, h1, h2, h3⟩
theorem Between.next {n m c : Nat} {J : Nat → Nat → Bool} {fs : List Int} (B : Between n m J c fs) (h : fs.getD c 0 ≠ -1) : Between n m J (c + 1) fs := by
  refine ⟨⟨B.len, fun i hi => ?_, fun i hi hi2 => ?_⟩, B.closed⟩
  · rcases B.ok i hi with h | ⟨j, h1, h2, h3, h4⟩
    · exact .inl h
    · exact .inr ⟨j, h1, h2, by omega, h4⟩
  · by_cases e : i = c
    · subst e; exact h
    · exact B.below i (by omega) hi2
theorem Going.between {n m c : Nat} {J : Nat → Nat → Bool} {fs met : List Int} (G : Going n m J c fs met met.length) : Between n m J (c + 1) fs :=
  ⟨G.toMet, fun i hi h k hk he => G.closed i hi h (fun s h1 h2 => by omega) k hk he⟩
theorem count_le (l : List Int) : l.count (-1) ≤ l.length := List.count_le_length
theorem Between.going {n m c : Nat} {J : Nat → Nat → Bool} {fs : List Int} (B : Between n m J c fs) (hc : c < n * m) (h : fs.getD c 0 = -1) : Going n m J c (fs.set c c) [(c : Int)] 0 := by
  have hl := B.len
  have g : ∀ i, (fs.set c (c : Int)).getD i 0 = if i = c then (c : Int) else fs.getD i 0 := fun i => getD_set fs c i c (by omega)
  refine ⟨⟨by simp [hl], fun i hi => ?_, fun i hi hi2 => ?_⟩, fun s hs => ?_, fun i hi hne hno k hk he => ?_, ?_⟩
  · rw [g]
    by_cases e : i = c
    · rw [if_pos e]; exact .inr ⟨c, rfl, by omega, by omega, by subst e; exact .refl⟩
    · rw [if_neg e]
      rcases B.ok i hi with h | ⟨j, h1, h2, h3, h4⟩
      · exact .inl h
      · exact .inr ⟨j, h1, h2, by omega, h4⟩
  · rw [g]
    by_cases e : i = c
    · rw [if_pos e]; omega
    · rw [if_neg e]; exact B.below i (by omega) hi2
  · have : s = 0 := by simp at hs; omega
    subst this
    exact ⟨c, rfl, hc, by rw [g, if_pos rfl]⟩
  · have hic : i ≠ c := fun e => hno 0 (Nat.le_refl _) (by simp) (by simp [e])
    rw [g i, if_neg hic] at hne ⊢
    have := B.closed i hi hne k hk he
    rw [g]
    by_cases e : k = c
    · rw [e] at this; rw [h] at this; exact absurd this.symm hne
    · rw [if_neg e]; exact this
  · have := count_set fs c c (by omega) h (by omega)
    have := count_le fs
    simp only [List.length_singleton]
    omega
theorem Going.high {n m c X : Nat} {J : Nat → Nat → Bool} {fs met : List Int} {q : Nat} (G : Going n m J c fs met q) (hX : X < n * m) (h : fs.getD X 0 = c) : Reach n m J X c := by
  rcases G.ok X hX with h1 | ⟨j, h1, _, _, h2⟩
  · omega
  · have : j = c := by omega
    subst this; exact h2
/-- A cell beside is met. -/
theorem Going.mark {n m c k t : Nat} {J : Nat → Nat → Bool} {fs met : List Int} {q : Nat} (hJ : Symm J) (hn : n ≤ 5) (hm : m ≤ 5) (G : Going n m J c fs met q) (hq : q < met.length) (D : Done n m J c fs met q t)
    (ht : t < (aroundL n m (met.getD q 0).toNat).length) (hk : (aroundL n m (met.getD q 0).toNat).getD t 0 = k) (h1 : fs.getD k 0 = -1) (h2 : J (met.getD q 0).toNat k = true) :
    Going n m J c (fs.set k c) (met ++ [(k : Int)]) q ∧ Done n m J c (fs.set k c) (met ++ [(k : Int)]) q (t + 1) ∧ (met ++ [(k : Int)]).getD q 0 = met.getD q 0 := by
  obtain ⟨X, hX1, hX2, hX3⟩ := G.mets q hq
  have hR := G.high hX2 hX3
  rw [hX1, Int.toNat_natCast] at ht hk h2
  have hmem : (k : Int) ∈ aroundL n m X := by
    rw [← hk, List.getD_eq_getElem?_getD, List.getElem?_eq_getElem ht]
    exact List.getElem_mem ht
  have hkN := around_lt hn hm hX2 hmem
  have hl := G.len
  have hkl : k < fs.length := by omega
  have g : ∀ i, (fs.set k (c : Int)).getD i 0 = if i = k then (c : Int) else fs.getD i 0 := fun i => getD_set fs k i c hkl
  have hck : c < k := by
    rcases Nat.lt_or_ge c k with h | h
    · exact h
    · exact absurd h1 (G.below k (by omega) hkN)
  have hRk : Reach n m J k c := (Reach.step .refl (around_back hn hm hX2 hmem) (hJ _ _ h2)).trans hR
  have eq : (met ++ [(k : Int)]).getD q 0 = met.getD q 0 := getD_append_l _ _ _ _ hq
  refine ⟨⟨⟨by simp [hl], fun i hi => ?_, fun i hi hi2 => ?_⟩, fun s hs => ?_, fun i hi hne hno j hj he => ?_, ?_⟩, ?_, eq⟩
  · rw [g]
    by_cases e : i = k
    · rw [if_pos e]; subst e; exact .inr ⟨c, rfl, by omega, by omega, hRk⟩
    · rw [if_neg e]; exact G.ok i hi
  · rw [g]
    by_cases e : i = k
    · rw [if_pos e]; omega
    · rw [if_neg e]; exact G.below i hi hi2
  · by_cases e : s = met.length
    · subst e
      exact ⟨k, getD_append_r _ _ _, hkN, by rw [g, if_pos rfl]⟩
    · have hs' : s < met.length := by simp at hs; omega
      obtain ⟨Y, hY1, hY2, hY3⟩ := G.mets s hs'
      refine ⟨Y, by rw [getD_append_l _ _ _ _ hs', hY1], hY2, ?_⟩
      rw [g]
      by_cases e2 : Y = k
      · rw [if_pos e2]
      · rw [if_neg e2, hY3]
  · have hik : i ≠ k := fun e => hno met.length (by omega) (by simp) (by rw [getD_append_r, e])
    rw [g i, if_neg hik] at hne ⊢
    have := G.closed i hi hne (fun s hs1 hs2 => by have := hno s hs1 (by simp; omega); rwa [getD_append_l _ _ _ _ hs2] at this) j hj he
    rw [g]
    by_cases e : j = k
    · rw [e] at this; rw [h1] at this; exact absurd this.symm hne
    · rw [if_neg e]; exact this
  · have := count_set fs k c hkl h1 (by omega)
    have := G.room
    simp only [List.length_append, List.length_singleton]
    omega
  · intro s j hs hs2 hj hp
    rw [eq] at hs2 hj hp
    rw [g]
    by_cases e : j = k
    · rw [if_pos e]
    · rw [if_neg e]
      by_cases e2 : s = t
      · subst e2; rw [hX1, Int.toNat_natCast, hk] at hj; omega
      · exact D s j (by omega) hs2 hj hp
/-- A cell beside is of another height, or met. -/
theorem Going.skip {n m c k t : Nat} {J : Nat → Nat → Bool} {fs met : List Int} {q : Nat} (hJ : Symm J) (hn : n ≤ 5) (hm : m ≤ 5) (G : Going n m J c fs met q) (hq : q < met.length) (D : Done n m J c fs met q t)
    (ht : t < (aroundL n m (met.getD q 0).toNat).length) (hk : (aroundL n m (met.getD q 0).toNat).getD t 0 = k) (h : fs.getD k 0 ≠ -1 ∨ J (met.getD q 0).toNat k = false) : Done n m J c fs met q (t + 1) := by
  intro s j hs hs2 hj hp
  by_cases e2 : s = t
  · subst e2
    rw [hk] at hj
    have : j = k := by omega
    subst this
    rcases h with h | h
    · obtain ⟨X, hX1, hX2, hX3⟩ := G.mets q hq
      have hR := G.high hX2 hX3
      rw [hX1, Int.toNat_natCast] at ht hk hp
      have hmem : (j : Int) ∈ aroundL n m X := by
        rw [← hk, List.getD_eq_getElem?_getD, List.getElem?_eq_getElem ht]
        exact List.getElem_mem ht
      have hjN := around_lt hn hm hX2 hmem
      by_cases hin : ∀ s, q ≤ s → s < met.length → met.getD s 0 ≠ j
      · have := G.closed j hjN h hin X (around_back hn hm hX2 hmem) (hJ _ _ hp)
        rw [← this, hX3]
      · simp only [Classical.not_forall] at hin
        obtain ⟨s, _, hs3, hs4⟩ := hin
        obtain ⟨Y, hY1, _, hY3⟩ := G.mets s hs3
        have hs5 : met.getD s 0 = j := Classical.not_not.1 hs4
        have : Y = j := by omega
        subst this; exact hY3
    · rw [h] at hp; cases hp
  · exact D s j (by omega) hs2 hj hp
theorem Going.next {n m c : Nat} {J : Nat → Nat → Bool} {fs met : List Int} {q : Nat} (G : Going n m J c fs met q) (hq : q < met.length) (D : Done n m J c fs met q (aroundL n m (met.getD q 0).toNat).length) : Going n m J c fs met (q + 1) := by
  obtain ⟨X, hX1, hX2, hX3⟩ := G.mets q hq
  have hR := G.high hX2 hX3
  refine ⟨G.toMet, G.mets, fun i hi hne hno k hk he => ?_, G.room⟩
  by_cases e : i = X
  · subst e
    obtain ⟨s, hs1, hs2⟩ := List.getElem_of_mem hk
    have := D s k (by rw [hX1, Int.toNat_natCast]; exact hs1) (by rw [hX1, Int.toNat_natCast]; exact hs1) (by rw [hX1, Int.toNat_natCast]; simp [hs1, hs2]) (by rw [hX1, Int.toNat_natCast]; exact he)
    rw [this, hX3]
  · refine G.closed i hi hne (fun s h1 h2 => ?_) k hk he
    by_cases e2 : s = q
    · subst e2; rw [hX1]; omega
    · exact hno s (by omega) h2
theorem done_zero (n m : Nat) (J : Nat → Nat → Bool) (c : Nat) (fs met : List Int) (q : Nat) : Done n m J c fs met q 0 := fun _ _ hs => absurd hs (Nat.not_lt_zero _)
end Go.Proofs.YtaeenedjmakelaaDoor

/- Flats by sinking labels, as lists: what each step keeps, and that it ends. -/
namespace Go.Proofs.YtaeenedjmakelaaDoor
open Go.RowKit

theorem sum_set (l : List Int) (k : Nat) (v : Int) (hk : k < l.length) : (l.set k v).sum + l.getD k 0 = l.sum + v := by
  induction l generalizing k with
  | nil => exact absurd hk (Nat.not_lt_zero _)
  | cons a l ih =>
    rcases k with _ | k
    · simp; omega
    · have := ih k (by simpa using hk)
      simp only [List.set_cons_succ, List.sum_cons, List.getD_cons_succ]
      omega

/-- Each label is reached, and no later. -/
structure Low (n m : Nat) (J : Nat → Nat → Bool) (xs : List Int) : Prop where
  len : xs.length = n * m
  ok : ∀ i, i < n * m → ∃ j : Nat, xs.getD i 0 = j ∧ j ≤ i ∧ Reach n m J i j
theorem low_start (n m : Nat) (J : Nat → Nat → Bool) (xs : List Int) (hl : xs.length = n * m) (h : ∀ i, i < n * m → xs.getD i 0 = i) : Low n m J xs :=
  ⟨hl, fun i hi => ⟨i, h i hi, Nat.le_refl _, .refl⟩⟩
theorem low_sum (l : List Int) (h : ∀ i, i < l.length → 0 ≤ l.getD i 0) : 0 ≤ l.sum := by
  induction l with
  | nil => simp
  | cons a l ih =>
    have h0 := h 0 (by simp)
    have := ih fun i hi => by have := h (i + 1) (by simpa using hi); simpa using this
    simp at h0 ⊢
    omega
theorem Low.sum {n m : Nat} {J : Nat → Nat → Bool} {xs : List Int} (L : Low n m J xs) : 0 ≤ xs.sum := low_sum xs fun i hi => by
  obtain ⟨j, e, _⟩ := L.ok i (by rw [← L.len]; exact hi)
  rw [e]; omega
theorem Low.sink {n m i k : Nat} {J : Nat → Nat → Bool} {xs : List Int} (L : Low n m J xs) (hn : n ≤ 5) (hm : m ≤ 5) (hi : i < n * m) (hk : (k : Int) ∈ aroundL n m i) (hp : J i k = true) (hlt : xs.getD k 0 < xs.getD i 0) :
    Low n m J (xs.set i (xs.getD k 0)) ∧ (xs.set i (xs.getD k 0)).sum < xs.sum := by
  have hkN := around_lt hn hm hi hk
  have hl := L.len
  obtain ⟨j, e, _, hr⟩ := L.ok k hkN
  obtain ⟨j2, e2, h2, _⟩ := L.ok i hi
  refine ⟨⟨by simp [hl], fun x hx => ?_⟩, ?_⟩
  · rw [getD_set _ _ _ _ (by omega)]
    by_cases ex : x = i
    · rw [if_pos ex]
      subst ex
      exact ⟨j, e, by omega, (Reach.step .refl hk hp).trans hr⟩
    · rw [if_neg ex]; exact L.ok x hx
  · have := sum_set xs i (xs.getD k 0) (by omega)
    omega
/-- Nothing sinks at the cells before i, nor at the first t of those beside i. -/
def Calm (n m : Nat) (J : Nat → Nat → Bool) (xs : List Int) (i t : Nat) : Prop :=
  ∀ x s k : Nat, (x < i ∨ (x = i ∧ s < t)) → s < (aroundL n m x).length → (aroundL n m x).getD s 0 = k → J x k = true → ¬ xs.getD k 0 < xs.getD x 0
theorem calm_start (n m : Nat) (J : Nat → Nat → Bool) (xs : List Int) : Calm n m J xs 0 0 := fun x s k h => by omega
theorem Calm.next {n m i t : Nat} {J : Nat → Nat → Bool} {xs : List Int} (C : Calm n m J xs i t) (ht : t = (aroundL n m i).length) : Calm n m J xs (i + 1) 0 := fun x s k h hs he hp => by
  refine C x s k ?_ hs he hp
  by_cases e : x = i
  · subst e; exact .inr ⟨rfl, by omega⟩
  · exact .inl (by omega)
theorem Calm.skip {n m i t K : Nat} {J : Nat → Nat → Bool} {xs : List Int} (C : Calm n m J xs i t) (hK : (aroundL n m i).getD t 0 = K) (h : J i K = true → ¬ xs.getD K 0 < xs.getD i 0) : Calm n m J xs i (t + 1) := fun x s k hx hs he hp => by
  by_cases e : x = i ∧ s = t
  · obtain ⟨rfl, rfl⟩ := e
    have : k = K := by omega
    subst this
    exact h hp
  · exact C x s k (by omega) hs he hp
theorem Low.flats {n m : Nat} {J : Nat → Nat → Bool} {xs : List Int} (L : Low n m J xs) (hJ : Symm J) (hn : n ≤ 5) (hm : m ≤ 5) (C : Calm n m J xs (n * m) 0) : Flats n m J xs := by
  have key : ∀ i k : Nat, i < n * m → (k : Int) ∈ aroundL n m i → J i k = true → ¬ xs.getD k 0 < xs.getD i 0 := fun i k hi hk he => by
    obtain ⟨s, hs1, hs2⟩ := List.getElem_of_mem hk
    exact C i s k (.inl hi) hs1 (by simp [hs1, hs2]) he
  refine ⟨L.len, L.ok, fun i hi k hk he => ?_⟩
  have h1 := key i k hi hk he
  have h2 := key k i (around_lt hn hm hi hk) (around_back hn hm hi hk) (hJ _ _ he)
  omega
end Go.Proofs.YtaeenedjmakelaaDoor

/- The heights to which water stands, as lists: the least height of a way to the edge; there is one such list. -/
namespace Go.Proofs.YtaeenedjmakelaaDoor
open Go.RowKit

theorem getD_setB (l : List Bool) (k i : Nat) (v : Bool) (hk : k < l.length) : (l.set k v).getD i false = if i = k then v else l.getD i false := by
  by_cases e : i = k
  · subst e; simp [hk]
  · rw [if_neg e, List.getD_eq_getElem?_getD, List.getElem?_set_ne (fun e2 => e e2.symm), ← List.getD_eq_getElem?_getD]

/-- At the edge: fewer than four cells beside. -/
def edgeL (n m I : Nat) : Bool := decide ((aroundL n m I).length < 4)
/-- A way to the edge over cells no higher than L. -/
inductive Esc (n m : Nat) (p : List Int) (L : Int) : Nat → Prop
  | edge {i : Nat} : i < n * m → edgeL n m i = true → p.getD i 0 ≤ L → Esc n m p L i
  | step {i k : Nat} : i < n * m → (k : Int) ∈ aroundL n m i → p.getD i 0 ≤ L → Esc n m p L k → Esc n m p L i
theorem Esc.base {n m i : Nat} {p : List Int} {L : Int} (h : Esc n m p L i) : p.getD i 0 ≤ L := by
  cases h with
  | edge _ _ h => exact h
  | step _ _ h _ => exact h
theorem Esc.lt {n m i : Nat} {p : List Int} {L : Int} (h : Esc n m p L i) : i < n * m := by
  cases h with
  | edge h _ _ => exact h
  | step h _ _ _ => exact h
theorem Esc.mono {n m i : Nat} {p q : List Int} {L M : Int} (h : Esc n m p L i) (hq : ∀ j, j < n * m → p.getD j 0 ≤ L → q.getD j 0 ≤ M) : Esc n m q M i := by
  induction h with
  | edge h1 h2 h3 => exact .edge h1 h2 (hq _ h1 h3)
  | step h1 h2 h3 _ ih => exact .step h1 h2 (hq _ h1 h3) ih
theorem Esc.up {n m i : Nat} {p : List Int} {L M : Int} (h : Esc n m p L i) (hl : L ≤ M) : Esc n m p M i := h.mono fun _ _ h => Int.le_trans h hl

/-- The heights to which water stands. -/
structure Level (n m : Nat) (p w : List Int) : Prop where
  len : w.length = n * m
  edge : ∀ i, i < n * m → edgeL n m i = true → w.getD i 0 ≤ p.getD i 0
  calm : ∀ i, i < n * m → ∀ k : Nat, (k : Int) ∈ aroundL n m i → w.getD i 0 ≤ max (w.getD k 0) (p.getD i 0)
  esc : ∀ i, i < n * m → Esc n m p (w.getD i 0) i
theorem Level.le {n m i : Nat} {p w : List Int} {L : Int} (W : Level n m p w) (h : Esc n m p L i) : w.getD i 0 ≤ L := by
  induction h with
  | edge h1 h2 h3 => exact Int.le_trans (W.edge _ h1 h2) h3
  | step h1 h2 h3 _ ih => have := W.calm _ h1 _ h2; omega
theorem ext_getD {n : Nat} {f g : List Int} (hf : f.length = n) (hg : g.length = n) (h : ∀ i, i < n → f.getD i 0 = g.getD i 0) : f = g := by
  apply List.ext_getElem
  · rw [hf, hg]
  · intro i h1 h2
    have := h i (by omega)
    simpa [h1, h2] using this
theorem Level.uniq {n m : Nat} {p v w : List Int} (V : Level n m p v) (W : Level n m p w) : v = w :=
  ext_getD V.len W.len fun i hi => by
    have := V.le (W.esc i hi)
    have := W.le (V.esc i hi)
    omega
theorem Level.base {n m i : Nat} {p w : List Int} (W : Level n m p w) (hi : i < n * m) : p.getD i 0 ≤ w.getD i 0 := (W.esc i hi).base
theorem Level.dry {n m i : Nat} {p w : List Int} (W : Level n m p w) (hi : i < n * m) (h : edgeL n m i = true) : w.getD i 0 = p.getD i 0 := by
  have := W.base hi
  have := W.edge i hi h
  omega
/-- Water on water stands as it stands. -/
theorem Level.again {n m : Nat} {p w : List Int} (W : Level n m p w) : Level n m w w := by
  refine ⟨W.len, fun i _ _ => Int.le_refl _, fun i _ k _ => by omega, fun i hi => ?_⟩
  have key : ∀ {L : Int} {i : Nat}, Esc n m p L i → Esc n m w L i := fun {L i} h => by
    induction h with
    | edge h1 h2 h3 => exact .edge h1 h2 (Int.le_trans (W.edge _ h1 h2) h3)
    | step h1 h2 h3 hk ih => exact .step h1 h2 (W.le (.step h1 h2 h3 hk)) ih
  exact key (W.esc i hi)
/-- Higher ground holds higher water. -/
theorem Level.mono {n m i : Nat} {p q v w : List Int} (V : Level n m p v) (W : Level n m q w) (h : ∀ j, j < n * m → p.getD j 0 ≤ q.getD j 0) (hi : i < n * m) : v.getD i 0 ≤ w.getD i 0 :=
  V.le ((W.esc i hi).mono fun j hj hq => Int.le_trans (h j hj) hq)
theorem Level.mono1 {n m i : Nat} {p q v w : List Int} (V : Level n m p v) (W : Level n m q w) (h : ∀ j, j < n * m → q.getD j 0 ≤ p.getD j 0 + 1) (hi : i < n * m) : w.getD i 0 ≤ v.getD i 0 + 1 :=
  W.le ((V.esc i hi).mono fun j hj hq => by have := h j hj; omega)
/-- From any cell the edge is reached. -/
theorem left_edge (n m : Nat) (i : Nat) (h : i % m = 0) : edgeL n m i = true := by
  unfold edgeL aroundL
  rw [h]
  simp only [Nat.lt_irrefl, if_false, List.append_nil, List.length_append, decide_eq_true_eq]
  have e : ∀ (c : Prop) [Decidable c] (x : Int), (if c then [x] else []).length ≤ 1 := fun c _ x => by split <;> simp
  have := e (m ≤ i) ((i : Int) - m)
  have := e (0 < m - 1) ((i : Int) + 1)
  have := e (i + m < n * m) ((i : Int) + m)
  omega
theorem esc_top {n m : Nat} {p : List Int} {L : Int} (h : ∀ i, i < n * m → p.getD i 0 ≤ L) (i : Nat) (hi : i < n * m) : Esc n m p L i := by
  obtain ⟨c, hc⟩ : ∃ c, i % m = c := ⟨_, rfl⟩
  induction c generalizing i with
  | zero => exact .edge hi (left_edge n m i hc) (h i hi)
  | succ c ih =>
    have hm : 0 < m := by
      rcases Nat.eq_zero_or_pos m with e | e
      · subst e; simp at hi
      · exact e
    have h1 : 1 ≤ i := by
      rcases Nat.eq_zero_or_pos i with e | e
      · subst e; simp at hc
      · exact e
    have hlt := Nat.mod_lt i hm
    have e1 : (i - 1) % m = c := by
      have e2 := Nat.div_add_mod i m
      have e3 : i - 1 = m * (i / m) + c := by omega
      rw [e3, Nat.mul_add_mod, Nat.mod_eq_of_lt (by omega)]
    refine .step hi (k := i - 1) ?_ (h i hi) (ih (i - 1) (by omega) e1)
    unfold aroundL
    have e4 : ((i - 1 : Nat) : Int) = (i : Int) - 1 := by omega
    rw [e4, if_pos (show 0 < i % m by omega)]
    simp

/-! By sinking. -/
/-- What is told is reached, and at the edge it is the ground. -/
structure Sink (n m : Nat) (p w : List Int) : Prop where
  len : w.length = n * m
  edge : ∀ i, i < n * m → edgeL n m i = true → w.getD i 0 ≤ p.getD i 0
  esc : ∀ i, i < n * m → Esc n m p (w.getD i 0) i
theorem Sink.sink {n m i k : Nat} {p w : List Int} (S : Sink n m p w) (hn : n ≤ 5) (hm : m ≤ 5) (hi : i < n * m) (hk : (k : Int) ∈ aroundL n m i) (hlt : max (w.getD k 0) (p.getD i 0) < w.getD i 0) :
    Sink n m p (w.set i (max (w.getD k 0) (p.getD i 0))) := by
  have hl := S.len
  refine ⟨by simp [hl], fun x hx he => ?_, fun x hx => ?_⟩
  · rw [getD_set _ _ _ _ (by omega)]
    by_cases ex : x = i
    · rw [if_pos ex]; subst ex; have := S.edge x hx he; omega
    · rw [if_neg ex]; exact S.edge x hx he
  · rw [getD_set _ _ _ _ (by omega)]
    by_cases ex : x = i
    · rw [if_pos ex]; subst ex
      exact .step hi hk (by omega) ((S.esc k (around_lt hn hm hi hk)).up (by omega))
    · rw [if_neg ex]; exact S.esc x hx
/-- Nothing sinks at the cells before i, nor at the first t of those beside i. -/
def Still (n m : Nat) (p w : List Int) (i t : Nat) : Prop :=
  ∀ x s k : Nat, (x < i ∨ (x = i ∧ s < t)) → s < (aroundL n m x).length → (aroundL n m x).getD s 0 = k → ¬ max (w.getD k 0) (p.getD x 0) < w.getD x 0
theorem still_start (n m : Nat) (p w : List Int) : Still n m p w 0 0 := fun x s k h => by omega
theorem Still.next {n m i t : Nat} {p w : List Int} (C : Still n m p w i t) (ht : t = (aroundL n m i).length) : Still n m p w (i + 1) 0 := fun x s k h hs he => by
  refine C x s k ?_ hs he
  by_cases e : x = i
  · subst e; exact .inr ⟨rfl, by omega⟩
  · exact .inl (by omega)
theorem Still.skip {n m i t K : Nat} {p w : List Int} (C : Still n m p w i t) (hK : (aroundL n m i).getD t 0 = K) (h : ¬ max (w.getD K 0) (p.getD i 0) < w.getD i 0) : Still n m p w i (t + 1) := fun x s k hx hs he => by
  by_cases e : x = i ∧ s = t
  · obtain ⟨rfl, rfl⟩ := e
    have : k = K := by omega
    subst this
    exact h
  · exact C x s k (by omega) hs he
theorem Sink.level {n m : Nat} {p w : List Int} (S : Sink n m p w) (C : Still n m p w (n * m) 0) : Level n m p w :=
  ⟨S.len, S.edge, fun i hi k hk => by
    obtain ⟨s, hs1, hs2⟩ := List.getElem_of_mem hk
    have := C i s k (.inl hi) hs1 (by simp [hs1, hs2])
    omega, S.esc⟩
theorem sink_start {n m : Nat} {p w : List Int} (hl : w.length = n * m) (hp : ∀ i, i < n * m → p.getD i 0 ≤ 12) (h : ∀ i, i < n * m → w.getD i 0 = if edgeL n m i then p.getD i 0 else 12) : Sink n m p w := by
  refine ⟨hl, fun i hi he => by rw [h i hi, if_pos he]; exact Int.le_refl _, fun i hi => ?_⟩
  rw [h i hi]
  by_cases he : edgeL n m i = true
  · rw [if_pos he]; exact .edge hi he (Int.le_refl _)
  · rw [if_neg he]; exact esc_top hp i hi
end Go.Proofs.YtaeenedjmakelaaDoor

/- Water from the edge inwards, by a queue, as lists. -/
namespace Go.Proofs.YtaeenedjmakelaaDoor
open Go.RowKit

/-- What is told, and what waits; low: the water of the cell that was taken last. c: a cell that is being gone over (none: n * m). -/
structure Flood (n m : Nat) (p w : List Int) (q : List (Int × Int)) (low : Int) (c : Nat) : Prop where
  len : w.length = n * m
  esc : ∀ i, i < n * m → w.getD i 0 ≠ -1 → Esc n m p (w.getD i 0) i
  edge : ∀ i, i < n * m → edgeL n m i = true → w.getD i 0 ≠ -1 ∧ w.getD i 0 ≤ p.getD i 0
  near : ∀ i, i < n * m → w.getD i 0 ≠ -1 → w.getD i 0 ≤ max low (p.getD i 0)
  mem : ∀ e, e ∈ q → ∃ X : Nat, e.1 = X ∧ X < n * m ∧ w.getD X 0 = e.2 ∧ low ≤ e.2 ∧ 0 ≤ e.2
  sorted : q.Pairwise fun a b => a.2 ≤ b.2
  closed : ∀ i : Nat, i < n * m → i ≠ c → w.getD i 0 ≠ -1 → (∀ e, e ∈ q → e.1 ≠ (i : Int)) → ∀ k : Nat, (k : Int) ∈ aroundL n m i → w.getD k 0 ≠ -1 ∧ w.getD k 0 ≤ max (w.getD i 0) (p.getD k 0)
  room : q.length + w.count (-1) ≤ n * m
/-- The first t of the cells beside c are told. -/
def Told (n m : Nat) (p w : List Int) (low : Int) (c t : Nat) : Prop :=
  ∀ s k : Nat, s < t → s < (aroundL n m c).length → (aroundL n m c).getD s 0 = k → w.getD k 0 ≠ -1 ∧ w.getD k 0 ≤ max low (p.getD k 0)
theorem told_zero (n m : Nat) (p w : List Int) (low : Int) (c : Nat) : Told n m p w low c 0 := fun _ _ h => absurd h (Nat.not_lt_zero _)

/-- An item is put where the order has its place. -/
theorem sorted_insert {q : List (Int × Int)} {a : Nat} {e : Int × Int} (hs : q.Pairwise fun a b => a.2 ≤ b.2) (h1 : ∀ x, x ∈ q.take a → x.2 ≤ e.2) (h2 : ∀ x, x ∈ q.drop a → e.2 ≤ x.2) :
    (q.take a ++ e :: q.drop a).Pairwise fun a b => a.2 ≤ b.2 := by
  have h : (q.take a ++ q.drop a).Pairwise fun a b => a.2 ≤ b.2 := by rw [List.take_append_drop]; exact hs
  rw [List.pairwise_append] at h ⊢
  refine ⟨h.1, List.pairwise_cons.2 ⟨fun x hx => h2 x hx, h.2.1⟩, fun x hx y hy => ?_⟩
  rcases List.mem_cons.1 hy with rfl | hy
  · exact h1 x hx
  · exact h.2.2 x hx y hy
theorem mem_insert {q : List (Int × Int)} {a : Nat} {e x : Int × Int} : x ∈ q.take a ++ e :: q.drop a ↔ x = e ∨ x ∈ q := by
  have : x ∈ q ↔ x ∈ q.take a ∨ x ∈ q.drop a := by
    conv => lhs; rw [← List.take_append_drop a q]
    exact List.mem_append
  rw [this, List.mem_append, List.mem_cons]
  constructor
  · rintro (h | h | h)
    · exact .inr (.inl h)
    · exact .inl h
    · exact .inr (.inr h)
  · rintro (h | h | h)
    · exact .inr (.inl h)
    · exact .inl h
    · exact .inr (.inr h)

/-- While the edge is told: the cells before I are told if they are at the edge. -/
structure Rim (n m : Nat) (p w : List Int) (q : List (Int × Int)) (I : Nat) : Prop where
  len : w.length = n * m
  told : ∀ i, i < n * m → i < I → edgeL n m i = true → w.getD i 0 = p.getD i 0
  un : ∀ i, i < n * m → (I ≤ i ∨ edgeL n m i = false) → w.getD i 0 = -1
  mem : ∀ e, e ∈ q → ∃ X : Nat, e.1 = X ∧ X < n * m ∧ w.getD X 0 = e.2 ∧ 0 ≤ e.2
  all : ∀ i : Nat, i < n * m → w.getD i 0 ≠ -1 → ∃ e, e ∈ q ∧ e.1 = (i : Int)
  sorted : q.Pairwise fun a b => a.2 ≤ b.2
  room : q.length + w.count (-1) ≤ n * m
theorem rim_start (n m : Nat) (p : List Int) : Rim n m p (List.replicate (n * m) (-1)) [] 0 := by
  have e : ∀ i, i < n * m → (List.replicate (n * m) (-1 : Int)).getD i 0 = -1 := fun i hi => by simp [hi]
  refine ⟨by simp, fun i _ h => absurd h (Nat.not_lt_zero _), fun i hi _ => e i hi, fun x hx => (by cases hx), fun i hi h => absurd (e i hi) h, List.Pairwise.nil, ?_⟩
  have := count_le (List.replicate (n * m) (-1 : Int))
  simp only [List.length_replicate] at this
  simp only [List.length_nil]
  omega
theorem Rim.skip {n m I : Nat} {p w : List Int} {q : List (Int × Int)} (R : Rim n m p w q I) (he : edgeL n m I = false) : Rim n m p w q (I + 1) :=
  ⟨R.len, fun i hi hI h => R.told i hi (by
    rcases Nat.lt_or_ge i I with h1 | h1
    · exact h1
    · have : i = I := by omega
      subst this; rw [he] at h; cases h) h, fun i hi h => by
    by_cases e : i = I
    · subst e; exact R.un i hi (.inl (Nat.le_refl _))
    · exact R.un i hi (h.imp (fun h => by omega) id), R.mem, R.all, R.sorted, R.room⟩
theorem Rim.tell {n m I a : Nat} {p w : List Int} {q : List (Int × Int)} (R : Rim n m p w q I) (hI : I < n * m) (he : edgeL n m I = true) (hp : 0 ≤ p.getD I 0)
    (h1 : ∀ x, x ∈ q.take a → x.2 ≤ p.getD I 0) (h2 : ∀ x, x ∈ q.drop a → p.getD I 0 ≤ x.2) : Rim n m p (w.set I (p.getD I 0)) (q.take a ++ ((I : Int), p.getD I 0) :: q.drop a) (I + 1) := by
  have hl := R.len
  have hu := R.un I hI (.inl (Nat.le_refl _))
  have g : ∀ i, (w.set I (p.getD I 0)).getD i 0 = if i = I then p.getD I 0 else w.getD i 0 := fun i => getD_set w I i _ (by omega)
  refine ⟨by simp [hl], fun i hi hi1 h => ?_, fun i hi h => ?_, fun e hx => ?_, fun i hi h => ?_, sorted_insert R.sorted h1 h2, ?_⟩
  · rw [g]
    by_cases e : i = I
    · rw [if_pos e, e]
    · rw [if_neg e]; exact R.told i hi (by omega) h
  · rw [g]
    have e : i ≠ I := fun e => by
      subst e
      rcases h with h | h
      · omega
      · rw [he] at h; cases h
    rw [if_neg e]
    exact R.un i hi (h.imp (fun h => by omega) id)
  · rcases mem_insert.1 hx with rfl | hx
    · exact ⟨I, rfl, hI, by rw [g, if_pos rfl], hp⟩
    · obtain ⟨X, hX, hX1, hX2, hX3⟩ := R.mem e hx
      refine ⟨X, hX, hX1, ?_, hX3⟩
      rw [g]
      by_cases e2 : X = I
      · subst e2; omega
      · rw [if_neg e2]; exact hX2
  · rw [g] at h
    by_cases e : i = I
    · subst e; exact ⟨_, mem_insert.2 (.inl rfl), rfl⟩
    · rw [if_neg e] at h
      obtain ⟨x, hx, hx2⟩ := R.all i hi h
      exact ⟨x, mem_insert.2 (.inr hx), hx2⟩
  · have := count_set w I (p.getD I 0) (by omega) hu (by omega)
    have hr := R.room
    have e : (q.take a ++ ((I : Int), p.getD I 0) :: q.drop a).length = q.length + 1 := by
      have : (q.take a ++ q.drop a).length = q.length := by rw [List.take_append_drop]
      simp only [List.length_append, List.length_cons] at this ⊢
      omega
    omega
theorem Rim.flood {n m : Nat} {p w : List Int} {q : List (Int × Int)} (R : Rim n m p w q (n * m)) (hp : ∀ i, i < n * m → 0 ≤ p.getD i 0) : Flood n m p w q 0 (n * m) := by
  have ht : ∀ i, i < n * m → w.getD i 0 ≠ -1 → edgeL n m i = true ∧ w.getD i 0 = p.getD i 0 := fun i hi h => by
    cases he : edgeL n m i with
    | false => exact absurd (R.un i hi (.inr he)) h
    | true => exact ⟨rfl, R.told i hi hi he⟩
  refine ⟨R.len, fun i hi h => ?_, fun i hi he => ?_, fun i hi h => ?_, fun e he => ?_, R.sorted, fun i hi _ h hno => ?_, R.room⟩
  · rw [(ht i hi h).2]; exact .edge hi (ht i hi h).1 (Int.le_refl _)
  · have := R.told i hi hi he
    have := hp i hi
    omega
  · rw [(ht i hi h).2]; omega
  · obtain ⟨X, h1, h2, h3, h4⟩ := R.mem e he
    exact ⟨X, h1, h2, h3, h4, h4⟩
  · obtain ⟨e, he, he2⟩ := R.all i hi h
    exact absurd he2 (hno e he)

/-- The first that waits is taken. -/
theorem Flood.take {n m : Nat} {p w : List Int} {q : List (Int × Int)} {e : Int × Int} {low : Int} (F : Flood n m p w (e :: q) low (n * m)) :
    ∃ X : Nat, e.1 = X ∧ X < n * m ∧ w.getD X 0 = e.2 ∧ 0 ≤ e.2 ∧ Flood n m p w q e.2 X := by
  obtain ⟨X, hX, hX1, hX2, hX3, hX4⟩ := F.mem e (List.mem_cons_self ..)
  have hs := List.pairwise_cons.1 F.sorted
  refine ⟨X, hX, hX1, hX2, hX4, F.len, F.esc, F.edge, fun i hi h => ?_, fun x hx => ?_, hs.2, fun i hi hc h hno k hk => ?_, ?_⟩
  · have := F.near i hi h; omega
  · obtain ⟨Y, hY, hY1, hY2, hY3, hY4⟩ := F.mem x (List.mem_cons_of_mem _ hx)
    exact ⟨Y, hY, hY1, hY2, hs.1 x hx, hY4⟩
  · refine F.closed i hi (by omega) h (fun x hx => ?_) k hk
    rcases List.mem_cons.1 hx with rfl | hx
    · rw [hX]; omega
    · exact hno x hx
  · have := F.room
    simp only [List.length_cons] at this
    omega
/-- A cell beside is told. -/
theorem Flood.tell {n m c k t a : Nat} {p w : List Int} {q : List (Int × Int)} {low : Int} (hn : n ≤ 5) (hm : m ≤ 5) (F : Flood n m p w q low c) (hc : c < n * m) (hlow : w.getD c 0 = low) (h0 : 0 ≤ low) (D : Told n m p w low c t)
    (ht : t < (aroundL n m c).length) (hk : (aroundL n m c).getD t 0 = k) (hu : w.getD k 0 = -1)
    (h1 : ∀ x, x ∈ q.take a → x.2 ≤ max low (p.getD k 0)) (h2 : ∀ x, x ∈ q.drop a → max low (p.getD k 0) ≤ x.2) :
    Flood n m p (w.set k (max low (p.getD k 0))) (q.take a ++ ((k : Int), max low (p.getD k 0)) :: q.drop a) low c ∧ (w.set k (max low (p.getD k 0))).getD c 0 = low ∧ Told n m p (w.set k (max low (p.getD k 0))) low c (t + 1) := by
  have hl := F.len
  have hmem : (k : Int) ∈ aroundL n m c := by
    rw [← hk, List.getD_eq_getElem?_getD, List.getElem?_eq_getElem ht]
    exact List.getElem_mem ht
  have hkN := around_lt hn hm hc hmem
  have hbk := around_back hn hm hc hmem
  have hkc : k ≠ c := fun e => by subst e; omega
  have g : ∀ i, (w.set k (max low (p.getD k 0))).getD i 0 = if i = k then max low (p.getD k 0) else w.getD i 0 := fun i => getD_set w k i _ (by omega)
  refine ⟨⟨by simp [hl], fun i hi h => ?_, fun i hi he => ?_, fun i hi h => ?_, fun e hx => ?_, sorted_insert F.sorted h1 h2, fun i hi hic h hno j hj => ?_, ?_⟩, ?_, fun s j hs hs2 hj => ?_⟩
  · rw [g] at h ⊢
    by_cases e : i = k
    · subst e
      rw [if_pos rfl]
      refine .step hi hbk (by omega) ((F.esc c hc (by omega)).up (by omega))
    · rw [if_neg e] at h ⊢; exact F.esc i hi h
  · rw [g]
    have := F.edge i hi he
    by_cases e : i = k
    · subst e; exact absurd hu this.1
    · rw [if_neg e]; exact this
  · rw [g] at h ⊢
    by_cases e : i = k
    · rw [if_pos e, e]; exact Int.le_refl _
    · rw [if_neg e] at h ⊢; exact F.near i hi h
  · rcases mem_insert.1 hx with rfl | hx
    · exact ⟨k, rfl, hkN, by rw [g, if_pos rfl], by simp only; omega, by simp only; omega⟩
    · obtain ⟨X, hX, hX1, hX2, hX3, hX4⟩ := F.mem e hx
      refine ⟨X, hX, hX1, ?_, hX3, hX4⟩
      rw [g]
      by_cases e2 : X = k
      · subst e2; omega
      · rw [if_neg e2]; exact hX2
  · have hik : i ≠ k := fun e => hno _ (mem_insert.2 (.inl rfl)) (by simp [e])
    rw [g i, if_neg hik] at h ⊢
    have := F.closed i hi hic h (fun x hx => hno x (mem_insert.2 (.inr hx))) j hj
    rw [g]
    by_cases e : j = k
    · rw [e] at this; exact absurd hu this.1
    · rw [if_neg e]; exact this
  · have := count_set w k (max low (p.getD k 0)) (by omega) hu (by omega)
    have hr := F.room
    have e : (q.take a ++ ((k : Int), max low (p.getD k 0)) :: q.drop a).length = q.length + 1 := by
      have : (q.take a ++ q.drop a).length = q.length := by rw [List.take_append_drop]
      simp only [List.length_append, List.length_cons] at this ⊢
      omega
    omega
  · rw [g, if_neg (fun e => hkc e.symm)]; exact hlow
  · rw [g]
    by_cases e : j = k
    · rw [if_pos e, e]; omega
    · rw [if_neg e]
      by_cases e2 : s = t
      · subst e2; omega
      · exact D s j (by omega) hs2 hj
/-- A cell beside was told. -/
theorem Flood.skip {n m c k t : Nat} {p w : List Int} {q : List (Int × Int)} {low : Int} (hn : n ≤ 5) (hm : m ≤ 5) (F : Flood n m p w q low c) (hc : c < n * m) (D : Told n m p w low c t)
    (ht : t < (aroundL n m c).length) (hk : (aroundL n m c).getD t 0 = k) (hu : w.getD k 0 ≠ -1) : Told n m p w low c (t + 1) := by
  have hmem : (k : Int) ∈ aroundL n m c := by
    rw [← hk, List.getD_eq_getElem?_getD, List.getElem?_eq_getElem ht]
    exact List.getElem_mem ht
  intro s j hs hs2 hj
  by_cases e2 : s = t
  · subst e2
    have : j = k := by omega
    subst this
    exact ⟨hu, F.near j (around_lt hn hm hc hmem) hu⟩
  · exact D s j (by omega) hs2 hj
/-- All cells beside c are told. -/
theorem Flood.next {n m c : Nat} {p w : List Int} {q : List (Int × Int)} {low : Int} (F : Flood n m p w q low c) (hlow : w.getD c 0 = low) (D : Told n m p w low c (aroundL n m c).length) : Flood n m p w q low (n * m) :=
  ⟨F.len, F.esc, F.edge, F.near, F.mem, F.sorted, fun i hi _ h hno k hk => by
    by_cases e : i = c
    · subst e
      obtain ⟨s, hs1, hs2⟩ := List.getElem_of_mem hk
      have := D s k hs1 hs1 (by simp [hs1, hs2])
      rwa [hlow]
    · exact F.closed i hi e h hno k hk, F.room⟩
/-- Nothing waits: all is told. -/
theorem Flood.level {n m : Nat} {p w : List Int} {low : Int} (hn : n ≤ 5) (hm : m ≤ 5) (F : Flood n m p w [] low (n * m)) (hp : ∀ i, i < n * m → p.getD i 0 ≤ 12) : Level n m p w := by
  have all : ∀ {i : Nat}, Esc n m p 12 i → w.getD i 0 ≠ -1 := fun {i} h => by
    induction h with
    | edge h1 h2 _ => exact (F.edge _ h1 h2).1
    | step h1 h2 _ h4 ih => exact (F.closed _ h4.lt (by have := h4.lt; omega) ih (fun e he => by cases he) _ (around_back hn hm h1 h2)).1
  have all2 : ∀ i, i < n * m → w.getD i 0 ≠ -1 := fun i hi => all (esc_top hp i hi)
  refine ⟨F.len, fun i hi he => (F.edge i hi he).2, fun i hi k hk => ?_, fun i hi => F.esc i hi (all2 i hi)⟩
  have hkN := around_lt hn hm hi hk
  exact (F.closed k hkN (by omega) (all2 k hkN) (fun e he => by cases he) i (around_back hn hm hi hk)).2
end Go.Proofs.YtaeenedjmakelaaDoor

/- Water from the edge inwards, the least cell that can be told picked each time, as lists. -/
namespace Go.Proofs.YtaeenedjmakelaaDoor
open Go.RowKit

theorem count_setB (l : List Bool) (k : Nat) (hk : k < l.length) (h1 : l.getD k false = false) : (l.set k true).count false + 1 = l.count false := by
  induction l generalizing k with
  | nil => exact absurd hk (Nat.not_lt_zero _)
  | cons a l ih =>
    rcases k with _ | k
    · simp at h1
      subst h1
      simp
    · simp at hk h1
      have := ih k hk (by simpa using h1)
      simp only [List.set_cons_succ, List.count_cons]
      omega
theorem undone_of_count (l : List Bool) (h : 0 < l.count false) : ∃ i, i < l.length ∧ l.getD i false = false := by
  obtain ⟨i, hi, e⟩ := List.getElem_of_mem (List.count_pos_iff.1 h)
  exact ⟨i, hi, by simp [hi, e]⟩

/-- The height to which an untold cell can be told, as the first t of those beside it tell; -1: none does. -/
def Cand (n m : Nat) (p lv : List Int) (dn : List Bool) (i t : Nat) (x : Int) : Prop :=
  (edgeL n m i = true → 0 ≤ x ∧ x ≤ p.getD i 0) ∧
  (∀ s k : Nat, s < t → s < (aroundL n m i).length → (aroundL n m i).getD s 0 = k → dn.getD k false = true → 0 ≤ x ∧ x ≤ max (lv.getD k 0) (p.getD i 0)) ∧
  (x = -1 ∨ 0 ≤ x ∧ ((edgeL n m i = true ∧ x = p.getD i 0) ∨ ∃ k : Nat, (k : Int) ∈ aroundL n m i ∧ dn.getD k false = true ∧ x = max (lv.getD k 0) (p.getD i 0)))
theorem cand_edge {n m i : Nat} {p lv : List Int} {dn : List Bool} (he : edgeL n m i = true) (hp : 0 ≤ p.getD i 0) : Cand n m p lv dn i 0 (p.getD i 0) :=
  ⟨fun _ => ⟨hp, Int.le_refl _⟩, fun _ _ h => absurd h (Nat.not_lt_zero _), .inr ⟨hp, .inl ⟨he, rfl⟩⟩⟩
theorem cand_none {n m i : Nat} {p lv : List Int} {dn : List Bool} (he : edgeL n m i = false) : Cand n m p lv dn i 0 (-1) :=
  ⟨fun h => (by rw [he] at h; cases h), fun _ _ h => absurd h (Nat.not_lt_zero _), .inl rfl⟩
theorem Cand.skip {n m i t k : Nat} {p lv : List Int} {dn : List Bool} {x : Int} (C : Cand n m p lv dn i t x) (hk : (aroundL n m i).getD t 0 = k) (hd : dn.getD k false = false) : Cand n m p lv dn i (t + 1) x :=
  ⟨C.1, fun s j hs hs2 hj hdj => by
    by_cases e : s = t
    · subst e
      have : j = k := by omega
      subst this
      rw [hd] at hdj; cases hdj
    · exact C.2.1 s j (by omega) hs2 hj hdj, C.2.2⟩
theorem Cand.keep {n m i t k : Nat} {p lv : List Int} {dn : List Bool} {x : Int} (C : Cand n m p lv dn i t x) (hk : (aroundL n m i).getD t 0 = k) (h0 : ¬ x < 0) (h1 : ¬ max (lv.getD k 0) (p.getD i 0) < x) : Cand n m p lv dn i (t + 1) x :=
  ⟨C.1, fun s j hs hs2 hj hdj => by
    by_cases e : s = t
    · subst e
      have : j = k := by omega
      subst this
      omega
    · exact C.2.1 s j (by omega) hs2 hj hdj, C.2.2⟩
theorem Cand.take {n m i t k : Nat} {p lv : List Int} {dn : List Bool} {x : Int} (C : Cand n m p lv dn i t x) (hp : 0 ≤ p.getD i 0) (ht : t < (aroundL n m i).length) (hk : (aroundL n m i).getD t 0 = k) (hd : dn.getD k false = true)
    (h : x < 0 ∨ max (lv.getD k 0) (p.getD i 0) < x) : Cand n m p lv dn i (t + 1) (max (lv.getD k 0) (p.getD i 0)) := by
  have hmem : (k : Int) ∈ aroundL n m i := by
    rw [← hk, List.getD_eq_getElem?_getD, List.getElem?_eq_getElem ht]
    exact List.getElem_mem ht
  refine ⟨fun he => ?_, fun s j hs hs2 hj hdj => ?_, .inr ⟨by omega, .inr ⟨k, hmem, hd, rfl⟩⟩⟩
  · have := C.1 he
    omega
  · by_cases e : s = t
    · subst e
      have : j = k := by omega
      subst this
      omega
    · have := C.2.1 s j (by omega) hs2 hj hdj
      omega

/-- Whatever an untold cell can be told is no less. -/
def Over (n m : Nat) (p lv : List Int) (dn : List Bool) (L : Int) (x : Nat) : Prop :=
  (edgeL n m x = true → L ≤ p.getD x 0) ∧ ∀ k : Nat, (k : Int) ∈ aroundL n m x → dn.getD k false = true → L ≤ max (lv.getD k 0) (p.getD x 0)
theorem Cand.over {n m i : Nat} {p lv : List Int} {dn : List Bool} {x : Int} (C : Cand n m p lv dn i (aroundL n m i).length x) (L : Int) (h : x < 0 ∨ L ≤ x) : Over n m p lv dn L i := by
  refine ⟨fun he => ?_, fun k hk hd => ?_⟩
  · have := C.1 he; omega
  · obtain ⟨s, hs1, hs2⟩ := List.getElem_of_mem hk
    have := C.2.1 s k hs1 hs1 (by simp [hs1, hs2]) hd
    omega
/-- The best of the untold cells before i. -/
def Best (n m : Nat) (p lv : List Int) (dn : List Bool) (i : Nat) (best low : Int) : Prop :=
  (best = -1 ∧ ∀ x, x < i → dn.getD x false = false → ∀ L, Over n m p lv dn L x) ∨
  ∃ b : Nat, best = b ∧ b < n * m ∧ dn.getD b false = false ∧ Cand n m p lv dn b (aroundL n m b).length low ∧ 0 ≤ low ∧ ∀ x, x < i → dn.getD x false = false → Over n m p lv dn low x
theorem best_start (n m : Nat) (p lv : List Int) (dn : List Bool) (low : Int) : Best n m p lv dn 0 (-1) low := .inl ⟨rfl, fun _ h => absurd h (Nat.not_lt_zero _)⟩
theorem Best.done {n m i : Nat} {p lv : List Int} {dn : List Bool} {best low : Int} (B : Best n m p lv dn i best low) (h : dn.getD i false = true) : Best n m p lv dn (i + 1) best low := by
  have key : ∀ x, x < i + 1 → dn.getD x false = false → x < i := fun x hx hd => by
    by_cases e : x = i
    · subst e; rw [h] at hd; cases hd
    · omega
  rcases B with ⟨h1, h2⟩ | ⟨b, h1, h2, h3, h4, h5, h6⟩
  · exact .inl ⟨h1, fun x hx hd => h2 x (key x hx hd) hd⟩
  · exact .inr ⟨b, h1, h2, h3, h4, h5, fun x hx hd => h6 x (key x hx hd) hd⟩
theorem Best.skip {n m i : Nat} {p lv : List Int} {dn : List Bool} {best low x : Int} (B : Best n m p lv dn i best low) (C : Cand n m p lv dn i (aroundL n m i).length x) (h : x < 0 ∨ ¬ best < 0 ∧ ¬ x < low) : Best n m p lv dn (i + 1) best low := by
  rcases B with ⟨h1, h2⟩ | ⟨b, h1, h2, h3, h4, h5, h6⟩
  · refine .inl ⟨h1, fun y hy hd L => ?_⟩
    by_cases e : y = i
    · subst e; exact C.over L (.inl (by omega))
    · exact h2 y (by omega) hd L
  · refine .inr ⟨b, h1, h2, h3, h4, h5, fun y hy hd => ?_⟩
    by_cases e : y = i
    · subst e; exact C.over low (by omega)
    · exact h6 y (by omega) hd
theorem Best.take {n m i : Nat} {p lv : List Int} {dn : List Bool} {best low x : Int} (B : Best n m p lv dn i best low) (hi : i < n * m) (hd : dn.getD i false = false) (C : Cand n m p lv dn i (aroundL n m i).length x) (h0 : 0 ≤ x) (h : best < 0 ∨ x < low) : Best n m p lv dn (i + 1) i x := by
  refine .inr ⟨i, rfl, hi, hd, C, h0, fun y hy hdy => ?_⟩
  by_cases e : y = i
  · subst e; exact C.over x (.inr (Int.le_refl _))
  · rcases B with ⟨_, h2⟩ | ⟨b, h1, h2, h3, h4, h5, h6⟩
    · exact h2 y (by omega) hdy x
    · have := h6 y (by omega) hdy
      exact ⟨fun he => by have := this.1 he; omega, fun k hk hdk => by have := this.2 k hk hdk; omega⟩

/-- Some cells are told, up to low. -/
structure Pick (n m : Nat) (p lv : List Int) (dn : List Bool) (low : Int) : Prop where
  len : lv.length = n * m
  lenB : dn.length = n * m
  esc : ∀ i, i < n * m → dn.getD i false = true → Esc n m p (lv.getD i 0) i
  edge : ∀ i, i < n * m → dn.getD i false = true → edgeL n m i = true → lv.getD i 0 ≤ p.getD i 0
  calm : ∀ i, i < n * m → dn.getD i false = true → ∀ k : Nat, (k : Int) ∈ aroundL n m i → dn.getD k false = true → lv.getD i 0 ≤ max (lv.getD k 0) (p.getD i 0)
  under : ∀ i, i < n * m → dn.getD i false = true → lv.getD i 0 ≤ low
  over : ∀ i, i < n * m → dn.getD i false = false → Over n m p lv dn low i
theorem pick_start {n m : Nat} {p : List Int} (hp : ∀ i, i < n * m → 0 ≤ p.getD i 0) : Pick n m p (List.replicate (n * m) 0) (List.replicate (n * m) false) 0 := by
  have e : ∀ i, (List.replicate (n * m) false).getD i false = false := fun i => by
    rcases Nat.lt_or_ge i (n * m) with h | h <;> simp [h]
  refine ⟨by simp, by simp, fun i _ h => ?_, fun i _ h => ?_, fun i _ h => ?_, fun i _ h => ?_, fun i hi _ => ⟨fun _ => hp i hi, fun k _ h => ?_⟩⟩
  all_goals (rw [e] at h; cases h)
/-- While a cell is untold, one can be told. -/
theorem Pick.some {n m : Nat} {p lv : List Int} {dn : List Bool} {low best l2 : Int} (P : Pick n m p lv dn low) (hp : ∀ i, i < n * m → p.getD i 0 ≤ 12) (B : Best n m p lv dn (n * m) best l2) (i : Nat) (hi : i < n * m) (hd : dn.getD i false = false) : 0 ≤ best := by
  rcases B with ⟨_, h2⟩ | ⟨b, h1, _⟩
  · exfalso
    have key : ∀ {i : Nat}, Esc n m p 12 i → dn.getD i false = false → False := fun {i} h => by
      induction h with
      | edge h1 h3 h4 => intro hd; have := (h2 _ h1 hd 13).1 h3; omega
      | @step i k h1 h3 h4 h5 ih =>
        intro hd
        cases hk : dn.getD k false with
        | false => exact ih hk
        | true =>
          have hu := P.under k h5.lt hk
          have := (h2 _ h1 hd (max low 12 + 1)).2 k h3 hk
          have := hp i h1
          omega
    exact key (esc_top hp i hi) hd
  · omega
theorem Pick.tell {n m b : Nat} {p lv : List Int} {dn : List Bool} {low l2 : Int} (P : Pick n m p lv dn low) (hn : n ≤ 5) (hm : m ≤ 5) (B : Best n m p lv dn (n * m) b l2) :
    b < n * m ∧ dn.getD b false = false ∧ Pick n m p (lv.set b l2) (dn.set b true) l2 := by
  rcases B with ⟨h1, _⟩ | ⟨b2, h1, hb, hd, C, h0, hov⟩
  · omega
  · have : b2 = b := by omega
    subst this
    have hl := P.len
    have hlB := P.lenB
    have g : ∀ i, (lv.set b2 l2).getD i 0 = if i = b2 then l2 else lv.getD i 0 := fun i => getD_set lv b2 i l2 (by omega)
    have gB : ∀ i, (dn.set b2 true).getD i false = if i = b2 then true else dn.getD i false := fun i => getD_setB dn b2 i true (by omega)
    have hlow : low ≤ l2 := by
      have O := P.over b2 hb hd
      rcases C.2.2 with h | ⟨_, ⟨he, e⟩ | ⟨k, hk, hdk, e⟩⟩
      · omega
      · have := O.1 he; omega
      · have := O.2 k hk hdk; omega
    refine ⟨hb, hd, by simp [hl], by simp [hlB], fun i hi h => ?_, fun i hi h he => ?_, fun i hi h k hk hdk => ?_, fun i hi h => ?_, fun i hi h => ?_⟩
    · rw [gB] at h
      rw [g]
      by_cases e : i = b2
      · subst e
        rw [if_pos rfl]
        rcases C.2.2 with h | ⟨_, ⟨he, e⟩ | ⟨k, hk, hdk, e⟩⟩
        · omega
        · exact .edge hi he (by omega)
        · exact .step hi hk (by omega) ((P.esc k (around_lt hn hm hi hk) hdk).up (by omega))
      · rw [if_neg e] at h ⊢
        exact P.esc i hi h
    · rw [gB] at h
      rw [g]
      by_cases e : i = b2
      · subst e
        rw [if_pos rfl]
        exact (C.1 he).2
      · rw [if_neg e] at h ⊢
        exact P.edge i hi h he
    · rw [gB] at h hdk
      rw [g, g]
      have hkN := around_lt hn hm hi hk
      by_cases e : i = b2
      · subst e
        rw [if_pos rfl]
        by_cases hki : k = i
        · rw [if_pos hki]; omega
        rw [if_neg hki] at hdk ⊢
        obtain ⟨s, hs1, hs2⟩ := List.getElem_of_mem hk
        exact (C.2.1 s k hs1 hs1 (by simp [hs1, hs2]) hdk).2
      · rw [if_neg e] at h ⊢
        by_cases e2 : k = b2
        · rw [if_pos e2]
          have := P.under i hi h
          omega
        · rw [if_neg e2] at hdk ⊢
          exact P.calm i hi h k hk hdk
    · rw [gB] at h
      rw [g]
      by_cases e : i = b2
      · rw [if_pos e]; exact Int.le_refl _
      · rw [if_neg e] at h ⊢
        have := P.under i hi h
        omega
    · rw [gB] at h
      have e : i ≠ b2 := fun e => by rw [if_pos e] at h; cases h
      rw [if_neg e] at h
      have O := hov i hi h
      refine ⟨O.1, fun k hk hdk => ?_⟩
      rw [gB] at hdk
      rw [g]
      by_cases e2 : k = b2
      · rw [if_pos e2]; omega
      · rw [if_neg e2] at hdk ⊢
        exact O.2 k hk hdk
theorem Pick.level {n m : Nat} {p lv : List Int} {dn : List Bool} {low : Int} (P : Pick n m p lv dn low) (hn : n ≤ 5) (hm : m ≤ 5) (h : dn.count false = 0) : Level n m p lv := by
  have all : ∀ i, i < n * m → dn.getD i false = true := fun i hi => by
    cases hd : dn.getD i false with
    | true => rfl
    | false =>
      have hi2 : i < dn.length := by rw [P.lenB]; exact hi
      have : false ∈ dn := by
        rw [← hd, List.getD_eq_getElem?_getD, List.getElem?_eq_getElem hi2]
        exact List.getElem_mem hi2
      have := List.count_pos_iff.2 this
      omega
  exact ⟨P.len, fun i hi => P.edge i hi (all i hi), fun i hi k hk => P.calm i hi (all i hi) k hk (all k (around_lt hn hm hi hk)), fun i hi => P.esc i hi (all i hi)⟩
end Go.Proofs.YtaeenedjmakelaaDoor
