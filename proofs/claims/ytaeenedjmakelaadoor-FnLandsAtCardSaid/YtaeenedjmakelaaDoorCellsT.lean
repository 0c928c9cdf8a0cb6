/- Cells that have a side or a corner in common: lists of them, pieces of them. Written by gen_tc.py out of XCells, XPieceM, XPieceT. -/
import Derived.Test.YtaeenedjmakelaaDoorSTouch
namespace Go.Proofs.YtaeenedjmakelaaDoor.Tc
open Go.RowKit

def stepR (k : Nat) : Int := if k < 2 then -1 else 1
def stepC (k : Nat) : Int := if k % 2 = 0 then -1 else 1
/-- Is the corner of number k inside? -/
def inK (n m I k : Nat) : Bool := decide (((I / m : Nat) : Int) + stepR k = clamp (((I / m : Nat) : Int) + stepR k) n) && decide (((I % m : Nat) : Int) + stepC k = clamp (((I % m : Nat) : Int) + stepC k) m)
def toK (m I k : Nat) : Int := (((I / m : Nat) : Int) + stepR k) * m + (((I % m : Nat) : Int) + stepC k)
/-- The first k corners of a cell that are inside. -/
def besideL (n m I : Nat) : Nat → List Int
  | 0 => []
  | k + 1 => besideL n m I k ++ (if inK n m I k then [toK m I k] else [])
theorem besideL_len (n m I k : Nat) : (besideL n m I k).length ≤ k := by
  induction k with
  | zero => simp [besideL]
  | succ k ih =>
    unfold besideL
    rw [List.length_append]
    split <;> simp <;> omega
theorem inK_iff (n m I k : Nat) (hn : 1 ≤ n) (hm : 1 ≤ m) : inK n m I k = true ↔ (0 ≤ ((I / m : Nat) : Int) + stepR k ∧ ((I / m : Nat) : Int) + stepR k < n) ∧ 0 ≤ ((I % m : Nat) : Int) + stepC k ∧ ((I % m : Nat) : Int) + stepC k < m := by
  unfold inK
  rw [Bool.and_eq_true, decide_eq_true_eq, decide_eq_true_eq, clamp_in _ _ hn, clamp_in _ _ hm]
def aroundL (n m I : Nat) : List Int := Go.Proofs.YtaeenedjmakelaaDoor.aroundL n m I ++ besideL n m I 4
def aroundChk (n m I : Nat) : Bool := (aroundL n m I).all (fun j => decide (0 ≤ j) && decide (j < ((n * m : Nat) : Int)) && decide ((I : Int) ∈ aroundL n m j.toNat)) && decide ((aroundL n m I).length ≤ 8)
theorem around_chk : ∀ n, n < 6 → ∀ m, m < 6 → ∀ I, I < 25 → (n * m ≤ I ∨ aroundChk n m I = true) := by decide +kernel
theorem around_facts {n m I : Nat} (hn : n ≤ 5) (hm : m ≤ 5) (hI : I < n * m) :
    (∀ j, j ∈ aroundL n m I → 0 ≤ j ∧ j < ((n * m : Nat) : Int) ∧ (I : Int) ∈ aroundL n m j.toNat) ∧ True ∧ (aroundL n m I).length ≤ 8 := by
  have h25 : I < 25 := Nat.lt_of_lt_of_le hI (Nat.mul_le_mul hn hm)
  rcases around_chk n (by omega) m (by omega) I h25 with h | h
  · omega
  · simp only [aroundChk, Bool.and_eq_true, List.all_eq_true, decide_eq_true_eq] at h
    exact ⟨fun j hj => ⟨(h.1 j hj).1.1, (h.1 j hj).1.2, (h.1 j hj).2⟩, trivial, h.2⟩
/-- Over cells beside each other that are joined. -/
inductive Reach (n m : Nat) (J : Nat → Nat → Bool) (i : Nat) : Nat → Prop
  | refl : Reach n m J i i
  | step {j k : Nat} : Reach n m J i j → (k : Int) ∈ aroundL n m j → J j k = true → Reach n m J i k
def Symm (J : Nat → Nat → Bool) : Prop := ∀ i k, J i k = true → J k i = true

structure Flats (n m : Nat) (J : Nat → Nat → Bool) (f : List Int) : Prop where
  len : f.length = n * m
  ok : ∀ i, i < n * m → ∃ j : Nat, f.getD i 0 = j ∧ j ≤ i ∧ Reach n m J i j
  same : ∀ i, i < n * m → ∀ k : Nat, (k : Int) ∈ aroundL n m i → J i k = true → f.getD k 0 = f.getD i 0

theorem around_lt {n m i k : Nat} (hn : n ≤ 5) (hm : m ≤ 5) (hi : i < n * m) (hk : (k : Int) ∈ aroundL n m i) : k < n * m := by
  have := ((around_facts hn hm hi).1 k hk).2.1
  omega
theorem around_back {n m i k : Nat} (hn : n ≤ 5) (hm : m ≤ 5) (hi : i < n * m) (hk : (k : Int) ∈ aroundL n m i) : (i : Int) ∈ aroundL n m k := by
  have := ((around_facts hn hm hi).1 k hk).2.2
  rwa [Int.toNat_natCast] at this
theorem Reach.lt {n m i j : Nat} {J : Nat → Nat → Bool} (hn : n ≤ 5) (hm : m ≤ 5) (hi : i < n * m) (h : Reach n m J i j) : j < n * m := by
  induction h with
  | refl => exact hi
  | step _ hk _ ih => exact around_lt hn hm ih hk
theorem Reach.trans {n m i j k : Nat} {J : Nat → Nat → Bool} (h : Reach n m J i j) (g : Reach n m J j k) : Reach n m J i k := by
  induction g with
  | refl => exact h
  | step _ hk he ih => exact .step ih hk he
theorem Reach.symm {n m i j : Nat} {J : Nat → Nat → Bool} (hJ : Symm J) (hn : n ≤ 5) (hm : m ≤ 5) (hi : i < n * m) (h : Reach n m J i j) : Reach n m J j i := by
  induction h with
  | refl => exact .refl
  | step hj hk he ih => exact (Reach.step .refl (around_back hn hm (hj.lt hn hm hi) hk) (hJ _ _ he)).trans ih
theorem Flats.reach {n m i j : Nat} {J : Nat → Nat → Bool} {f : List Int} (hn : n ≤ 5) (hm : m ≤ 5) (F : Flats n m J f) (hi : i < n * m) (h : Reach n m J i j) : f.getD j 0 = f.getD i 0 := by
  induction h with
  | refl => rfl
  | step hj hk he ih => rw [F.same _ (hj.lt hn hm hi) _ hk he, ih]
theorem Flats.le {n m : Nat} {J : Nat → Nat → Bool} {f g : List Int} (hn : n ≤ 5) (hm : m ≤ 5) (F : Flats n m J f) (G : Flats n m J g) (i : Nat) (hi : i < n * m) : f.getD i 0 ≤ g.getD i 0 := by
  obtain ⟨j, e, _, hr⟩ := G.ok i hi
  obtain ⟨k, e2, hk, _⟩ := F.ok j (hr.lt hn hm hi)
  rw [e, ← F.reach hn hm hi hr, e2]
  omega
theorem Flats.uniq {n m : Nat} {J : Nat → Nat → Bool} {f g : List Int} (hn : n ≤ 5) (hm : m ≤ 5) (F : Flats n m J f) (G : Flats n m J g) : f = g := by
  apply List.ext_getElem
  · rw [F.len, G.len]
  · intro i h1 h2
    have h3 := F.le hn hm G i (by rw [← F.len]; exact h1)
    have h4 := G.le hn hm F i (by rw [← F.len]; exact h1)
    have e1 : f.getD i 0 = f[i] := by simp [h1]
    have e2 : g.getD i 0 = g[i] := by simp [h2]
    rw [← e1, ← e2]
    omega

/-- Joined as they are of one height. -/
def sameH (p : List Int) (i k : Nat) : Bool := decide (p.getD i 0 = p.getD k 0)
theorem sameH_iff {p : List Int} {i k : Nat} : sameH p i k = true ↔ p.getD i 0 = p.getD k 0 := by simp [sameH]
theorem sameH_symm (p : List Int) : Symm (sameH p) := fun _ _ h => sameH_iff.2 (sameH_iff.1 h).symm
theorem Reach.high {n m i j : Nat} {p : List Int} (h : Reach n m (sameH p) i j) : p.getD j 0 = p.getD i 0 := by
  induction h with
  | refl => rfl
  | step _ _ he ih => rw [← sameH_iff.1 he, ih]

/-- Cells met so far: each has the first cell of its flat. -/
structure Met (n m : Nat) (J : Nat → Nat → Bool) (c : Nat) (fs : List Int) : Prop where
  len : fs.length = n * m
  ok : ∀ i, i < n * m → fs.getD i 0 = -1 ∨ ∃ j : Nat, fs.getD i 0 = j ∧ j ≤ i ∧ j < c ∧ Reach n m J i j
  below : ∀ i, i < c → i < n * m → fs.getD i 0 ≠ -1
/-- Between two first cells. -/
structure Between (n m : Nat) (J : Nat → Nat → Bool) (c : Nat) (fs : List Int) : Prop extends Met n m J c fs where
  closed : ∀ i, i < n * m → fs.getD i 0 ≠ -1 → ∀ k : Nat, (k : Int) ∈ aroundL n m i → J i k = true → fs.getD k 0 = fs.getD i 0
/-- While the flat of c is gone over: the queue, from place q on, is not done. -/
structure Going (n m : Nat) (J : Nat → Nat → Bool) (c : Nat) (fs met : List Int) (q : Nat) : Prop extends Met n m J (c + 1) fs where
  mets : ∀ s, s < met.length → ∃ X : Nat, met.getD s 0 = X ∧ X < n * m ∧ fs.getD X 0 = c
  closed : ∀ i, i < n * m → fs.getD i 0 ≠ -1 → (∀ s, q ≤ s → s < met.length → met.getD s 0 ≠ i) → ∀ k : Nat, (k : Int) ∈ aroundL n m i → J i k = true → fs.getD k 0 = fs.getD i 0
  room : met.length + fs.count (-1) ≤ n * m
/-- The first t of the cells beside the one at place q are done. -/
def Done (n m : Nat) (J : Nat → Nat → Bool) (c : Nat) (fs met : List Int) (q t : Nat) : Prop :=
  ∀ s k : Nat, s < t → s < (aroundL n m (met.getD q 0).toNat).length → (aroundL n m (met.getD q 0).toNat).getD s 0 = k → J (met.getD q 0).toNat k = true → fs.getD k 0 = c

theorem between_start (n m : Nat) (J : Nat → Nat → Bool) : Between n m J 0 (List.replicate (n * m) (-1)) := by
  have e : ∀ i, i < n * m → (List.replicate (n * m) (-1 : Int)).getD i 0 = -1 := fun i hi => by simp [hi]
  exact ⟨⟨by simp, fun i hi => .inl (e i hi), fun i hi => absurd hi (Nat.not_lt_zero _)⟩, fun i hi h => absurd (e i hi) h⟩
theorem Between.flats {n m : Nat} {J : Nat → Nat → Bool} {fs : List Int} (B : Between n m J (n * m) fs) : Flats n m J fs := by
  refine ⟨B.len, fun i hi => ?_, fun i hi => B.closed i hi (B.below i hi hi)⟩
  rcases B.ok i hi with h | ⟨j, h1, h2, _, h3⟩
  · exact absurd h (B.below i hi hi)
  · exact ⟨j, h1, h2, h3⟩
theorem Between.next {n m c : Nat} {J : Nat → Nat → Bool} {fs : List Int} (B : Between n m J c fs) (h : fs.getD c 0 ≠ -1) : Between n m J (c + 1) fs := by
  refine ⟨⟨B.len, fun i hi => ?_, fun i hi hi2 => ?_⟩, B.closed⟩
  · rcases B.ok i hi with h | ⟨j, h1, h2, h3, h4⟩
    · exact .inl h
    · exact .inr ⟨j, h1, h2, by omega, h4⟩
  · by_cases e : i = c
    · subst e; exact h
    · exact B.below i (by omega) hi2
theorem Going.between {n m c : Nat} {J : Nat → Nat → Bool} {fs met : List Int} (G : Going n m J c fs met met.length) : Between n m J (c + 1) fs :=
  ⟨G.toMet, fun i hi h k hk he => G.closed i hi h (fun s h1 h2 => by omega) k hk he⟩
theorem count_le (l : List Int) : l.count (-1) ≤ l.length := List.count_le_length
theorem Between.going {n m c : Nat} {J : Nat → Nat → Bool} {fs : List Int} (B : Between n m J c fs) (hc : c < n * m) (h : fs.getD c 0 = -1) : Going n m J c (fs.set c c) [(c : Int)] 0 := by
  have hl := B.len
  have g : ∀ i, (fs.set c (c : Int)).getD i 0 = if i = c then (c : Int) else fs.getD i 0 := fun i => getD_set fs c i c (by omega)
  refine ⟨⟨by simp [hl], fun i hi => ?_, fun i hi hi2 => ?_⟩, fun s hs => ?_, fun i hi hne hno k hk he => ?_, ?_⟩
  · rw [g]
    by_cases e : i = c
    · rw [if_pos e]; exact .inr ⟨c, rfl, by omega, by omega, by subst e; exact .refl⟩
    · rw [if_neg e]
      rcases B.ok i hi with h | ⟨j, h1, h2, h3, h4⟩
      · exact .inl h
      · exact .inr ⟨j, h1, h2, by omega, h4⟩
  · rw [g]
    by_cases e : i = c
    · rw [if_pos e]; omega
    · rw [if_neg e]; exact B.below i (by omega) hi2
  · have : s = 0 := by simp at hs; omega
    subst this
    exact ⟨c, rfl, hc, by rw [g, if_pos rfl]⟩
  · have hic : i ≠ c := fun e => hno 0 (Nat.le_refl _) (by simp) (by simp [e])
    rw [g i, if_neg hic] at hne ⊢
    have := B.closed i hi hne k hk he
    rw [g]
    by_cases e : k = c
    · rw [e] at this; rw [h] at this; exact absurd this.symm hne
    · rw [if_neg e]; exact this
  · have := count_set fs c c (by omega) h (by omega)
    have := count_le fs
    simp only [List.length_singleton]
    omega
theorem Going.high {n m c X : Nat} {J : Nat → Nat → Bool} {fs met : List Int} {q : Nat} (G : Going n m J c fs met q) (hX : X < n * m) (h : fs.getD X 0 = c) : Reach n m J X c := by
  rcases G.ok X hX with h1 | ⟨j, h1, _, _, h2⟩
  · omega
  · have : j = c := by omega
    subst this; exact h2
/-- A cell beside is met. -/
theorem Going.mark {n m c k t : Nat} {J : Nat → Nat → Bool} {fs met : List Int} {q : Nat} (hJ : Symm J) (hn : n ≤ 5) (hm : m ≤ 5) (G : Going n m J c fs met q) (hq : q < met.length) (D : Done n m J c fs met q t)
    (ht : t < (aroundL n m (met.getD q 0).toNat).length) (hk : (aroundL n m (met.getD q 0).toNat).getD t 0 = k) (h1 : fs.getD k 0 = -1) (h2 : J (met.getD q 0).toNat k = true) :
    Going n m J c (fs.set k c) (met ++ [(k : Int)]) q ∧ Done n m J c (fs.set k c) (met ++ [(k : Int)]) q (t + 1) ∧ (met ++ [(k : Int)]).getD q 0 = met.getD q 0 := by
  obtain ⟨X, hX1, hX2, hX3⟩ := G.mets q hq
  have hR := G.high hX2 hX3
  rw [hX1, Int.toNat_natCast] at ht hk h2
  have hmem : (k : Int) ∈ aroundL n m X := by
    rw [← hk, List.getD_eq_getElem?_getD, List.getElem?_eq_getElem ht]
    exact List.getElem_mem ht
  have hkN := around_lt hn hm hX2 hmem
  have hl := G.len
  have hkl : k < fs.length := by omega
  have g : ∀ i, (fs.set k (c : Int)).getD i 0 = if i = k then (c : Int) else fs.getD i 0 := fun i => getD_set fs k i c hkl
  have hck : c < k := by
    rcases Nat.lt_or_ge c k with h | h
    · exact h
    · exact absurd h1 (G.below k (by omega) hkN)
  have hRk : Reach n m J k c := (Reach.step .refl (around_back hn hm hX2 hmem) (hJ _ _ h2)).trans hR
  have eq : (met ++ [(k : Int)]).getD q 0 = met.getD q 0 := getD_append_l _ _ _ _ hq
  refine ⟨⟨⟨by simp [hl], fun i hi => ?_, fun i hi hi2 => ?_⟩, fun s hs => ?_, fun i hi hne hno j hj he => ?_, ?_⟩, ?_, eq⟩
  · rw [g]
    by_cases e : i = k
    · rw [if_pos e]; subst e; exact .inr ⟨c, rfl, by omega, by omega, hRk⟩
    · rw [if_neg e]; exact G.ok i hi
  · rw [g]
    by_cases e : i = k
    · rw [if_pos e]; omega
    · rw [if_neg e]; exact G.below i hi hi2
  · by_cases e : s = met.length
    · subst e
      exact ⟨k, getD_append_r _ _ _, hkN, by rw [g, if_pos rfl]⟩
    · have hs' : s < met.length := by simp at hs; omega
      obtain ⟨Y, hY1, hY2, hY3⟩ := G.mets s hs'
      refine ⟨Y, by rw [getD_append_l _ _ _ _ hs', hY1], hY2, ?_⟩
      rw [g]
      by_cases e2 : Y = k
      · rw [if_pos e2]
      · rw [if_neg e2, hY3]
  · have hik : i ≠ k := fun e => hno met.length (by omega) (by simp) (by rw [getD_append_r, e])
    rw [g i, if_neg hik] at hne ⊢
    have := G.closed i hi hne (fun s hs1 hs2 => by have := hno s hs1 (by simp; omega); rwa [getD_append_l _ _ _ _ hs2] at this) j hj he
    rw [g]
    by_cases e : j = k
    · rw [e] at this; rw [h1] at this; exact absurd this.symm hne
    · rw [if_neg e]; exact this
  · have := count_set fs k c hkl h1 (by omega)
    have := G.room
    simp only [List.length_append, List.length_singleton]
    omega
  · intro s j hs hs2 hj hp
    rw [eq] at hs2 hj hp
    rw [g]
    by_cases e : j = k
    · rw [if_pos e]
    · rw [if_neg e]
      by_cases e2 : s = t
      · subst e2; rw [hX1, Int.toNat_natCast, hk] at hj; omega
      · exact D s j (by omega) hs2 hj hp
/-- A cell beside is of another height, or met. -/
theorem Going.skip {n m c k t : Nat} {J : Nat → Nat → Bool} {fs met : List Int} {q : Nat} (hJ : Symm J) (hn : n ≤ 5) (hm : m ≤ 5) (G : Going n m J c fs met q) (hq : q < met.length) (D : Done n m J c fs met q t)
    (ht : t < (aroundL n m (met.getD q 0).toNat).length) (hk : (aroundL n m (met.getD q 0).toNat).getD t 0 = k) (h : fs.getD k 0 ≠ -1 ∨ J (met.getD q 0).toNat k = false) : Done n m J c fs met q (t + 1) := by
  intro s j hs hs2 hj hp
  by_cases e2 : s = t
  · subst e2
    rw [hk] at hj
    have : j = k := by omega
    subst this
    rcases h with h | h
    · obtain ⟨X, hX1, hX2, hX3⟩ := G.mets q hq
      have hR := G.high hX2 hX3
      rw [hX1, Int.toNat_natCast] at ht hk hp
      have hmem : (j : Int) ∈ aroundL n m X := by
        rw [← hk, List.getD_eq_getElem?_getD, List.getElem?_eq_getElem ht]
        exact List.getElem_mem ht
      have hjN := around_lt hn hm hX2 hmem
      by_cases hin : ∀ s, q ≤ s → s < met.length → met.getD s 0 ≠ j
      · have := G.closed j hjN h hin X (around_back hn hm hX2 hmem) (hJ _ _ hp)
        rw [← this, hX3]
      · simp only [Classical.not_forall] at hin
        obtain ⟨s, _, hs3, hs4⟩ := hin
        obtain ⟨Y, hY1, _, hY3⟩ := G.mets s hs3
        have hs5 : met.getD s 0 = j := Classical.not_not.1 hs4
        have : Y = j := by omega
        subst this; exact hY3
    · rw [h] at hp; cases hp
  · exact D s j (by omega) hs2 hj hp
theorem Going.next {n m c : Nat} {J : Nat → Nat → Bool} {fs met : List Int} {q : Nat} (G : Going n m J c fs met q) (hq : q < met.length) (D : Done n m J c fs met q (aroundL n m (met.getD q 0).toNat).length) : Going n m J c fs met (q + 1) := by
  obtain ⟨X, hX1, hX2, hX3⟩ := G.mets q hq
  have hR := G.high hX2 hX3
  refine ⟨G.toMet, G.mets, fun i hi hne hno k hk he => ?_, G.room⟩
  by_cases e : i = X
  · subst e
    obtain ⟨s, hs1, hs2⟩ := List.getElem_of_mem hk
    have := D s k (by rw [hX1, Int.toNat_natCast]; exact hs1) (by rw [hX1, Int.toNat_natCast]; exact hs1) (by rw [hX1, Int.toNat_natCast]; simp [hs1, hs2]) (by rw [hX1, Int.toNat_natCast]; exact he)
    rw [this, hX3]
  · refine G.closed i hi hne (fun s h1 h2 => ?_) k hk he
    by_cases e2 : s = q
    · subst e2; rw [hX1]; omega
    · exact hno s (by omega) h2
theorem done_zero (n m : Nat) (J : Nat → Nat → Bool) (c : Nat) (fs met : List Int) (q : Nat) : Done n m J c fs met q 0 := fun _ _ hs => absurd hs (Nat.not_lt_zero _)
theorem reach_both {n m i k : Nat} {B : Nat → Bool} (h : Reach n m (bothB B) i k) : k = i ∨ (B i = true ∧ B k = true) := by
  induction h with
  | refl => exact .inl rfl
  | step hj hk he ih =>
    unfold bothB at he
    rw [Bool.and_eq_true] at he
    rcases ih with rfl | ih
    · exact .inr ⟨he.1, he.2⟩
    · exact .inr ⟨ih.1, he.2⟩
theorem pieces_inv {n m : Nat} {B : Nat → Bool} {f : List Int} (hn : n ≤ 5) (hm : m ≤ 5) (F : Flats n m (bothB B) f) : ∀ k, k ≤ n * m → PInv f (whereL k B) (piecesT f (whereL k B))
  | 0, _ => PInv.nil f
  | k + 1, hk => by
    have ih := pieces_inv hn hm F k (by omega)
    rw [whereL_succ]
    cases hB : B k with
    | false => simpa using ih
    | true =>
      rw [if_pos rfl, piecesT_snoc]
      refine ih.add k _ rfl fun hne => ?_
      obtain ⟨j, e, hj, hr⟩ := F.ok k (by omega)
      rw [Int.toNat_natCast, e] at hne ⊢
      have hjk : j < k := by
        rcases Nat.lt_or_ge j k with h | h
        · exact h
        · exact absurd (by rw [show j = k by omega]) hne
      have hBj : B j = true := by
        rcases reach_both hr with h | h
        · omega
        · exact h.2
      refine ⟨(whereL_mem _ _ _).2 ⟨j, hjk, hBj, rfl⟩, ?_⟩
      rw [Int.toNat_natCast, F.reach hn hm (by omega) hr, e]
theorem piece_at {n m : Nat} {B : Nat → Bool} {f : List Int} (hn : n ≤ 5) (hm : m ≤ 5) (F : Flats n m (bothB B) f) {j i : Nat} (hj : j < (piecesT f (whereL (n * m) B)).length) (hx : (i : Int) ∈ (piecesT f (whereL (n * m) B)).getD j []) :
    B i = true ∧ (piecesT f (whereL (n * m) B)).getD j [] = whereL (n * m) (inB B f i) := by
  obtain ⟨h1, h2⟩ := (pieces_inv hn hm F (n * m) (Nat.le_refl _)).holds hj hx
  obtain ⟨k, _, hk, e⟩ := (whereL_mem _ _ _).1 h1
  have : i = k := by omega
  subst this
  rw [Int.toNat_natCast, filter_whereL] at h2
  exact ⟨hk, h2⟩
theorem piece_some {n m : Nat} {B : Nat → Bool} {f : List Int} (hn : n ≤ 5) (hm : m ≤ 5) (F : Flats n m (bothB B) f) {i : Nat} (hi : i < n * m) (hB : B i = true) : ∃ j, j < (piecesT f (whereL (n * m) B)).length ∧ (i : Int) ∈ (piecesT f (whereL (n * m) B)).getD j [] :=
  (pieces_inv hn hm F (n * m) (Nat.le_refl _)).all _ ((whereL_mem _ _ _).2 ⟨i, hi, hB, rfl⟩)
def touchChk (n m : Nat) : Bool := (List.range (n * m)).all fun i => (List.range (n * m)).all fun k => touchB m true i k == (decide (i = k) || decide ((k : Int) ∈ aroundL n m i))
theorem touch_chk : ∀ n, n < 6 → ∀ m, m < 6 → touchChk n m = true := by decide +kernel
theorem touch_iff {n m i k : Nat} (hn : n ≤ 5) (hm : m ≤ 5) (hi : i < n * m) (hk : k < n * m) : touchB m true i k = true ↔ i = k ∨ (k : Int) ∈ aroundL n m i := by
  have h := touch_chk n (by omega) m (by omega)
  unfold touchChk at h
  rw [List.all_eq_true] at h
  have h1 := h i (List.mem_range.2 hi)
  rw [List.all_eq_true] at h1
  have h2 := h1 k (List.mem_range.2 hk)
  rw [beq_iff_eq] at h2
  rw [h2, Bool.or_eq_true, decide_eq_true_eq, decide_eq_true_eq]
theorem rt_reach {n m c x : Nat} {B : Nat → Bool} (hn : n ≤ 5) (hm : m ≤ 5) (hc : c < n * m) (hb : B c = true) (h : RT (n * m) (touchB m true) B c x) : x < n * m ∧ Reach n m (bothB B) c x := by
  induction h with
  | refl => exact ⟨hc, .refl⟩
  | @step j k hj hk hbk hT ih =>
    refine ⟨hk, ?_⟩
    rcases (touch_iff hn hm ih.1 hk).1 hT with rfl | hT
    · exact ih.2
    · exact .step ih.2 hT (by unfold bothB; rw [hj.bel hb, hbk]; rfl)
theorem reach_rt {n m c x : Nat} {B : Nat → Bool} (hn : n ≤ 5) (hm : m ≤ 5) (hc : c < n * m) (h : Reach n m (bothB B) c x) : RT (n * m) (touchB m true) B c x := by
  induction h with
  | refl => exact .refl
  | @step j k hj hk he ih =>
    have hjN := hj.lt hn hm hc
    have hkN := around_lt hn hm hjN hk
    unfold bothB at he
    rw [Bool.and_eq_true] at he
    exact .step ih hkN he.2 ((touch_iff hn hm hjN hkN).2 (.inr hk))
/-- A search begins where a piece has its first cell. -/
theorem lead_iff {n m k : Nat} {B : Nat → Bool} {f : List Int} (hn : n ≤ 5) (hm : m ≤ 5) (F : Flats n m (bothB B) f) (hk : k < n * m) (hb : B k = true) : LeadT (n * m) (touchB m true) B k ↔ f.getD k 0 = k := by
  obtain ⟨j, e, hj, hr⟩ := F.ok k hk
  constructor
  · intro h
    rw [e]
    by_cases hjk : j = k
    · rw [hjk]
    · have hbj : B j = true := by
        rcases reach_both hr with h1 | h1
        · exact absurd h1 hjk
        · exact h1.2
      exact absurd ⟨j, by omega, hbj, reach_rt hn hm (hr.lt hn hm hk) (hr.symm (bothB_symm B) hn hm hk)⟩ h.2
  · intro h
    refine ⟨hb, ?_⟩
    rintro ⟨c, h1, h2, h3⟩
    have hc : c < n * m := by omega
    have h4 := F.reach hn hm hc (rt_reach hn hm hc h2 h3).2
    obtain ⟨d, e2, hd, _⟩ := F.ok c hc
    rw [h, e2] at h4
    omega
theorem pieces_cnt {n m : Nat} {B : Nat → Bool} {f : List Int} (hn : n ≤ 5) (hm : m ≤ 5) (F : Flats n m (bothB B) f) : ∀ k, k ≤ n * m → ((piecesT f (whereL k B)).length : Int) = cntT (n * m) (touchB m true) B k
  | 0, _ => rfl
  | k + 1, hk => by
    have ih := pieces_cnt hn hm F k (by omega)
    have P := pieces_inv hn hm F k (by omega)
    rw [whereL_succ]
    cases hB : B k with
    | false =>
      rw [cntT_no (fun h => by have h1 := h.1; rw [hB] at h1; cases h1)]
      simpa using ih
    | true =>
      rw [if_pos rfl, piecesT_snoc, Int.toNat_natCast]
      obtain ⟨j, e, hj, hr⟩ := F.ok k (by omega)
      have hheads : ∀ r, r < (piecesT f (whereL k B)).length → ((piecesT f (whereL k B)).getD r []).getD 0 0 ∈ whereL k B := fun r hrl => by
        obtain ⟨G, g1, g2, g3⟩ := P.fits r hrl
        have hm0 := head_mem _ g3
        exact (P.holds hrl hm0).1
      by_cases hl : f.getD k 0 = k
      · rw [cntT_yes ((lead_iff hn hm F (by omega) hB).2 hl), addAt_none, List.length_append, List.length_singleton]
        · omega
        · intro r hrl he
          obtain ⟨x, hx, _, ex⟩ := (whereL_mem _ _ _).1 (hheads r hrl)
          omega
      · rw [cntT_no (fun h => hl ((lead_iff hn hm F (by omega) hB).1 h))]
        have hjk : j < k := by
          rcases Nat.lt_or_ge j k with h | h
          · exact h
          · exact absurd (by rw [e, show j = k by omega]) hl
        have hBj : B j = true := by
          rcases reach_both hr with h | h
          · omega
          · exact h.2
        have hfj : f.getD j 0 = f.getD k 0 := F.reach hn hm (by omega) hr
        obtain ⟨r, hrl, hmr⟩ := P.all j ((whereL_mem _ _ _).2 ⟨j, hjk, hBj, rfl⟩)
        obtain ⟨G, g1, g2, g3⟩ := P.fits r hrl
        have hG : f.getD (j : Int).toNat 0 = G := by
          rw [g1, List.mem_filter] at hmr
          simpa using hmr.2
        rw [Int.toNat_natCast] at hG
        obtain ⟨r0, ⟨h1, h2⟩, h3⟩ := least_of (fun r => r < (piecesT f (whereL k B)).length ∧ ((piecesT f (whereL k B)).getD r []).getD 0 0 = f.getD k 0) r ⟨hrl, by rw [g2, ← hG, hfj]⟩
        rw [addAt_found _ _ _ r0 h1 (fun s hs he => by have := h3 s ⟨by omega, he⟩; omega) h2, List.length_set]
        exact ih
end Go.Proofs.YtaeenedjmakelaaDoor.Tc
