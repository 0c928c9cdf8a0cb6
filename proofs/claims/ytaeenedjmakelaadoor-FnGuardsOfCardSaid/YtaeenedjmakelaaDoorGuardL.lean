/- No guard can be left out, as lists (FnGuardsOf). -/
import Derived.Test.YtaeenedjmakelaaDoorGuardM
import Derived.Test.YtaeenedjmakelaaDoorAscends
namespace Go.Proofs.YtaeenedjmakelaaDoor
open Go.RowKit

theorem covers_all {p : List Int} : coversB p (2 ^ p.length - 1) = true := by
  refine List.all_eq_true.2 fun k hk => List.any_eq_true.2 ⟨k, hk, ?_⟩
  rw [Nat.testBit_two_pow_sub_one, decide_eq_true (List.mem_range.1 hk), Bool.true_and, show min k k = k by omega, show max k k = k by omega]
  exact (seesB_iff p k k).2 fun x h1 h2 => absurd h1 (by omega)
theorem fewTo_covers (p : List Int) : ∀ k, coversB p (fewTo p k) = true
  | 0 => covers_all
  | k + 1 => by
    rw [fewTo]
    split
    · rename_i h; exact h.2
    · exact fewTo_covers p k
theorem fewTo_least (p : List Int) : ∀ k s, s < k → coversB p s = true → (memL (fewTo p k)).length ≤ (memL s).length
  | 0, s, h, _ => absurd h (Nat.not_lt_zero _)
  | k + 1, s, h, hc => by
    rw [fewTo]
    by_cases e : s = k
    · subst e
      split
      · exact Nat.le_refl _
      · rename_i hn
        exact Nat.le_of_not_lt fun hl => hn ⟨hl, hc⟩
    · have ih := fewTo_least p k s (by omega) hc
      split
      · rename_i hn; omega
      · exact ih
/-- A set without one of its members has one less. -/
theorem memTo_less (f m : Nat) (hm : f.testBit m = true) : ∀ i, (memTo (f ^^^ 2 ^ m) i).length + (if m < i then 1 else 0) = (memTo f i).length
  | 0 => by simp [memTo]
  | i + 1 => by
    have ih := memTo_less f m hm i
    rw [memTo_succ, memTo_succ, Nat.testBit_xor]
    by_cases e : i = m
    · subst e
      rw [Nat.testBit_two_pow_self, hm, if_neg (show ¬ (true ^^ true) = true by decide), if_pos rfl, List.length_append, List.length_singleton, if_pos (by omega)]
      rw [if_neg (Nat.lt_irrefl _)] at ih
      omega
    · rw [Nat.testBit_two_pow_of_ne (fun h => e h.symm), Bool.xor_false]
      have h2 : (if m < i + 1 then 1 else 0) = (if m < i then 1 else 0) := by
        by_cases h : m < i
        · rw [if_pos h, if_pos (by omega)]
        · rw [if_neg h, if_neg (by omega)]
      rw [h2]
      split
      · rw [List.length_append, List.length_append, List.length_singleton]; omega
      · exact ih
theorem memTo_asc (x : Nat) : ∀ i, ascB (memTo x i) = true ∧ ∀ j, j < (memTo x i).length → (memTo x i).getD j 0 < (i : Int)
  | 0 => ⟨rfl, fun j hj => by simp [memTo] at hj⟩
  | i + 1 => by
    obtain ⟨h1, h2⟩ := memTo_asc x i
    rw [memTo_succ]
    by_cases hb : x.testBit i = true
    · rw [if_pos hb]
      obtain ⟨L, eL⟩ : ∃ L, memTo x i = L := ⟨_, rfl⟩
      rw [eL] at h1 h2 ⊢
      have hl : ∀ j, j < L.length → (L ++ [(i : Int)]).getD j 0 = L.getD j 0 := fun j hj => getD_append_l L _ j 0 hj
      have hr : (L ++ [(i : Int)]).getD L.length 0 = i := getD_append_r L _ 0
      constructor
      · unfold ascB
        rw [List.length_append, List.length_singleton, ascTo_succ]
        have e : ascTo (L ++ [(i : Int)]) L.length = ascTo L L.length := by
          unfold ascTo
          rw [Bool.eq_iff_iff, List.all_eq_true, List.all_eq_true]
          have key : ∀ j, j ∈ List.range L.length → (decide (j = 0) || decide ((L ++ [(i : Int)]).getD (j - 1) 0 < (L ++ [(i : Int)]).getD j 0)) = (decide (j = 0) || decide (L.getD (j - 1) 0 < L.getD j 0)) := fun j hj => by
            have := List.mem_range.1 hj
            rw [hl j this, hl (j - 1) (by omega)]
          exact ⟨fun h j hj => by rw [← key j hj]; exact h j hj, fun h j hj => by rw [key j hj]; exact h j hj⟩
        rw [e, show ascTo L L.length = true from h1, Bool.true_and]
        by_cases h0 : L.length = 0
        · simp [h0]
        · rw [hr, hl _ (by omega), decide_eq_true (h2 _ (by omega)), Bool.or_true]
      · intro j hj
        rw [List.length_append, List.length_singleton] at hj
        by_cases e : j = L.length
        · subst e; rw [hr]; omega
        · rw [hl j (by omega)]
          have := h2 j (by omega)
          omega
    · rw [if_neg hb]
      exact ⟨h1, fun j hj => by have := h2 j hj; omega⟩
theorem asc_lt {L : List Int} (h : ascB L = true) : ∀ j i, i < j → j < L.length → L.getD i 0 < L.getD j 0
  | 0, i, hi, _ => absurd hi (Nat.not_lt_zero _)
  | j + 1, i, hi, hj => by
    have h1 := List.all_eq_true.1 h (j + 1) (List.mem_range.2 hj)
    simp at h1
    have h2 : L.getD j 0 < L.getD (j + 1) 0 := by simpa using h1
    by_cases e : i = j
    · subst e; exact h2
    · have := asc_lt h j i (by omega) (by omega)
      omega
/-- Whether k is seen from one of the first x of M, but for that at skip. -/
def thr (p M : List Int) (skip : Int) (k : Nat) : Nat → Bool
  | 0 => false
  | x + 1 => thr p M skip k x || (decide ((x : Int) ≠ skip) && (seenL p (M.getD x 0).toNat).getD k false)
theorem thr_iff (p M : List Int) (skip : Int) (k : Nat) : ∀ x, thr p M skip k x = true ↔ ∃ j, j < x ∧ (j : Int) ≠ skip ∧ (seenL p (M.getD j 0).toNat).getD k false = true
  | 0 => ⟨fun h => by simp [thr] at h, fun ⟨j, h, _⟩ => absurd h (Nat.not_lt_zero _)⟩
  | x + 1 => by
    rw [thr, Bool.or_eq_true, thr_iff p M skip k x, Bool.and_eq_true, decide_eq_true_eq]
    constructor
    · rintro (⟨j, h1, h2, h3⟩ | ⟨h1, h2⟩)
      · exact ⟨j, by omega, h2, h3⟩
      · exact ⟨x, by omega, h1, h2⟩
    · rintro ⟨j, h1, h2, h3⟩
      by_cases e : j = x
      · subst e; exact .inr ⟨h2, h3⟩
      · exact .inl ⟨j, by omega, h2, h3⟩
def allThr (p M : List Int) (skip : Int) : Nat → Bool
  | 0 => true
  | k + 1 => allThr p M skip k && thr p M skip k M.length
theorem allThr_iff (p M : List Int) (skip : Int) : ∀ k, allThr p M skip k = true ↔ ∀ j, j < k → thr p M skip j M.length = true
  | 0 => ⟨fun _ j h => absurd h (Nat.not_lt_zero _), fun _ => rfl⟩
  | k + 1 => by
    rw [allThr, Bool.and_eq_true, allThr_iff p M skip k]
    constructor
    · rintro ⟨h1, h2⟩ j hj
      by_cases e : j = k
      · subst e; exact h2
      · exact h1 j (by omega)
    · exact fun h => ⟨fun j hj => h j (by omega), h k (by omega)⟩
theorem memL_at {f j : Nat} (hj : j < (memL f).length) : ∃ i : Nat, (memL f).getD j 0 = (i : Int) ∧ f.testBit i = true ∧ i < 9 := by
  have hm : (memL f).getD j 0 ∈ memL f := by rw [List.getD_eq_getElem?_getD, List.getElem?_eq_getElem hj]; exact List.getElem_mem hj
  obtain ⟨i, h1, h2, h3⟩ := mem_memTo.1 hm
  exact ⟨i, h3, h2, h1⟩
/-- All is seen, and no more so where a guard is left out. -/
theorem guards_few {p : List Int} (h9 : p.length ≤ 9) {f : Nat} (hf : f = fewTo p (2 ^ p.length - 1)) {skip : Int} (h1 : -1 ≤ skip) (h2 : skip < (memL f).length) : allThr p (memL f) skip p.length = decide (skip < 0) := by
  have hc := fewTo_covers p (2 ^ p.length - 1)
  have hlt : f < 2 ^ p.length := by rw [hf]; exact fewTo_lt p _ (Nat.sub_le _ _)
  rw [← hf] at hc
  by_cases hs : skip < 0
  · rw [decide_eq_true hs, allThr_iff]
    intro k hk
    obtain ⟨i, hi, hb⟩ := List.any_eq_true.1 (List.all_eq_true.1 hc k (List.mem_range.2 hk))
    rw [Bool.and_eq_true] at hb
    have hi' := List.mem_range.1 hi
    have hm : (i : Int) ∈ memL f := mem_memTo.2 ⟨i, by omega, hb.1, rfl⟩
    obtain ⟨j, hj, ej⟩ := List.getElem_of_mem hm
    have ej' : (memL f).getD j 0 = (i : Int) := by rw [List.getD_eq_getElem?_getD, List.getElem?_eq_getElem hj]; exact ej
    rw [thr_iff]
    refine ⟨j, hj, by omega, ?_⟩
    rw [ej', Int.toNat_natCast, seenL_at p i k hk]
    exact hb.2
  · rw [decide_eq_false hs]
    cases hA : allThr p (memL f) skip p.length with
    | false => rfl
    | true =>
      exfalso
      rw [allThr_iff] at hA
      obtain ⟨s, rfl⟩ : ∃ s : Nat, skip = s := ⟨skip.toNat, by omega⟩
      obtain ⟨m, em, hm, hm9⟩ := memL_at (f := f) (j := s) (by omega)
      have hml : m < p.length := Nat.lt_of_not_le fun h => by rw [testBit_high hlt h] at hm; cases hm
      have hlt' : f ^^^ 2 ^ m < 2 ^ p.length := Nat.xor_lt_two_pow hlt (Nat.pow_lt_pow_right (by decide) hml)
      have hlen := memTo_less f m hm 9
      rw [if_pos hm9] at hlen
      have hcov : coversB p (f ^^^ 2 ^ m) = true := by
        refine List.all_eq_true.2 fun k hk => ?_
        have hk' := List.mem_range.1 hk
        obtain ⟨j, g1, g2, g3⟩ := (thr_iff p (memL f) s k _).1 (hA k hk')
        obtain ⟨i, ei, hi, _⟩ := memL_at g1
        have hil : i < p.length := Nat.lt_of_not_le fun h => by rw [testBit_high hlt h] at hi; cases hi
        rw [ei, Int.toNat_natCast, seenL_at p i k hk'] at g3
        have hne : i ≠ m := fun e => by
          have hasc := (memTo_asc f 9).1
          have hsl : s < (memTo f 9).length := (show s < (memL f).length by omega)
          rcases Nat.lt_trichotomy j s with g | g | g
          · have := asc_lt hasc s j g hsl
            rw [show (memTo f 9).getD j 0 = (i : Int) from ei, show (memTo f 9).getD s 0 = (m : Int) from em] at this
            omega
          · subst g; exact g2 rfl
          · have := asc_lt hasc j s g g1
            rw [show (memTo f 9).getD j 0 = (i : Int) from ei, show (memTo f 9).getD s 0 = (m : Int) from em] at this
            omega
        refine List.any_eq_true.2 ⟨i, List.mem_range.2 hil, ?_⟩
        rw [Nat.testBit_xor, hi, Nat.testBit_two_pow_of_ne (fun h => hne h.symm), g3]; rfl
      have hle : (memL f).length ≤ (memL (f ^^^ 2 ^ m)).length := by
        by_cases e : f ^^^ 2 ^ m < 2 ^ p.length - 1
        · rw [hf]; exact hf ▸ fewTo_least p _ _ e hcov
        · have e2 : f ^^^ 2 ^ m = 2 ^ p.length - 1 := by omega
          have := fewTo_len p (2 ^ p.length - 1)
          rw [← hf] at this
          rw [e2]; exact this
      have e1 : (memL f).length = (memTo f 9).length := rfl
      have e2 : (memL (f ^^^ 2 ^ m)).length = (memTo (f ^^^ 2 ^ m) 9).length := rfl
      omega
end Go.Proofs.YtaeenedjmakelaaDoor
