/- Sets of places as numbers, as lists (chapter 6's guards). -/
import Derived.Test.YtaeenedjmakelaaDoorSightM
import Derived.Laws.Bits64b
namespace Go.Proofs.YtaeenedjmakelaaDoor
open Go.RowKit

/-- The first members of a set, below i. -/
def memTo (x i : Nat) : List Int := ((List.range i).filter fun k => x.testBit k).map fun (k : Nat) => (k : Int)
def memL (x : Nat) : List Int := memTo x 9
theorem memTo_succ (x i : Nat) : memTo x (i + 1) = if x.testBit i = true then memTo x i ++ [(i : Int)] else memTo x i := by
  unfold memTo
  rw [List.range_succ, List.filter_append, List.map_append]
  by_cases h : x.testBit i = true
  · rw [if_pos h, List.filter_cons_of_pos h]; rfl
  · rw [if_neg h, List.filter_cons_of_neg h]; simp
theorem memTo_len (x : Nat) : ∀ i, (memTo x i).length ≤ i
  | 0 => by simp [memTo]
  | i + 1 => by
    rw [memTo_succ]
    have := memTo_len x i
    split
    · rw [List.length_append, List.length_singleton]; omega
    · omega
theorem mem_memTo {x i : Nat} {y : Int} : y ∈ memTo x i ↔ ∃ k, k < i ∧ x.testBit k = true ∧ y = (k : Int) := by
  unfold memTo
  simp only [List.mem_map, List.mem_filter, List.mem_range]
  exact ⟨fun ⟨k, h, e⟩ => ⟨k, h.1, h.2, e.symm⟩, fun ⟨k, h1, h2, e⟩ => ⟨k, ⟨h1, h2⟩, e.symm⟩⟩
/-- The first k places that are seen from i, as a set. -/
def sightTo (p : List Int) (i : Nat) : Nat → Nat
  | 0 => 0
  | k + 1 => if (seenL p i).getD k false = true then sightTo p i k ||| 2 ^ k else sightTo p i k
theorem sightTo_lt (p : List Int) (i : Nat) : ∀ k, sightTo p i k < 2 ^ k
  | 0 => by simp [sightTo]
  | k + 1 => by
    have h := sightTo_lt p i k
    have h2 : 2 ^ k < 2 ^ (k + 1) := Nat.pow_lt_pow_right (by decide) (by omega)
    rw [sightTo]
    split
    · exact Nat.or_lt_two_pow (by omega) h2
    · omega
theorem sightTo_bit (p : List Int) (i j : Nat) : ∀ k, (sightTo p i k).testBit j = (decide (j < k) && (seenL p i).getD j false)
  | 0 => by simp [sightTo]
  | k + 1 => by
    have h := sightTo_bit p i j k
    rw [sightTo]
    by_cases e : j = k
    · subst e
      rw [decide_eq_false (by omega), Bool.false_and] at h
      rw [decide_eq_true (by omega), Bool.true_and]
      cases hs : (seenL p i).getD j false with
      | true => rw [if_pos rfl, Nat.testBit_or, h, Nat.testBit_two_pow_self]; rfl
      | false => rw [if_neg (by simp), h]
    · have hd : decide (j < k + 1) = decide (j < k) := by rw [Bool.eq_iff_iff, decide_eq_true_eq, decide_eq_true_eq]; omega
      rw [hd, ← h]
      split
      · rw [Nat.testBit_or, Nat.testBit_two_pow_of_ne (by omega), Bool.or_false]
      · rfl
/-- The sights while they are made: those of the places ahead of i, and the first k of i's. -/
def sightsL (p : List Int) (i k : Nat) : List Int := (List.range p.length).map fun a => ((if a < i then sightTo p a p.length else if a = i then sightTo p i k else 0 : Nat) : Int)
theorem sightsL_len (p : List Int) (i k : Nat) : (sightsL p i k).length = p.length := by simp [sightsL]
theorem sightsL_at (p : List Int) (i k a : Nat) (h : a < p.length) : (sightsL p i k).getD a 0 = ((if a < i then sightTo p a p.length else if a = i then sightTo p i k else 0 : Nat) : Int) := by simp [sightsL, h]
theorem sightsL_zero (p : List Int) : sightsL p 0 0 = List.replicate p.length 0 := by
  refine List.ext_getElem (by simp [sightsL]) fun a h1 h2 => ?_
  simp [sightsL, sightTo]
theorem sightsL_next (p : List Int) (i : Nat) : sightsL p i p.length = sightsL p (i + 1) 0 := by
  unfold sightsL
  refine List.map_congr_left fun a _ => ?_
  congr 1
  by_cases h1 : a < i
  · rw [if_pos h1, if_pos (by omega)]
  · by_cases h2 : a = i
    · subst h2; rw [if_neg h1, if_pos rfl, if_pos (by omega)]
    · rw [if_neg h1, if_neg h2, if_neg (by omega)]
      split <;> rfl
theorem sightsL_set (p : List Int) (i k : Nat) : (sightsL p i k).set i ((sightTo p i (k + 1) : Nat) : Int) = sightsL p i (k + 1) := by
  refine List.ext_getElem (by simp [sightsL]) fun a h1 h2 => ?_
  rw [List.getElem_set]
  by_cases e : i = a
  · subst e; simp [sightsL]
  · rw [if_neg e]
    simp only [sightsL, List.getElem_map, List.getElem_range]
    rw [if_neg (fun h : a = i => e h.symm), if_neg (fun h : a = i => e h.symm)]
theorem sightsL_skip (p : List Int) (i k : Nat) (h : (seenL p i).getD k false = false) : sightsL p i (k + 1) = sightsL p i k := by
  have : sightTo p i (k + 1) = sightTo p i k := by rw [sightTo, if_neg (by rw [h]; simp)]
  unfold sightsL
  rw [this]
/-- What is seen from some places, as a set. -/
def seenOf (p : List Int) (xs : List Int) : Nat := xs.foldl (fun a i => a ||| sightTo p i.toNat p.length) 0
theorem seenOf_snoc (p : List Int) (xs : List Int) (i : Int) : seenOf p (xs ++ [i]) = seenOf p xs ||| sightTo p i.toNat p.length := by simp [seenOf]
theorem foldl_or_bit (p : List Int) (k : Nat) : ∀ (xs : List Int) (a : Nat), (xs.foldl (fun a i => a ||| sightTo p i.toNat p.length) a).testBit k = (a.testBit k || xs.any fun i => (sightTo p i.toNat p.length).testBit k)
  | [], a => by simp
  | x :: xs, a => by
    rw [List.foldl_cons, foldl_or_bit p k xs, Nat.testBit_or, List.any_cons, Bool.or_assoc]
theorem seenOf_bit (p : List Int) (xs : List Int) (k : Nat) : (seenOf p xs).testBit k = xs.any fun i => (sightTo p i.toNat p.length).testBit k := by
  unfold seenOf
  rw [foldl_or_bit]; simp
theorem foldl_or_lt (p : List Int) : ∀ (xs : List Int) (a : Nat), a < 2 ^ p.length → xs.foldl (fun a i => a ||| sightTo p i.toNat p.length) a < 2 ^ p.length
  | [], a, h => h
  | x :: xs, a, h => by
    rw [List.foldl_cons]
    exact foldl_or_lt p xs _ (Nat.or_lt_two_pow h (sightTo_lt p _ _))
theorem seenOf_lt (p : List Int) (xs : List Int) : seenOf p xs < 2 ^ p.length := foldl_or_lt p xs 0 (Nat.two_pow_pos _)
/-- A set of places sees all. -/
def coversB (p : List Int) (s : Nat) : Bool := (List.range p.length).all fun k => (List.range p.length).any fun i => s.testBit i && seesB p (min i k) (max i k)
theorem testBit_high {s n i : Nat} (h : s < 2 ^ n) (hi : n ≤ i) : s.testBit i = false := Nat.testBit_lt_two_pow (Nat.lt_of_lt_of_le h (Nat.pow_le_pow_right (by decide) hi))
theorem seen_all {p : List Int} {s : Nat} (h9 : p.length ≤ 9) (hs : s < 2 ^ p.length) : decide (seenOf p (memL s) = 2 ^ p.length - 1) = coversB p s := by
  have bit : ∀ k, k < p.length → (seenOf p (memL s)).testBit k = (List.range p.length).any fun i => s.testBit i && seesB p (min i k) (max i k) := fun k hk => by
    rw [seenOf_bit, Bool.eq_iff_iff, List.any_eq_true, List.any_eq_true]
    constructor
    · rintro ⟨y, hy, hb⟩
      obtain ⟨i, hi, h1, rfl⟩ := mem_memTo.1 hy
      rw [Int.toNat_natCast, sightTo_bit, decide_eq_true hk, Bool.true_and, seenL_at p i k hk] at hb
      have hil : i < p.length := Nat.lt_of_not_le fun h => by rw [testBit_high hs h] at h1; cases h1
      exact ⟨i, List.mem_range.2 hil, by rw [h1, hb]; rfl⟩
    · rintro ⟨i, hi, hb⟩
      rw [Bool.and_eq_true] at hb
      exact ⟨(i : Int), mem_memTo.2 ⟨i, by have := List.mem_range.1 hi; omega, hb.1, rfl⟩, by rw [Int.toNat_natCast, sightTo_bit, decide_eq_true hk, Bool.true_and, seenL_at p i k hk]; exact hb.2⟩
  rw [Bool.eq_iff_iff, decide_eq_true_eq]
  unfold coversB
  rw [List.all_eq_true]
  constructor
  · intro h k hk
    have hk' := List.mem_range.1 hk
    rw [← bit k hk', h, Nat.testBit_two_pow_sub_one]
    exact decide_eq_true hk'
  · intro h
    refine Nat.eq_of_testBit_eq fun k => ?_
    rw [Nat.testBit_two_pow_sub_one]
    by_cases hk : k < p.length
    · rw [bit k hk, decide_eq_true hk]
      exact h k (List.mem_range.2 hk)
    · rw [decide_eq_false hk, testBit_high (seenOf_lt p _) (by omega)]
/-- The fewest of the sets below k that sees all, or all. -/
def fewTo (p : List Int) : Nat → Nat
  | 0 => 2 ^ p.length - 1
  | k + 1 => if (memL k).length < (memL (fewTo p k)).length ∧ coversB p k = true then k else fewTo p k
theorem fewTo_lt (p : List Int) : ∀ k, k ≤ 2 ^ p.length → fewTo p k < 2 ^ p.length
  | 0, _ => by have := Nat.two_pow_pos p.length; rw [fewTo]; omega
  | k + 1, h => by
    rw [fewTo]
    split
    · omega
    · exact fewTo_lt p k (by omega)
theorem fewTo_len (p : List Int) : ∀ k, (memL (fewTo p k)).length ≤ (memL (2 ^ p.length - 1)).length
  | 0 => Nat.le_refl _
  | k + 1 => by
    have := fewTo_len p k
    rw [fewTo]
    split
    · omega
    · exact this
def guardsX (p : List Int) : List Int := if vProf p = true then memL (fewTo p (2 ^ p.length - 1)) else []
theorem covers_none {p : List Int} (h1 : 1 ≤ p.length) : coversB p 0 = false := by
  cases h : coversB p 0 with
  | false => rfl
  | true =>
    have := List.all_eq_true.1 h 0 (List.mem_range.2 (by omega))
    rw [List.any_eq_true] at this
    obtain ⟨i, _, hb⟩ := this
    simp at hb
theorem fewTo_one {p : List Int} (h1 : 1 ≤ p.length) : fewTo p 1 = fewTo p 0 := by
  have e : fewTo p (0 + 1) = if (memL 0).length < (memL (fewTo p 0)).length ∧ coversB p 0 = true then 0 else fewTo p 0 := rfl
  rw [if_neg (by rw [covers_none h1]; simp)] at e
  exact e
theorem fewTo_last (p : List Int) : fewTo p (2 ^ p.length) = fewTo p (2 ^ p.length - 1) := by
  have h0 := Nat.two_pow_pos p.length
  obtain ⟨a, ea⟩ : ∃ a, 2 ^ p.length - 1 = a := ⟨_, rfl⟩
  have e : 2 ^ p.length = a + 1 := by omega
  have h2 := fewTo_len p a
  rw [ea] at h2 ⊢
  rw [e, fewTo, if_neg (by omega)]
end Go.Proofs.YtaeenedjmakelaaDoor
