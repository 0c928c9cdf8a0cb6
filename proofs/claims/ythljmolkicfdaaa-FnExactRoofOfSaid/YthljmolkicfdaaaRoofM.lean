/- Roofs, as a recursion on places. -/
import Derived.Test.YthljmolkicfdaaaFurM
namespace Go.Proofs.Ythljmolkicfdaaa
open Go.RowKit

/-- The line from a to b is steeper than that from a to i. -/
def bendB (p : List Int) (a b i : Nat) : Bool := decide ((p.getD i 0 - p.getD a 0) * ((b : Int) - a) < (p.getD b 0 - p.getD a 0) * ((i : Int) - a))
/-- How many of the first m stay when place k comes. -/
def popTo (p : List Int) (k : Nat) (r : List Nat) : Nat → Nat
  | 0 => 0
  | 1 => 1
  | m + 2 => if bendB p (r.getD m 0) (r.getD (m + 1) 0) k = true then m + 2 else popTo p k r (m + 1)
theorem popTo_le (p : List Int) (k : Nat) (r : List Nat) : ∀ m, popTo p k r m ≤ m
  | 0 => Nat.le_refl _
  | 1 => Nat.le_refl _
  | m + 2 => by
    simp only [popTo]
    split
    · exact Nat.le_refl _
    · have := popTo_le p k r (m + 1); omega
def roofTo (p : List Int) : Nat → List Nat
  | 0 => []
  | k + 1 => (roofTo p k).take (popTo p k (roofTo p k) (roofTo p k).length) ++ [k]
def roofL (p : List Int) : List Nat := roofTo p p.length
def asInts (r : List Nat) : List Int := r.map fun (x : Nat) => (x : Int)
theorem asInts_len (r : List Nat) : (asInts r).length = r.length := by simp [asInts]
theorem asInts_at (r : List Nat) (i : Nat) (h : i < r.length) : (asInts r).getD i 0 = (r.getD i 0 : Nat) := by simp [asInts, h]
theorem roofTo_lt (p : List Int) : ∀ k, (roofTo p k).length ≤ k ∧ ∀ i, i < (roofTo p k).length → (roofTo p k).getD i 0 < k
  | 0 => ⟨Nat.le_refl _, fun i hi => absurd hi (Nat.not_lt_zero _)⟩
  | k + 1 => by
    obtain ⟨h1, h2⟩ := roofTo_lt p k
    have hp := popTo_le p k (roofTo p k) (roofTo p k).length
    have hl : ((roofTo p k).take (popTo p k (roofTo p k) (roofTo p k).length)).length = popTo p k (roofTo p k) (roofTo p k).length := by simp; omega
    simp only [roofTo]
    refine ⟨by simp; omega, fun i hi => ?_⟩
    simp only [List.length_append, List.length_singleton, hl] at hi
    by_cases hlt : i < popTo p k (roofTo p k) (roofTo p k).length
    · rw [getD_append_l _ _ _ _ (by rw [hl]; exact hlt)]
      have := h2 i (by omega)
      have e : ((roofTo p k).take (popTo p k (roofTo p k) (roofTo p k).length)).getD i 0 = (roofTo p k).getD i 0 := by
        simp [List.getD_eq_getElem?_getD, hlt]
      rw [e]; omega
    · have e : i = ((roofTo p k).take (popTo p k (roofTo p k) (roofTo p k).length)).length := by omega
      rw [e, getD_append_r]; omega
/-- The other way to tell that a roof bends. -/
theorem bend_eq (p : List Int) (a b i : Nat) : decide ((p.getD i 0 - p.getD b 0) * ((b : Int) - a) < (p.getD b 0 - p.getD a 0) * ((i : Int) - b)) = bendB p a b i := by
  unfold bendB
  have e1 : (p.getD i 0 - p.getD a 0) * ((b : Int) - a) = (p.getD i 0 - p.getD b 0) * ((b : Int) - a) + (p.getD b 0 - p.getD a 0) * ((b : Int) - a) := by
    rw [← Int.add_mul]; congr 1; omega
  have e2 : (p.getD b 0 - p.getD a 0) * ((i : Int) - a) = (p.getD b 0 - p.getD a 0) * ((i : Int) - b) + (p.getD b 0 - p.getD a 0) * ((b : Int) - a) := by
    rw [← Int.mul_add]; congr 1; omega
  rw [e1, e2, Bool.eq_iff_iff, decide_eq_true_eq, decide_eq_true_eq]
  omega
def roofX (p : List Int) : List Int := if vProf p = true then asInts (roofL p) else []
theorem roofX_len (p : List Int) : (roofX p).length ≤ 1000 := by
  unfold roofX
  by_cases h : vProf p = true
  · rw [if_pos h, asInts_len]
    have := (roofTo_lt p p.length).1
    have h9 := ((vProf_iff p).1 h).2.1
    unfold roofL
    omega
  · rw [if_neg h]; simp
end Go.Proofs.Ythljmolkicfdaaa
