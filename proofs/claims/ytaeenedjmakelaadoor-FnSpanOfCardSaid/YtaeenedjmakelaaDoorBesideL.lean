/- The cells beside a cell, as a list; told in two ways. -/
import Derived.Test.YtaeenedjmakelaaDoorNear
namespace Go.Proofs.YtaeenedjmakelaaDoor
open Go.RowKit

/-- Up, left, right, down, of a cell I of n rows of m. -/
def aroundL (n m I : Nat) : List Int :=
  (if m ≤ I then [(I : Int) - m] else []) ++ (if 0 < I % m then [(I : Int) - 1] else []) ++ (if I % m < m - 1 then [(I : Int) + 1] else []) ++ (if I + m < n * m then [(I : Int) + m] else [])
def stepR : Nat → Int | 0 => -1 | 1 => 0 | 2 => 0 | _ => 1
def stepC : Nat → Int | 0 => 0 | 1 => -1 | 2 => 1 | _ => 0
/-- Is the place k steps on inside? -/
def inK (n m I k : Nat) : Bool := decide (((I / m : Nat) : Int) + stepR k = clamp (((I / m : Nat) : Int) + stepR k) n) && decide (((I % m : Nat) : Int) + stepC k = clamp (((I % m : Nat) : Int) + stepC k) m)
def toK (m I k : Nat) : Int := (((I / m : Nat) : Int) + stepR k) * m + (((I % m : Nat) : Int) + stepC k)
def besideL (n m I : Nat) : Nat → List Int
  | 0 => []
  | k + 1 => besideL n m I k ++ (if inK n m I k then [toK m I k] else [])
theorem besideL_len (n m I k : Nat) : (besideL n m I k).length ≤ k := by
  induction k with
  | zero => simp [besideL]
  | succ k ih =>
    unfold besideL
    rw [List.length_append]
    split <;> simp <;> omega
theorem clamp_in (x : Int) (n : Nat) (hn : 1 ≤ n) : x = clamp x n ↔ 0 ≤ x ∧ x < n := by
  unfold clamp
  repeat' split
  all_goals omega
theorem inK_iff (n m I k : Nat) (hn : 1 ≤ n) (hm : 1 ≤ m) : inK n m I k = true ↔ (0 ≤ ((I / m : Nat) : Int) + stepR k ∧ ((I / m : Nat) : Int) + stepR k < n) ∧ 0 ≤ ((I % m : Nat) : Int) + stepC k ∧ ((I % m : Nat) : Int) + stepC k < m := by
  unfold inK
  rw [Bool.and_eq_true, decide_eq_true_eq, decide_eq_true_eq, clamp_in _ _ hn, clamp_in _ _ hm]
theorem div_lt_of (n m I : Nat) (hI : I < n * m) : I / m < n := Nat.div_lt_of_lt_mul (by rw [Nat.mul_comm]; exact hI)
theorem beside_around (n m I : Nat) (hn : 1 ≤ n) (hm : 1 ≤ m) (hI : I < n * m) : besideL n m I 4 = aroundL n m I := by
  have hd := div_lt_of n m I hI
  have hc := Nat.mod_lt I hm
  have hdm := Nat.div_add_mod I m
  obtain ⟨r, hr⟩ : ∃ r, I / m = r := ⟨_, rfl⟩
  obtain ⟨c, hcc⟩ : ∃ c, I % m = c := ⟨_, rfl⟩
  have e0 : inK n m I 0 = decide (m ≤ I) := by
    rw [Bool.eq_iff_iff, inK_iff n m I 0 hn hm, decide_eq_true_eq, hr, hcc]
    simp only [stepR, stepC]
    rw [hr] at hd; rw [hcc] at hc
    constructor
    · intro h
      have : 1 ≤ I / m := by rw [hr]; omega
      exact Nat.le_trans (by simp) ((Nat.le_div_iff_mul_le hm).1 this)
    · intro h
      have : 1 ≤ I / m := (Nat.le_div_iff_mul_le hm).2 (by simpa using h)
      rw [hr] at this
      omega
  have e1 : inK n m I 1 = decide (0 < I % m) := by
    rw [Bool.eq_iff_iff, inK_iff n m I 1 hn hm, decide_eq_true_eq]
    simp only [stepR, stepC]
    omega
  have e2 : inK n m I 2 = decide (I % m < m - 1) := by
    rw [Bool.eq_iff_iff, inK_iff n m I 2 hn hm, decide_eq_true_eq]
    simp only [stepR, stepC]
    omega
  have e3 : inK n m I 3 = decide (I + m < n * m) := by
    rw [Bool.eq_iff_iff, inK_iff n m I 3 hn hm, decide_eq_true_eq]
    simp only [stepR, stepC]
    have key : (I / m + 1 < n) ↔ I + m < n * m := by
      have h1 : (I + m) / m = I / m + 1 := Nat.add_div_right I hm
      rw [← h1]
      exact Nat.div_lt_iff_lt_mul hm
    rw [← key]
    omega
  have t : ∀ k, toK m I k = (I : Int) + stepR k * m + stepC k := by
    intro k
    unfold toK
    have : (I : Int) = ((I / m : Nat) : Int) * m + ((I % m : Nat) : Int) := by
      rw [Int.mul_comm]
      exact_mod_cast hdm.symm
    rw [Int.add_mul]
    omega
  simp only [besideL, aroundL, e0, e1, e2, e3, t, stepR, stepC, List.nil_append, decide_eq_true_eq]
  simp only [Int.neg_mul, Int.one_mul, Int.zero_mul, Int.add_zero, ← Int.sub_eq_add_neg]
end Go.Proofs.YtaeenedjmakelaaDoor
