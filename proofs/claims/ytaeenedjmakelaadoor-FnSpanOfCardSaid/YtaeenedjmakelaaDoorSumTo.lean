/- Sums of numbers that are counted from 0. -/
import Derived.Test.YtaeenedjmakelaaDoorBase
namespace Go.Proofs.YtaeenedjmakelaaDoor

def sumTo (f : Nat → Int) : Nat → Int
  | 0 => 0
  | k + 1 => sumTo f k + f k
theorem sumTo_congr {f g : Nat → Int} : ∀ {k : Nat}, (∀ i, i < k → f i = g i) → sumTo f k = sumTo g k
  | 0, _ => rfl
  | k + 1, h => by rw [sumTo, sumTo, sumTo_congr fun i hi => h i (by omega), h k (by omega)]
theorem sumTo_add (f g : Nat → Int) : ∀ k, sumTo (fun i => f i + g i) k = sumTo f k + sumTo g k
  | 0 => rfl
  | k + 1 => by rw [sumTo, sumTo, sumTo, sumTo_add f g k]; omega
theorem sumTo_sub (f g : Nat → Int) : ∀ k, sumTo (fun i => f i - g i) k = sumTo f k - sumTo g k
  | 0 => rfl
  | k + 1 => by rw [sumTo, sumTo, sumTo, sumTo_sub f g k]; omega
theorem sumTo_zero : ∀ k, sumTo (fun _ => 0) k = 0
  | 0 => rfl
  | k + 1 => by rw [sumTo, sumTo_zero k]; rfl
theorem sumTo_swap (f : Nat → Nat → Int) (n : Nat) : ∀ k, sumTo (fun i => sumTo (f i) n) k = sumTo (fun j => sumTo (fun i => f i j) k) n
  | 0 => by simp only [sumTo]; exact (sumTo_zero n).symm
  | k + 1 => by
    rw [sumTo, sumTo_swap f n k, ← sumTo_add]
    rfl
theorem sumTo_le {f g : Nat → Int} : ∀ {k : Nat}, (∀ i, i < k → f i ≤ g i) → sumTo f k ≤ sumTo g k
  | 0, _ => Int.le_refl _
  | k + 1, h => by
    have := sumTo_le (f := f) (g := g) (k := k) fun i hi => h i (by omega)
    have := h k (by omega)
    rw [sumTo, sumTo]; omega
theorem sumTo_bd {f : Nat → Int} (a b : Int) : ∀ {k : Nat}, (∀ i, i < k → a ≤ f i ∧ f i ≤ b) → a * k ≤ sumTo f k ∧ sumTo f k ≤ b * k
  | 0, _ => by simp [sumTo]
  | k + 1, h => by
    have h1 := sumTo_bd (f := f) a b (k := k) fun i hi => h i (by omega)
    have h2 := h k (by omega)
    rw [sumTo, Int.natCast_succ, Int.mul_add, Int.mul_add, Int.mul_one, Int.mul_one]
    omega
/-- How many numbers from 0 up are less than x. -/
theorem sumTo_less (x : Int) (hx : 0 ≤ x) : ∀ k : Nat, sumTo (fun t => if (t : Int) < x then 1 else 0) k = min x k
  | 0 => by simp only [sumTo]; omega
  | k + 1 => by
    rw [sumTo, sumTo_less x hx k]
    split <;> omega
theorem filter_len (P : Nat → Bool) : ∀ k, (((List.range k).filter P).length : Int) = sumTo (fun i => if P i = true then 1 else 0) k
  | 0 => rfl
  | k + 1 => by
    rw [List.range_succ, List.filter_append, List.length_append, Int.natCast_add, filter_len P k, sumTo]
    cases h : P k <;> simp [h]
end Go.Proofs.YtaeenedjmakelaaDoor
