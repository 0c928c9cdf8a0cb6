/- Counts of all levels are a sum of heights, as lists. -/
import Derived.Test.YtifldhdjopmpeaaCounts
namespace Go.Proofs.Ytifldhdjopmpeaa
open Go.RowKit

def xC (h : List (List Int)) (r c : Nat) : Int := (h.getD r []).getD c 0
/-- What the law adds at a cell. -/
def gS (h : List (List Int)) (r c : Nat) : Int :=
  xC h r c - (if 0 < r then min (xC h r c) (xC h (r - 1) c) else 0) - (if 0 < c then min (xC h r c) (xC h r (c - 1)) else 0)
    + (if 0 < r then (if 0 < c then min (min (xC h r c) (xC h (r - 1) c)) (min (xC h r (c - 1)) (xC h (r - 1) (c - 1))) else 0) else 0)
theorem sumTo_shift (g : Nat → Int) : ∀ m, sumTo (fun c => if 0 < c then g (c - 1) else 0) m = sumTo g (m - 1)
  | 0 => rfl
  | 1 => by simp [sumTo]
  | m + 2 => by
    rw [sumTo, sumTo_shift g (m + 1), if_pos (by omega), show m + 2 - 1 = m + 1 by omega, show m + 1 - 1 = m by omega, sumTo]
theorem sum_bits {x : Int} (h0 : 0 ≤ x) (h1 : x ≤ 12) : sumTo (fun t => bit (decide ((t : Int) < x))) 13 = x := by
  have := sumTo_less x h0 13
  have e : sumTo (fun t => bit (decide ((t : Int) < x))) 13 = sumTo (fun t => if (t : Int) < x then 1 else 0) 13 := sumTo_congr fun t _ => by
    unfold bit
    by_cases h : (t : Int) < x
    · rw [if_pos (decide_eq_true h), if_pos h]
    · rw [if_neg (by simpa using h), if_neg h]
  rw [e, this]
  omega
theorem bit_and (t x y : Int) : (decide (t < x) && decide (t < y)) = decide (t < min x y) := by
  rw [Bool.eq_iff_iff]
  simp only [Bool.and_eq_true, decide_eq_true_eq]
  omega
theorem sum3 (f : Nat → Nat → Nat → Int) (n m : Nat) (k : Nat) : sumTo (fun t => sumTo (fun r => sumTo (fun c => f t r c) m) n) k = sumTo (fun r => sumTo (fun c => sumTo (fun t => f t r c) k) m) n := by
  rw [sumTo_swap]
  exact sumTo_congr fun r _ => by rw [sumTo_swap]
theorem counts_sum {h : List (List Int)} {m : Nat} (g : Grid h m) : sumTo (fun t => countL h (t : Nat) h.length m) 13 = sumTo (fun r => sumTo (gS h r) m) h.length := by
  have hx : ∀ r c, r < h.length → c < m → 0 ≤ xC h r c ∧ xC h r c ≤ 12 := fun r c hr hc => g.num r hr c hc
  have e0 : ∀ t : Nat, countL h (t : Nat) h.length m = sumTo (fun r => sumTo (fun c => bit (decide ((t : Int) < xC h r c))) m) h.length
      - (sumTo (fun r => sumTo (fun c => bit (decide ((t : Int) < min (xC h r c) (xC h r (c + 1))))) (m - 1)) h.length + sumTo (fun r => sumTo (fun c => bit (decide ((t : Int) < min (xC h r c) (xC h (r + 1) c)))) m) (h.length - 1))
      + sumTo (fun r => sumTo (fun c => bit (decide ((t : Int) < min (min (xC h r c) (xC h r (c + 1))) (min (xC h (r + 1) c) (xC h (r + 1) (c + 1)))))) (m - 1)) (h.length - 1) := fun t => by
    unfold countL blocksL
    simp only [blk11, blk12, blk21, blk22]
    simp only [← bit_and]
    show _ = sumTo (fun r => sumTo (fun c => bit (hiB h t r c)) m) h.length - (sumTo (fun r => sumTo (fun c => bit (hiB h t r c && hiB h t r (c + 1))) (m - 1)) h.length + sumTo (fun r => sumTo (fun c => bit (hiB h t r c && hiB h t (r + 1) c)) m) (h.length - 1)) + sumTo (fun r => sumTo (fun c => bit ((hiB h t r c && hiB h t r (c + 1)) && (hiB h t (r + 1) c && hiB h t (r + 1) (c + 1)))) (m - 1)) (h.length - 1)
    rw [show m + 1 - 1 = m by omega, show m + 1 - 2 = m - 1 by omega, show h.length + 1 - 1 = h.length by omega, show h.length + 1 - 2 = h.length - 1 by omega]
    rfl
  rw [sumTo_congr (fun t _ => e0 t), sumTo_add, sumTo_sub, sumTo_add]
  have s1 : sumTo (fun t : Nat => sumTo (fun r => sumTo (fun c => bit (decide ((t : Int) < xC h r c))) m) h.length) 13 = sumTo (fun r => sumTo (fun c => xC h r c) m) h.length :=
    (sum3 _ _ _ _).trans <| sumTo_congr fun r hr => sumTo_congr fun c hc => by have := hx r c hr hc; exact sum_bits (by omega) (by omega)
  have s2 : sumTo (fun t : Nat => sumTo (fun r => sumTo (fun c => bit (decide ((t : Int) < min (xC h r c) (xC h r (c + 1))))) (m - 1)) h.length) 13 = sumTo (fun r => sumTo (fun c => min (xC h r c) (xC h r (c + 1))) (m - 1)) h.length :=
    (sum3 _ _ _ _).trans <| sumTo_congr fun r hr => sumTo_congr fun c hc => by have := hx r c hr (by omega); have := hx r (c + 1) hr (by omega); exact sum_bits (by omega) (by omega)
  have s3 : sumTo (fun t : Nat => sumTo (fun r => sumTo (fun c => bit (decide ((t : Int) < min (xC h r c) (xC h (r + 1) c)))) m) (h.length - 1)) 13 = sumTo (fun r => sumTo (fun c => min (xC h r c) (xC h (r + 1) c)) m) (h.length - 1) :=
    (sum3 _ _ _ _).trans <| sumTo_congr fun r hr => sumTo_congr fun c hc => by have := hx r c (by omega) (by omega); have := hx (r + 1) c (by omega) (by omega); exact sum_bits (by omega) (by omega)
  have s4 : sumTo (fun t : Nat => sumTo (fun r => sumTo (fun c => bit (decide ((t : Int) < min (min (xC h r c) (xC h r (c + 1))) (min (xC h (r + 1) c) (xC h (r + 1) (c + 1)))))) (m - 1)) (h.length - 1)) 13 = sumTo (fun r => sumTo (fun c => min (min (xC h r c) (xC h r (c + 1))) (min (xC h (r + 1) c) (xC h (r + 1) (c + 1)))) (m - 1)) (h.length - 1) :=
    (sum3 _ _ _ _).trans <| sumTo_congr fun r hr => sumTo_congr fun c hc => by have := hx r c (by omega) (by omega); have := hx r (c + 1) (by omega) (by omega); have := hx (r + 1) c (by omega) (by omega); have := hx (r + 1) (c + 1) (by omega) (by omega); exact sum_bits (by omega) (by omega)
  rw [s1, s2, s3, s4]
  have f0 : ∀ r, sumTo (gS h r) m = sumTo (fun c => xC h r c) m - (if 0 < r then sumTo (fun c => min (xC h (r - 1) c) (xC h (r - 1 + 1) c)) m else 0) - sumTo (fun c => min (xC h r c) (xC h r (c + 1))) (m - 1)
      + (if 0 < r then sumTo (fun c => min (min (xC h (r - 1) c) (xC h (r - 1) (c + 1))) (min (xC h (r - 1 + 1) c) (xC h (r - 1 + 1) (c + 1)))) (m - 1) else 0) := fun r => by
    rw [← sumTo_shift (fun c => min (xC h r c) (xC h r (c + 1))) m, ← sumTo_shift (fun c => min (min (xC h (r - 1) c) (xC h (r - 1) (c + 1))) (min (xC h (r - 1 + 1) c) (xC h (r - 1 + 1) (c + 1)))) m]
    by_cases hr : 0 < r
    · simp only [hr, if_true]
      rw [← sumTo_sub, ← sumTo_sub, ← sumTo_add]
      refine sumTo_congr fun c _ => ?_
      unfold gS
      rw [show r - 1 + 1 = r by omega]
      simp only [hr, if_true]
      by_cases hc : 0 < c
      · simp only [hc, if_true]
        rw [show c - 1 + 1 = c by omega]
        omega
      · simp only [hc, if_false]
        omega
    · simp only [hr, if_false]
      rw [Int.sub_zero, Int.add_zero, ← sumTo_sub]
      refine sumTo_congr fun c _ => ?_
      unfold gS
      simp only [hr, if_false]
      by_cases hc : 0 < c
      · simp only [hc, if_true]
        rw [show c - 1 + 1 = c by omega]
        omega
      · simp only [hc, if_false]
        omega
  rw [sumTo_congr (fun r _ => f0 r), sumTo_add, sumTo_sub, sumTo_sub, sumTo_shift (fun r => sumTo (fun c => min (xC h r c) (xC h (r + 1) c)) m), sumTo_shift (fun r => sumTo (fun c => min (min (xC h r c) (xC h r (c + 1))) (min (xC h (r + 1) c) (xC h (r + 1) (c + 1)))) (m - 1))]
  omega
end Go.Proofs.Ytifldhdjopmpeaa
