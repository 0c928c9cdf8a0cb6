/- What spec counts at a level is what impl counts, as lists. -/
import Derived.Test.YtaeenedjmakelaaDoorCount
import Derived.Test.YtaeenedjmakelaaDoorSqs
namespace Go.Proofs.YtaeenedjmakelaaDoor
open Go.RowKit

theorem sumTo_append (f : Nat → Int) (k : Nat) : ∀ j, sumTo f (k + j) = sumTo f k + sumTo (fun i => f (k + i)) j
  | 0 => by simp [sumTo]
  | j + 1 => by
    rw [show k + (j + 1) = (k + j) + 1 by omega, sumTo, sumTo_append f k j, sumTo]
    omega
theorem sumTo_grid (f : Nat → Int) (m : Nat) : ∀ n, sumTo f (n * m) = sumTo (fun r => sumTo (fun c => f (r * m + c)) m) n
  | 0 => by simp [sumTo]
  | n + 1 => by rw [Nat.succ_mul, sumTo_append, sumTo_grid f m n, sumTo]
theorem sumTo_cut (g : Nat → Int) : ∀ m, sumTo (fun c => if c + 1 < m then g c else 0) m = sumTo g (m - 1)
  | 0 => rfl
  | m + 1 => by
    rw [sumTo, if_neg (by omega), Int.add_zero]
    exact sumTo_congr fun i hi => by rw [if_pos (by omega)]
def bit (b : Bool) : Int := if b = true then 1 else 0
/-- A cell is higher than t. -/
def hiB (h : List (List Int)) (t : Int) (r c : Nat) : Bool := decide (t < (h.getD r []).getD c 0)
theorem blk11 (h : List (List Int)) (t : Int) (r c : Nat) : blkB h t 1 1 r c = hiB h t r c := by
  simp [blkB, rowB, hiB, List.range_succ]
theorem blk12 (h : List (List Int)) (t : Int) (r c : Nat) : blkB h t 1 2 r c = (hiB h t r c && hiB h t r (c + 1)) := by
  simp [blkB, rowB, hiB, List.range_succ]
theorem blk21 (h : List (List Int)) (t : Int) (r c : Nat) : blkB h t 2 1 r c = (hiB h t r c && hiB h t (r + 1) c) := by
  simp [blkB, rowB, hiB, List.range_succ]
theorem blk22 (h : List (List Int)) (t : Int) (r c : Nat) : blkB h t 2 2 r c = ((hiB h t r c && hiB h t r (c + 1)) && (hiB h t (r + 1) c && hiB h t (r + 1) (c + 1))) := by
  simp [blkB, rowB, hiB, List.range_succ]
/-- What impl counts: cells less pairs and more squares. -/
def countL (h : List (List Int)) (t : Int) (n m : Nat) : Int := blocksL h t 1 1 n m - (blocksL h t 1 2 n m + blocksL h t 2 1 n m) + blocksL h t 2 2 n m
theorem blocks_bd (h : List (List Int)) (t : Int) (R C n m : Nat) (hn : n ≤ 5) (hm : m ≤ 5) (hR : 1 ≤ R) (hC : 1 ≤ C) : 0 ≤ blocksL h t R C n m ∧ blocksL h t R C n m ≤ 25 := by
  unfold blocksL
  have h1 : ∀ r, 0 ≤ sumTo (fun c => if blkB h t R C r c = true then (1 : Int) else 0) (m + 1 - C) ∧ sumTo (fun c => if blkB h t R C r c = true then (1 : Int) else 0) (m + 1 - C) ≤ 5 := fun r => by
    have := sumTo_bd (f := fun c => if blkB h t R C r c = true then (1 : Int) else 0) 0 1 (k := m + 1 - C) fun i _ => by split <;> omega
    omega
  have := sumTo_bd (f := fun r => sumTo (fun c => if blkB h t R C r c = true then (1 : Int) else 0) (m + 1 - C)) 0 5 (k := n + 1 - R) fun i _ => h1 i
  omega
theorem cell_flat {h : List (List Int)} {m : Nat} (g : Grid h m) {r c : Nat} (hr : r < h.length) (hc : c < m) : h.flatten.getD (r * m + c) 0 = (h.getD r []).getD c 0 := by
  have h1 : r * m + c < h.length * m := by
    have : (r + 1) * m ≤ h.length * m := Nat.mul_le_mul_right m hr
    rw [Nat.succ_mul] at this
    omega
  have e1 : (r * m + c) / m = r := by
    rw [Nat.add_comm, Nat.add_mul_div_right _ _ (by omega), Nat.div_eq_of_lt hc, Nat.zero_add]
  have e2 : (r * m + c) % m = c := by
    rw [Nat.add_comm, Nat.add_mul_mod_self_right, Nat.mod_eq_of_lt hc]
  rw [flat_at g _ h1, e1, e2]
theorem sq_cell {h : List (List Int)} {m : Nat} (g : Grid h m) (t : Int) {r c : Nat} (hr : r < h.length) (hc : c < m) :
    sqT h.flatten t m (h.length * m) (r * m + c) =
      bit (hiB h t r c) - (if c + 1 < m then bit (hiB h t r c && hiB h t r (c + 1)) else 0) - (if r + 1 < h.length then bit (hiB h t r c && hiB h t (r + 1) c) else 0)
        + (if r + 1 < h.length then (if c + 1 < m then bit ((hiB h t r c && hiB h t r (c + 1)) && (hiB h t (r + 1) c && hiB h t (r + 1) (c + 1))) else 0) else 0) := by
  have e0 := cell_flat g hr hc
  have e2 : (r * m + c) % m = c := by
    rw [Nat.add_comm, Nat.add_mul_mod_self_right, Nat.mod_eq_of_lt hc]
  have e3 : (r * m + c + m < h.length * m) ↔ r + 1 < h.length := by
    constructor
    · intro hlt
      refine Nat.lt_of_not_le fun hle => ?_
      have : h.length * m ≤ (r + 1) * m := Nat.mul_le_mul_right m hle
      rw [Nat.succ_mul] at this
      omega
    · intro hlt
      have : (r + 1 + 1) * m ≤ h.length * m := Nat.mul_le_mul_right m hlt
      rw [Nat.succ_mul, Nat.succ_mul] at this
      omega
  have e4 : r * m + c + m = (r + 1) * m + c := by rw [Nat.succ_mul]; omega
  have hB : (h.flatten.getD (r * m + c + 1) 0 = (h.getD r []).getD (c + 1) 0) ∨ ¬ c + 1 < m := by
    by_cases hc1 : c + 1 < m
    · exact .inl (by rw [Nat.add_assoc]; exact cell_flat g hr hc1)
    · exact .inr hc1
  have hC : (h.flatten.getD (r * m + c + m) 0 = (h.getD (r + 1) []).getD c 0) ∨ ¬ r + 1 < h.length := by
    by_cases hc1 : r + 1 < h.length
    · exact .inl (by rw [e4]; exact cell_flat g hc1 hc)
    · exact .inr hc1
  have hD : (h.flatten.getD (r * m + c + m + 1) 0 = (h.getD (r + 1) []).getD (c + 1) 0) ∨ ¬ (r + 1 < h.length ∧ c + 1 < m) := by
    by_cases hc1 : r + 1 < h.length ∧ c + 1 < m
    · exact .inl (by rw [e4, Nat.add_assoc]; exact cell_flat g hc1.1 hc1.2)
    · exact .inr hc1
  unfold sqT
  rw [e0, e2]
  simp only [e3]
  generalize h.flatten.getD (r * m + c + 1) 0 = y1 at *
  generalize h.flatten.getD (r * m + c + m) 0 = y2 at *
  generalize h.flatten.getD (r * m + c + m + 1) 0 = y3 at *
  unfold sqv bit hiB
  generalize (h.getD r []).getD c 0 = x0 at *
  generalize (h.getD r []).getD (c + 1) 0 = x1 at *
  generalize (h.getD (r + 1) []).getD c 0 = x2 at *
  generalize (h.getD (r + 1) []).getD (c + 1) 0 = x3 at *
  simp only [Bool.and_eq_true, decide_eq_true_eq]
  clear e0 e2 e3 e4
  by_cases hA : c + 1 < m <;> by_cases hB1 : r + 1 < h.length <;> simp only [hA, hB1, not_true, not_false_eq_true, or_false, or_true, and_true, true_and, and_false, false_and, if_true, if_false] at *
  all_goals first | subst hB | skip
  all_goals first | subst hC | skip
  all_goals first | subst hD | skip
  all_goals (repeat' split) <;> omega
theorem squares_blocks {h : List (List Int)} {m : Nat} (g : Grid h m) (t : Int) : sumTo (sqT h.flatten t m (h.length * m)) (h.length * m) = countL h t h.length m := by
  rw [sumTo_grid]
  have e1 : sumTo (fun r => sumTo (fun c => sqT h.flatten t m (h.length * m) (r * m + c)) m) h.length =
      sumTo (fun r => sumTo (fun c => bit (hiB h t r c)) m - sumTo (fun c => bit (hiB h t r c && hiB h t r (c + 1))) (m - 1) - (if r + 1 < h.length then sumTo (fun c => bit (hiB h t r c && hiB h t (r + 1) c)) m else 0)
        + (if r + 1 < h.length then sumTo (fun c => bit ((hiB h t r c && hiB h t r (c + 1)) && (hiB h t (r + 1) c && hiB h t (r + 1) (c + 1)))) (m - 1) else 0)) h.length := sumTo_congr fun r hr => by
    rw [sumTo_congr (fun c hc => sq_cell g t hr hc), sumTo_add, sumTo_sub, sumTo_sub, sumTo_cut]
    by_cases h1 : r + 1 < h.length
    · simp only [h1, if_true]
      rw [sumTo_cut]
    · simp only [h1, if_false, sumTo_zero]
  rw [e1, sumTo_add, sumTo_sub, sumTo_sub, sumTo_cut, sumTo_cut]
  unfold countL blocksL
  simp only [blk11, blk12, blk21, blk22]
  show _ = sumTo (fun r => sumTo (fun c => bit (hiB h t r c)) (m + 1 - 1)) (h.length + 1 - 1) - (sumTo (fun r => sumTo (fun c => bit (hiB h t r c && hiB h t r (c + 1))) (m + 1 - 2)) (h.length + 1 - 1) + sumTo (fun r => sumTo (fun c => bit (hiB h t r c && hiB h t (r + 1) c)) (m + 1 - 1)) (h.length + 1 - 2)) + sumTo (fun r => sumTo (fun c => bit ((hiB h t r c && hiB h t r (c + 1)) && (hiB h t (r + 1) c && hiB h t (r + 1) (c + 1)))) (m + 1 - 2)) (h.length + 1 - 2)
  rw [show m + 1 - 1 = m by omega, show m + 1 - 2 = m - 1 by omega, show h.length + 1 - 1 = h.length by omega, show h.length + 1 - 2 = h.length - 1 by omega]
  omega
theorem hi_flip {h : List (List Int)} {m : Nat} (g : Grid h m) (t : Int) {r c : Nat} (hr : r < h.length) (hc : c < m) : hiB (flipL h) t c r = hiB h t r c := by
  unfold hiB
  rw [flipL_at (g.len 0 g.n1) c hc, getD_map' _ _ _ [] _ hr]
theorem count_flip {h : List (List Int)} {m : Nat} (g : Grid h m) (t : Int) : countL (flipL h) t m h.length = countL h t h.length m := by
  unfold countL blocksL
  simp only [blk11, blk12, blk21, blk22]
  rw [sumTo_swap _ _ (m + 1 - 1), sumTo_swap _ _ (m + 1 - 1), sumTo_swap _ _ (m + 1 - 2), sumTo_swap _ _ (m + 1 - 2)]
  have e1 : sumTo (fun j => sumTo (fun i => if hiB (flipL h) t i j = true then (1 : Int) else 0) (m + 1 - 1)) (h.length + 1 - 1) = sumTo (fun r => sumTo (fun c => if hiB h t r c = true then (1 : Int) else 0) (m + 1 - 1)) (h.length + 1 - 1) :=
    sumTo_congr fun r hr => sumTo_congr fun c hc => by rw [hi_flip g t (by omega) (by omega)]
  have e2 : sumTo (fun j => sumTo (fun i => if (hiB (flipL h) t i j && hiB (flipL h) t i (j + 1)) = true then (1 : Int) else 0) (m + 1 - 1)) (h.length + 1 - 2) = sumTo (fun r => sumTo (fun c => if (hiB h t r c && hiB h t (r + 1) c) = true then (1 : Int) else 0) (m + 1 - 1)) (h.length + 1 - 2) :=
    sumTo_congr fun r hr => sumTo_congr fun c hc => by rw [hi_flip g t (by omega) (by omega), hi_flip g t (by omega) (by omega)]
  have e3 : sumTo (fun j => sumTo (fun i => if (hiB (flipL h) t i j && hiB (flipL h) t (i + 1) j) = true then (1 : Int) else 0) (m + 1 - 2)) (h.length + 1 - 1) = sumTo (fun r => sumTo (fun c => if (hiB h t r c && hiB h t r (c + 1)) = true then (1 : Int) else 0) (m + 1 - 2)) (h.length + 1 - 1) :=
    sumTo_congr fun r hr => sumTo_congr fun c hc => by rw [hi_flip g t (by omega) (by omega), hi_flip g t (by omega) (by omega)]
  have e4 : sumTo (fun j => sumTo (fun i => if ((hiB (flipL h) t i j && hiB (flipL h) t i (j + 1)) && (hiB (flipL h) t (i + 1) j && hiB (flipL h) t (i + 1) (j + 1))) = true then (1 : Int) else 0) (m + 1 - 2)) (h.length + 1 - 2) = sumTo (fun r => sumTo (fun c => if ((hiB h t r c && hiB h t r (c + 1)) && (hiB h t (r + 1) c && hiB h t (r + 1) (c + 1))) = true then (1 : Int) else 0) (m + 1 - 2)) (h.length + 1 - 2) :=
    sumTo_congr fun r hr => sumTo_congr fun c hc => by
      rw [hi_flip g t (by omega) (by omega), hi_flip g t (by omega) (by omega), hi_flip g t (by omega) (by omega), hi_flip g t (by omega) (by omega)]
      generalize hiB h t r c = b1
      generalize hiB h t r (c + 1) = b2
      generalize hiB h t (r + 1) c = b3
      generalize hiB h t (r + 1) (c + 1) = b4
      cases b1 <;> cases b2 <;> cases b3 <;> cases b4 <;> rfl
  rw [e1, e2, e3, e4]
  omega
theorem sumTo_const (x : Int) : ∀ k : Nat, sumTo (fun _ => x) k = x * k
  | 0 => by simp [sumTo]
  | k + 1 => by rw [sumTo, sumTo_const x k, Int.natCast_succ, Int.mul_add, Int.mul_one]
theorem count_low {h : List (List Int)} {m : Nat} (g : Grid h m) : countL h (-1) h.length m = 1 := by
  have hh : ∀ r c, r < h.length → c < m → hiB h (-1) r c = true := fun r c hr hc => by
    have := (g.num r hr c hc).1
    exact decide_eq_true (by omega)
  unfold countL blocksL
  simp only [blk11, blk12, blk21, blk22]
  have e1 : sumTo (fun r => sumTo (fun c => if hiB h (-1) r c = true then (1 : Int) else 0) (m + 1 - 1)) (h.length + 1 - 1) = sumTo (fun _ => sumTo (fun _ => 1) (m + 1 - 1)) (h.length + 1 - 1) :=
    sumTo_congr fun r hr => sumTo_congr fun c hc => by rw [hh r c (by omega) (by omega)]; rfl
  have e2 : sumTo (fun r => sumTo (fun c => if (hiB h (-1) r c && hiB h (-1) r (c + 1)) = true then (1 : Int) else 0) (m + 1 - 2)) (h.length + 1 - 1) = sumTo (fun _ => sumTo (fun _ => 1) (m + 1 - 2)) (h.length + 1 - 1) :=
    sumTo_congr fun r hr => sumTo_congr fun c hc => by rw [hh r c (by omega) (by omega), hh r (c + 1) (by omega) (by omega)]; rfl
  have e3 : sumTo (fun r => sumTo (fun c => if (hiB h (-1) r c && hiB h (-1) (r + 1) c) = true then (1 : Int) else 0) (m + 1 - 1)) (h.length + 1 - 2) = sumTo (fun _ => sumTo (fun _ => 1) (m + 1 - 1)) (h.length + 1 - 2) :=
    sumTo_congr fun r hr => sumTo_congr fun c hc => by rw [hh r c (by omega) (by omega), hh (r + 1) c (by omega) (by omega)]; rfl
  have e4 : sumTo (fun r => sumTo (fun c => if ((hiB h (-1) r c && hiB h (-1) r (c + 1)) && (hiB h (-1) (r + 1) c && hiB h (-1) (r + 1) (c + 1))) = true then (1 : Int) else 0) (m + 1 - 2)) (h.length + 1 - 2) = sumTo (fun _ => sumTo (fun _ => 1) (m + 1 - 2)) (h.length + 1 - 2) :=
    sumTo_congr fun r hr => sumTo_congr fun c hc => by rw [hh r c (by omega) (by omega), hh r (c + 1) (by omega) (by omega), hh (r + 1) c (by omega) (by omega), hh (r + 1) (c + 1) (by omega) (by omega)]; rfl
  rw [e1, e2, e3, e4]
  simp only [sumTo_const, Int.one_mul]
  obtain ⟨n', en⟩ : ∃ n', h.length = n' + 1 := ⟨h.length - 1, by have := g.n1; omega⟩
  obtain ⟨m', em⟩ : ∃ m', m = m' + 1 := ⟨m - 1, by have := g.m1; omega⟩
  rw [en, em, show m' + 1 + 1 - 1 = m' + 1 by omega, show m' + 1 + 1 - 2 = m' by omega, show n' + 1 + 1 - 1 = n' + 1 by omega, show n' + 1 + 1 - 2 = n' by omega]
  simp only [Int.natCast_succ, Int.mul_add, Int.add_mul, Int.mul_one, Int.one_mul]
  omega
theorem count_high {h : List (List Int)} {m : Nat} (g : Grid h m) : countL h 12 h.length m = 0 := by
  have hh : ∀ r c, r < h.length → c < m → hiB h 12 r c = false := fun r c hr hc => by
    have := (g.num r hr c hc).2
    exact decide_eq_false (by omega)
  unfold countL blocksL
  simp only [blk11, blk12, blk21, blk22]
  have e1 : sumTo (fun r => sumTo (fun c => if hiB h 12 r c = true then (1 : Int) else 0) (m + 1 - 1)) (h.length + 1 - 1) = sumTo (fun _ => sumTo (fun _ => 0) (m + 1 - 1)) (h.length + 1 - 1) :=
    sumTo_congr fun r hr => sumTo_congr fun c hc => by rw [hh r c (by omega) (by omega)]; rfl
  have e2 : sumTo (fun r => sumTo (fun c => if (hiB h 12 r c && hiB h 12 r (c + 1)) = true then (1 : Int) else 0) (m + 1 - 2)) (h.length + 1 - 1) = sumTo (fun _ => sumTo (fun _ => 0) (m + 1 - 2)) (h.length + 1 - 1) :=
    sumTo_congr fun r hr => sumTo_congr fun c hc => by rw [hh r c (by omega) (by omega)]; rfl
  have e3 : sumTo (fun r => sumTo (fun c => if (hiB h 12 r c && hiB h 12 (r + 1) c) = true then (1 : Int) else 0) (m + 1 - 1)) (h.length + 1 - 2) = sumTo (fun _ => sumTo (fun _ => 0) (m + 1 - 1)) (h.length + 1 - 2) :=
    sumTo_congr fun r hr => sumTo_congr fun c hc => by rw [hh r c (by omega) (by omega)]; rfl
  have e4 : sumTo (fun r => sumTo (fun c => if ((hiB h 12 r c && hiB h 12 r (c + 1)) && (hiB h 12 (r + 1) c && hiB h 12 (r + 1) (c + 1))) = true then (1 : Int) else 0) (m + 1 - 2)) (h.length + 1 - 2) = sumTo (fun _ => sumTo (fun _ => 0) (m + 1 - 2)) (h.length + 1 - 2) :=
    sumTo_congr fun r hr => sumTo_congr fun c hc => by rw [hh r c (by omega) (by omega)]; rfl
  rw [e1, e2, e3, e4]
  simp only [sumTo_zero]
  rfl
end Go.Proofs.YtaeenedjmakelaaDoor
