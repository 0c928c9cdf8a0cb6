/- Rims, as lists: they are even, long enough for their area, and all of them together are all sides. -/
import Derived.Test.YtdfnhodhdfhhcaaDoorRim
namespace Go.Proofs.YtdfnhodhdfhhcaaDoor
open Go.RowKit

def bB (b : Bool) : Int := if b = true then 1 else 0
/-- The sides of a line of cells. -/
def lineC (f : Nat → Bool) (m c : Nat) : Int := if f c = true then 2 - bB (decide (0 < c) && f (c - 1)) - bB (decide (c < m - 1) && f (c + 1)) else 0
theorem line_spec (f : Nat → Bool) (m : Nat) (hm : m ≤ 5) : 0 ≤ sumTo (lineC f m) m ∧ sumTo (lineC f m) m % 2 = 0 ∧ ∀ c, c < m → f c = true → 2 ≤ sumTo (lineC f m) m := by
  have h : m = 0 ∨ m = 1 ∨ m = 2 ∨ m = 3 ∨ m = 4 ∨ m = 5 := by omega
  have key : ∀ (x0 x1 x2 x3 x4 : Bool), f 0 = x0 → f 1 = x1 → f 2 = x2 → f 3 = x3 → f 4 = x4 → 0 ≤ sumTo (lineC f m) m ∧ sumTo (lineC f m) m % 2 = 0 ∧ (∀ c, c < m → f c = true → 2 ≤ sumTo (lineC f m) m) := by
    intro x0 x1 x2 x3 x4 h0 h1 h2 h3 h4
    have hc : ∀ c, c < m → c = 0 ∨ c = 1 ∨ c = 2 ∨ c = 3 ∨ c = 4 := fun c h => by omega
    rcases h with rfl | rfl | rfl | rfl | rfl | rfl
    · exact ⟨Int.le_refl _, rfl, fun c h => by omega⟩
    · cases x0 <;> simp [sumTo, lineC, bB, h0] <;> (intro c hc1; obtain rfl : c = 0 := by omega) <;> simp [h0]
    · cases x0 <;> cases x1 <;> simp [sumTo, lineC, bB, h0, h1] <;> (intro c hc1; rcases (by omega : c = 0 ∨ c = 1) with rfl | rfl) <;> simp [h0, h1]
    · cases x0 <;> cases x1 <;> cases x2 <;> simp [sumTo, lineC, bB, h0, h1, h2] <;> (intro c hc1; rcases (by omega : c = 0 ∨ c = 1 ∨ c = 2) with rfl | rfl | rfl) <;> simp [h0, h1, h2]
    · cases x0 <;> cases x1 <;> cases x2 <;> cases x3 <;> simp [sumTo, lineC, bB, h0, h1, h2, h3] <;> (intro c hc1; rcases (by omega : c = 0 ∨ c = 1 ∨ c = 2 ∨ c = 3) with rfl | rfl | rfl | rfl) <;> simp [h0, h1, h2, h3]
    · cases x0 <;> cases x1 <;> cases x2 <;> cases x3 <;> cases x4 <;> simp [sumTo, lineC, bB, h0, h1, h2, h3, h4] <;> (intro c hc1; rcases (by omega : c = 0 ∨ c = 1 ∨ c = 2 ∨ c = 3 ∨ c = 4) with rfl | rfl | rfl | rfl | rfl) <;> simp [h0, h1, h2, h3, h4]
  exact key _ _ _ _ _ rfl rfl rfl rfl rfl
theorem sumTo_rows (g : Nat → Int) (m : Nat) : ∀ (k j : Nat), sumTo g (k * m + j) = sumTo (fun r => sumTo (fun c => g (r * m + c)) m) k + sumTo (fun c => g (k * m + c)) j := by
  intro k
  induction k with
  | zero =>
    intro j
    simp only [Nat.zero_mul, Nat.zero_add, sumTo]
    rw [Int.zero_add]
  | succ k ih =>
    intro j
    induction j with
    | zero =>
      rw [Nat.add_zero, Nat.succ_mul, ih m]
      simp only [sumTo]
      omega
    | succ j ihj =>
      rw [← Nat.add_assoc, sumTo, ihj]
      simp only [sumTo]
      omega
theorem sumTo_list (F : Int → Int) (l : List Int) : ∀ k, k ≤ l.length → sumTo (fun j => F (l.getD j 0)) k = ((l.take k).map F).sum
  | 0, _ => rfl
  | k + 1, h => by
    rw [sumTo, sumTo_list F l k (by omega), List.take_succ_eq_append_getElem (by omega), List.map_append, List.sum_append]
    have : l.getD k 0 = l[k] := by simp [show k < l.length by omega]
    rw [this]
    simp
theorem nearUp_sum (p : List Int) (t : Int) (l : List Int) : nearUp p t l l.length = (l.map fun x => bB (above p t x.toNat)).sum := by
  have := sumTo_list (fun x => bB (above p t x.toNat)) l l.length (Nat.le_refl _)
  rw [List.take_length] at this
  exact this
theorem sum_if (c : Prop) [Decidable c] (x : Int) (F : Int → Int) : ((if c then [x] else []).map F).sum = if c then F x else 0 := by
  split <;> simp
theorem rimC_lines (p : List Int) (t : Int) (n m r c : Nat) (hr : r < n) (hc : c < m) :
    rimC p t n m (r * m + c) = lineC (fun c' => above p t (r * m + c')) m c + lineC (fun r' => above p t (r' * m + c)) n r := by
  have hm : 0 < m := by omega
  have hmod : (r * m + c) % m = c := by rw [Nat.mul_comm, Nat.mul_add_mod, Nat.mod_eq_of_lt hc]
  have h1 : m ≤ r * m + c ↔ 0 < r := by
    rcases r with _ | r
    · simp; omega
    · rw [Nat.succ_mul]; omega
  have h4 : r * m + c + m < n * m ↔ r < n - 1 := by
    constructor
    · intro h
      rcases Nat.lt_or_ge r (n - 1) with h2 | h2
      · exact h2
      · have : n * m ≤ (r + 1) * m := Nat.mul_le_mul_right m (by omega)
        rw [Nat.succ_mul] at this
        omega
    · intro h
      have : (r + 1 + 1) * m ≤ n * m := Nat.mul_le_mul_right m (by omega)
      rw [Nat.succ_mul, Nat.succ_mul] at this
      omega
  unfold rimC lineC
  cases ha : above p t (r * m + c) with
  | false => simp [ha]
  | true =>
    simp only [ha, if_true]
    rw [nearUp_sum]
    unfold aroundL
    simp only [List.map_append, List.sum_append, sum_if, hmod]
    have e1 : (if m ≤ r * m + c then bB (above p t (((r * m + c : Nat) : Int) - (m : Int)).toNat) else 0) = bB (decide (0 < r) && above p t ((r - 1) * m + c)) := by
      by_cases h : 0 < r
      · rw [if_pos (h1.2 h), decide_eq_true h, Bool.true_and]
        have : (((r * m + c : Nat) : Int) - (m : Int)).toNat = (r - 1) * m + c := by
          obtain ⟨z, rfl⟩ : ∃ z, r = z + 1 := ⟨r - 1, by omega⟩
          rw [Nat.succ_mul, Nat.add_sub_cancel]
          omega
        rw [this]
      · rw [if_neg (fun h' => h (h1.1 h')), decide_eq_false h]
        rfl
    have e2 : (if 0 < c then bB (above p t (((r * m + c : Nat) : Int) - 1).toNat) else 0) = bB (decide (0 < c) && above p t (r * m + (c - 1))) := by
      by_cases h : 0 < c
      · rw [if_pos h, decide_eq_true h, Bool.true_and, show (((r * m + c : Nat) : Int) - 1).toNat = r * m + (c - 1) by omega]
      · rw [if_neg h, decide_eq_false h]
        rfl
    have e3 : (if c < m - 1 then bB (above p t (((r * m + c : Nat) : Int) + 1).toNat) else 0) = bB (decide (c < m - 1) && above p t (r * m + (c + 1))) := by
      by_cases h : c < m - 1
      · rw [if_pos h, decide_eq_true h, Bool.true_and, show (((r * m + c : Nat) : Int) + 1).toNat = r * m + (c + 1) by omega]
      · rw [if_neg h, decide_eq_false h]
        rfl
    have e4 : (if r * m + c + m < n * m then bB (above p t (((r * m + c : Nat) : Int) + (m : Int)).toNat) else 0) = bB (decide (r < n - 1) && above p t ((r + 1) * m + c)) := by
      by_cases h : r < n - 1
      · rw [if_pos (h4.2 h), decide_eq_true h, Bool.true_and, Nat.succ_mul, show (((r * m + c : Nat) : Int) + (m : Int)).toNat = r * m + m + c by omega]
      · rw [if_neg (fun h' => h (h4.1 h')), decide_eq_false h]
        rfl
    rw [e1, e2, e3, e4]
    omega
/-- The rim is the sides of all rows and of all columns. -/
theorem rimL_lines (p : List Int) (t : Int) (n m : Nat) : rimL p t n m (n * m) =
    sumTo (fun r => sumTo (lineC (fun c => above p t (r * m + c)) m) m) n + sumTo (fun c => sumTo (lineC (fun r => above p t (r * m + c)) n) n) m := by
  unfold rimL
  have h := sumTo_rows (rimC p t n m) m n 0
  rw [Nat.add_zero] at h
  rw [h]
  have e : sumTo (fun r => sumTo (fun c => rimC p t n m (r * m + c)) m) n = sumTo (fun r => sumTo (fun c => lineC (fun c' => above p t (r * m + c')) m c + lineC (fun r' => above p t (r' * m + c)) n r) m) n :=
    sumTo_congr fun r hr => sumTo_congr fun c hc => rimC_lines p t n m r c hr hc
  rw [e]
  have e2 : sumTo (fun r => sumTo (fun c => lineC (fun c' => above p t (r * m + c')) m c + lineC (fun r' => above p t (r' * m + c)) n r) m) n
      = sumTo (fun r => sumTo (lineC (fun c => above p t (r * m + c)) m) m + sumTo (fun c => lineC (fun r' => above p t (r' * m + c)) n r) m) n :=
    sumTo_congr fun r _ => sumTo_add _ _ _
  rw [e2, sumTo_add, sumTo_swap (fun r c => lineC (fun r' => above p t (r' * m + c)) n r) m n]
  exact Int.add_zero _
theorem sumTo_even {f : Nat → Int} : ∀ {k : Nat}, (∀ i, i < k → f i % 2 = 0) → sumTo f k % 2 = 0
  | 0, _ => rfl
  | k + 1, h => by
    have h1 := sumTo_even (f := f) (k := k) fun i hi => h i (by omega)
    have h2 := h k (by omega)
    rw [sumTo]
    omega
theorem sumTo_times (x : Int) (g : Nat → Int) : ∀ k, sumTo (fun i => x * g i) k = x * sumTo g k
  | 0 => by simp [sumTo]
  | k + 1 => by rw [sumTo, sumTo, sumTo_times x g k, Int.mul_add]
theorem sumTo_nonneg {f : Nat → Int} : ∀ {k : Nat}, (∀ i, i < k → 0 ≤ f i) → 0 ≤ sumTo f k
  | 0, _ => Int.le_refl _
  | k + 1, h => by
    have h1 := sumTo_nonneg (f := f) (k := k) fun i hi => h i (by omega)
    have h2 := h k (by omega)
    rw [sumTo]
    omega
open Classical in
theorem rim_area {p : List Int} {n m : Nat} (t : Int) (hn : n ≤ 5) (hm : m ≤ 5) (hp : p.length = n * m) :
    0 ≤ areaL p t ∧ areaL p t ≤ 25 ∧ 0 ≤ rimL p t n m (n * m) ∧ rimL p t n m (n * m) % 2 = 0 ∧ rimL p t n m (n * m) ≤ 4 * areaL p t ∧ 16 * areaL p t ≤ rimL p t n m (n * m) * rimL p t n m (n * m) := by
  have hA : areaL p t = sumTo (fun r => sumTo (fun c => bB (above p t (r * m + c))) m) n := by
    unfold areaL
    rw [hp]
    have h := sumTo_rows (fun i => if above p t i = true then 1 else 0) m n 0
    rw [Nat.add_zero] at h
    rw [h]
    simp only [sumTo]
    rw [Int.add_zero]
    rfl
  have hbit : ∀ b, 0 ≤ bB b ∧ bB b ≤ 1 := fun b => by cases b <;> decide
  have ha0 : 0 ≤ areaL p t := by
    rw [hA]
    exact sumTo_nonneg fun r _ => sumTo_nonneg fun c _ => (hbit _).1
  have hnm : n * m ≤ 25 := Nat.mul_le_mul hn hm
  have ha1 : areaL p t ≤ 25 := by
    have := (sumTo_bd (f := fun i => if above p t i = true then (1 : Int) else 0) 0 1 (k := p.length) fun i _ => by split <;> omega).2
    unfold areaL
    rw [hp] at this ⊢
    omega
  let row : Nat → Prop := fun r => ∃ c, c < m ∧ above p t (r * m + c) = true
  let col : Nat → Prop := fun c => ∃ r, r < n ∧ above p t (r * m + c) = true
  have hlr := fun r => line_spec (fun c => above p t (r * m + c)) m hm
  have hlc := fun c => line_spec (fun r => above p t (r * m + c)) n hn
  have hR : sumTo (fun r => 2 * bB (decide (row r))) n ≤ sumTo (fun r => sumTo (lineC (fun c => above p t (r * m + c)) m) m) n := sumTo_le fun r _ => by
    by_cases h : row r
    · obtain ⟨c, hc, hb⟩ := h
      have := (hlr r).2.2 c hc hb
      have := (hbit (decide (row r))).2
      omega
    · have := (hlr r).1
      rw [decide_eq_false h]
      exact this
  have hC : sumTo (fun c => 2 * bB (decide (col c))) m ≤ sumTo (fun c => sumTo (lineC (fun r => above p t (r * m + c)) n) n) m := sumTo_le fun c _ => by
    by_cases h : col c
    · obtain ⟨r, hr, hb⟩ := h
      have := (hlc c).2.2 r hr hb
      have := (hbit (decide (col c))).2
      omega
    · have := (hlc c).1
      rw [decide_eq_false h]
      exact this
  rw [sumTo_times] at hR hC
  have hAR : areaL p t ≤ sumTo (fun r => bB (decide (row r))) n * sumTo (fun c => bB (decide (col c))) m := by
    rw [hA]
    have h1 : sumTo (fun r => sumTo (fun c => bB (above p t (r * m + c))) m) n ≤ sumTo (fun r => sumTo (fun c => bB (decide (col c))) m * bB (decide (row r))) n := sumTo_le fun r hr => by
      by_cases h : row r
      · rw [decide_eq_true h]
        show _ ≤ _ * 1
        rw [Int.mul_one]
        refine sumTo_le fun c hc => ?_
        cases hb : above p t (r * m + c) with
        | false => exact (hbit _).1
        | true => rw [decide_eq_true (show col c from ⟨r, hr, hb⟩)]; exact Int.le_refl _
      · rw [decide_eq_false h]
        show _ ≤ _ * 0
        rw [Int.mul_zero]
        have : sumTo (fun c => bB (above p t (r * m + c))) m = sumTo (fun _ => 0) m := sumTo_congr fun c hc => by
          cases hb : above p t (r * m + c) with
          | false => rfl
          | true => exact absurd ⟨c, hc, hb⟩ h
        rw [this, sumTo_zero]
        exact Int.le_refl _
    rw [sumTo_times, Int.mul_comm] at h1
    exact h1
  have hR0 : 0 ≤ sumTo (fun r => bB (decide (row r))) n := sumTo_nonneg fun _ _ => (hbit _).1
  have hC0 : 0 ≤ sumTo (fun c => bB (decide (col c))) m := sumTo_nonneg fun _ _ => (hbit _).1
  have hL := rimL_lines p t n m
  have hev1 : sumTo (fun r => sumTo (lineC (fun c => above p t (r * m + c)) m) m) n % 2 = 0 := sumTo_even fun r _ => (hlr r).2.1
  have hev2 : sumTo (fun c => sumTo (lineC (fun r => above p t (r * m + c)) n) n) m % 2 = 0 := sumTo_even fun c _ => (hlc c).2.1
  have h4 : rimL p t n m (n * m) ≤ 4 * areaL p t := by
    unfold areaL rimL
    rw [hp, ← sumTo_times]
    refine sumTo_le fun i _ => ?_
    unfold rimC
    split
    · rw [nearUp_sum]
      have : 0 ≤ ((aroundL n m i).map fun x => bB (above p t x.toNat)).sum := by
        induction aroundL n m i with
        | nil => exact Int.le_refl _
        | cons x l ih =>
          have := (hbit (above p t x.toNat)).1
          simp only [List.map_cons, List.sum_cons]
          omega
      omega
    · omega
  generalize sumTo (fun r => bB (decide (row r))) n = R at hR hAR hR0
  generalize sumTo (fun c => bB (decide (col c))) m = C at hC hAR hC0
  generalize sumTo (fun r => sumTo (lineC (fun c => above p t (r * m + c)) m) m) n = X at hR hL hev1
  generalize sumTo (fun c => sumTo (lineC (fun r => above p t (r * m + c)) n) n) m = Y at hC hL hev2
  rw [hL] at h4 ⊢
  refine ⟨ha0, ha1, by omega, by omega, h4, ?_⟩
  have k1 : (2 * R + 2 * C) * (2 * R + 2 * C) ≤ (X + Y) * (X + Y) := Int.mul_le_mul (by omega) (by omega) (by omega) (by omega)
  have k2 : (2 * R + 2 * C) * (2 * R + 2 * C) = 16 * (R * C) + 4 * ((R - C) * (R - C)) := by grind
  have k3 : 0 ≤ (R - C) * (R - C) := by
    rcases Int.le_total 0 (R - C) with h | h
    · exact Int.mul_nonneg h h
    · have := Int.mul_nonneg (a := -(R - C)) (b := -(R - C)) (by omega) (by omega)
      rw [Int.neg_mul_neg] at this
      exact this
  omega
/-- The rims of all levels at a cell are its sides. -/
def sideC (p : List Int) (n m i : Nat) : Int := (4 - (aroundL n m i).length) * p.getD i 0 + sumTo (fun k => max (p.getD i 0 - p.getD ((aroundL n m i).getD k 0).toNat 0) 0) (aroundL n m i).length
theorem sum_levels {x : Int} (h0 : 0 ≤ x) (h1 : x ≤ 12) : sumTo (fun t => if (t : Int) < x then 1 else 0) 13 = x := by
  rw [sumTo_less x h0 13]
  omega
theorem rimC_sides {p : List Int} {n m i : Nat} (hp : ∀ j, 0 ≤ p.getD j 0 ∧ p.getD j 0 ≤ 12) : sumTo (fun t : Nat => rimC p (t : Int) n m i) 13 = sideC p n m i := by
  obtain ⟨l, el⟩ : ∃ l, aroundL n m i = l := ⟨_, rfl⟩
  unfold sideC
  rw [el]
  obtain ⟨x, ex⟩ : ∃ x, p.getD i 0 = x := ⟨_, rfl⟩
  have hx := hp i
  rw [ex] at hx ⊢
  have e : ∀ t : Nat, rimC p (t : Int) n m i = 4 * (if (t : Int) < x then 1 else 0) - sumTo (fun k => if (t : Int) < min x (p.getD (l.getD k 0).toNat 0) then 1 else 0) l.length := fun t => by
    unfold rimC nearUp above
    rw [el, ex]
    by_cases h : (t : Int) < x
    · rw [decide_eq_true h, if_pos rfl, if_pos h]
      have : sumTo (fun j => if decide ((t : Int) < p.getD (l.getD j 0).toNat 0) = true then (1 : Int) else 0) l.length = sumTo (fun k => if (t : Int) < min x (p.getD (l.getD k 0).toNat 0) then 1 else 0) l.length := sumTo_congr fun k _ => by
        by_cases h2 : (t : Int) < p.getD (l.getD k 0).toNat 0
        · rw [decide_eq_true h2, if_pos rfl, if_pos (by omega)]
        · rw [decide_eq_false h2, if_neg (by simp), if_neg (by omega)]
      rw [this]
      omega
    · rw [decide_eq_false h, if_neg (by simp), if_neg h]
      have : sumTo (fun k => if (t : Int) < min x (p.getD (l.getD k 0).toNat 0) then (1 : Int) else 0) l.length = sumTo (fun _ => 0) l.length := sumTo_congr fun k _ => if_neg (by omega)
      rw [this, sumTo_zero]
      omega
  rw [sumTo_congr (fun t _ => e t), sumTo_sub, sumTo_times, sum_levels hx.1 hx.2, sumTo_swap (fun (t : Nat) k => if (t : Int) < min x (p.getD (l.getD k 0).toNat 0) then (1 : Int) else 0)]
  have e2 : sumTo (fun k => sumTo (fun t : Nat => if (t : Int) < min x (p.getD (l.getD k 0).toNat 0) then (1 : Int) else 0) 13) l.length = sumTo (fun k => x - max (x - p.getD (l.getD k 0).toNat 0) 0) l.length := sumTo_congr fun k _ => by
    have hy := hp (l.getD k 0).toNat
    rw [sum_levels (by omega) (by omega)]
    omega
  rw [e2, sumTo_sub]
  have e3 : sumTo (fun _ => x) l.length = l.length * x := by
    have := sumTo_times x (fun _ => 1) l.length
    rw [show sumTo (fun _ => x) l.length = sumTo (fun _ => x * 1) l.length from sumTo_congr fun _ _ => (Int.mul_one x).symm, this]
    have h1 : ∀ k : Nat, sumTo (fun _ => (1 : Int)) k = k := fun k => by
      induction k with
      | zero => rfl
      | succ k ih => rw [sumTo, ih]; omega
    rw [h1, Int.mul_comm]
  rw [e3, Int.sub_mul]
  omega
theorem rims_sides {p : List Int} {n m : Nat} (hp : ∀ j, 0 ≤ p.getD j 0 ∧ p.getD j 0 ≤ 12) (N : Nat) : sumTo (fun t : Nat => rimL p (t : Int) n m N) 13 = sumTo (sideC p n m) N := by
  unfold rimL
  rw [sumTo_swap (fun (t : Nat) i => rimC p (t : Int) n m i) N 13]
  exact sumTo_congr fun i _ => rimC_sides hp
end Go.Proofs.YtdfnhodhdfhhcaaDoor
