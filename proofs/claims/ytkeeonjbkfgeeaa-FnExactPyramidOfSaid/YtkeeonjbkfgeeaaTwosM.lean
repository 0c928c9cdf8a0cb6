/- Sums of two rows and two columns, as lists. -/
import Derived.Test.YtkeeonjbkfgeeaaSumM
namespace Go.Proofs.Ytkeeonjbkfgeeaa
open Go.RowKit

/-! Sums of two rows and two columns. -/
/-- The four numbers of the block i, j. -/
def quadS (f : Nat → Nat → Int) (i j : Nat) : Int := f (2 * i) (2 * j) + f (2 * i) (2 * j + 1) + f (2 * i + 1) (2 * j) + f (2 * i + 1) (2 * j + 1)
theorem quadS_congr {f g : Nat → Nat → Int} (i j : Nat) (h : ∀ a b, a / 2 = i → b / 2 = j → f a b = g a b) : quadS f i j = quadS g i j := by
  unfold quadS
  rw [h (2 * i) (2 * j) (by omega) (by omega), h (2 * i) (2 * j + 1) (by omega) (by omega), h (2 * i + 1) (2 * j) (by omega) (by omega), h (2 * i + 1) (2 * j + 1) (by omega) (by omega)]
theorem quadS_set (f : Nat → Nat → Int) (r c i j : Nat) (x : Int) (hf : f r c = 0) : quadS (fun a b => if a = r ∧ b = c then x else f a b) i j = if i = r / 2 ∧ j = c / 2 then quadS f i j + x else quadS f i j := by
  by_cases e : i = r / 2 ∧ j = c / 2
  · rw [if_pos e]
    obtain ⟨rfl, rfl⟩ := e
    unfold quadS
    rcases Nat.mod_two_eq_zero_or_one r with h1 | h1 <;> rcases Nat.mod_two_eq_zero_or_one c with h2 | h2
    · have e1 : 2 * (r / 2) = r := by omega
      have e2 : 2 * (c / 2) = c := by omega
      rw [e1, e2]; show (if _ then _ else _) + (if _ then _ else _) + (if _ then _ else _) + (if _ then _ else _) = _; rw [if_pos ⟨rfl, rfl⟩, if_neg (by omega), if_neg (by omega), if_neg (by omega), hf]; omega
    · have e1 : 2 * (r / 2) = r := by omega
      have e2 : 2 * (c / 2) + 1 = c := by omega
      rw [e1, e2]; show (if _ then _ else _) + (if _ then _ else _) + (if _ then _ else _) + (if _ then _ else _) = _; rw [if_neg (by omega), if_pos ⟨rfl, rfl⟩, if_neg (by omega), if_neg (by omega), hf]; omega
    · have e1 : 2 * (r / 2) + 1 = r := by omega
      have e2 : 2 * (c / 2) = c := by omega
      rw [e1, e2]; show (if _ then _ else _) + (if _ then _ else _) + (if _ then _ else _) + (if _ then _ else _) = _; rw [if_neg (by omega), if_neg (by omega), if_pos ⟨rfl, rfl⟩, if_neg (by omega), hf]; omega
    · have e1 : 2 * (r / 2) + 1 = r := by omega
      have e2 : 2 * (c / 2) + 1 = c := by omega
      rw [e1, e2]; show (if _ then _ else _) + (if _ then _ else _) + (if _ then _ else _) + (if _ then _ else _) = _; rw [if_neg (by omega), if_neg (by omega), if_neg (by omega), if_pos ⟨rfl, rfl⟩, hf]; omega
  · rw [if_neg e]
    exact quadS_congr i j fun a b ha hb => if_neg fun h => e ⟨by rw [← h.1]; exact ha.symm, by rw [← h.2]; exact hb.symm⟩
/-- The numbers ahead of c in row r, and those of the rows above; no others. -/
def maskS (f : Nat → Nat → Int) (r c a b : Nat) : Int := if a < r ∨ (a = r ∧ b < c) then f a b else 0
theorem maskS_set (f : Nat → Nat → Int) (r c : Nat) : (fun a b => if a = r ∧ b = c then f r c else maskS f r c a b) = maskS f r (c + 1) := by
  funext a b
  unfold maskS
  by_cases e : a = r ∧ b = c
  · rw [if_pos e, if_pos (.inr ⟨e.1, by omega⟩), e.1, e.2]
  · rw [if_neg e]
    by_cases h : a < r ∨ (a = r ∧ b < c)
    · rw [if_pos h, if_pos (by omega)]
    · rw [if_neg h, if_neg (by omega)]
theorem maskS_here (f : Nat → Nat → Int) (r c : Nat) : maskS f r c r c = 0 := if_neg (by omega)
theorem mask_next (f : Nat → Nat → Int) (r c i j : Nat) : quadS (maskS f r (c + 1)) i j = if i = r / 2 ∧ j = c / 2 then quadS (maskS f r c) i j + f r c else quadS (maskS f r c) i j := by
  rw [← maskS_set, quadS_set _ _ _ _ _ _ (maskS_here f r c)]
/-- Noughts beside the numbers. -/
def Outer (n m : Nat) (f : Nat → Nat → Int) : Prop := ∀ a b, n ≤ a ∨ m ≤ b → f a b = 0
theorem mask_row {n m : Nat} {f : Nat → Nat → Int} (h : Outer n m f) (r : Nat) : maskS f r m = maskS f (r + 1) 0 := by
  funext a b
  unfold maskS
  by_cases h1 : a < r ∨ (a = r ∧ b < m)
  · rw [if_pos h1, if_pos (by omega)]
  · rw [if_neg h1]
    by_cases h2 : a < r + 1 ∨ (a = r + 1 ∧ b < 0)
    · rw [if_pos h2, h a b (.inr (by omega))]
    · rw [if_neg h2]
theorem mask_zero (f : Nat → Nat → Int) : maskS f 0 0 = fun _ _ => 0 := by
  funext a b
  exact if_neg (by omega)
theorem mask_all {n m : Nat} {f : Nat → Nat → Int} (h : Outer n m f) (c : Nat) : maskS f n c = f := by
  funext a b
  unfold maskS
  split
  · rfl
  · exact (h a b (.inl (by omega))).symm
theorem quadS_zero (i j : Nat) : quadS (fun _ _ => 0) i j = 0 := rfl
/-- In the block i, j: behind column e nothing comes in this row. -/
theorem mask_block {n m : Nat} {f : Nat → Nat → Int} (h : Outer n m f) (i j r e : Nat) (he : 2 * j + 2 ≤ e ∨ m ≤ e) : quadS (maskS f r e) i j = quadS (maskS f (r + 1) (2 * j)) i j := by
  refine quadS_congr i j fun a b ha hb => ?_
  unfold maskS
  by_cases h1 : a < r ∨ (a = r ∧ b < e)
  · rw [if_pos h1, if_pos (by omega)]
  · rw [if_neg h1]
    by_cases h2 : a < r + 1 ∨ (a = r + 1 ∧ b < 2 * j)
    · rw [if_pos h2]
      rw [h a b (.inr (by omega))]
    · rw [if_neg h2]
theorem mask_start (f : Nat → Nat → Int) (i j : Nat) : quadS (maskS f (2 * i) (2 * j)) i j = 0 := by
  exact (quadS_congr (g := fun _ _ => 0) i j fun a b ha hb => if_neg (by omega)).trans rfl
theorem mask_end {n m : Nat} {f : Nat → Nat → Int} (h : Outer n m f) (i j r c : Nat) (hr : 2 * i + 2 ≤ r ∨ n ≤ r) : quadS (maskS f r c) i j = quadS f i j := by
  refine quadS_congr i j fun a b ha hb => ?_
  unfold maskS
  split
  · rfl
  · exact (h a b (.inl (by omega))).symm
theorem quadS_bd {f : Nat → Nat → Int} {B : Int} (h : ∀ a b, 0 ≤ f a b ∧ f a b ≤ B) (i j : Nat) : 0 ≤ quadS f i j ∧ quadS f i j ≤ 4 * B := by
  unfold quadS
  have h1 := h (2 * i) (2 * j)
  have h2 := h (2 * i) (2 * j + 1)
  have h3 := h (2 * i + 1) (2 * j)
  have h4 := h (2 * i + 1) (2 * j + 1)
  omega
theorem maskS_bd {f : Nat → Nat → Int} {B : Int} (hB : 0 ≤ B) (h : ∀ a b, 0 ≤ f a b ∧ f a b ≤ B) (r c a b : Nat) : 0 ≤ maskS f r c a b ∧ maskS f r c a b ≤ B := by
  unfold maskS
  split
  · exact h a b
  · omega
/-- Half as many, one more if odd. -/
def hlf (n : Nat) : Nat := (n + 1) / 2
/-- Each sum of the next grid lies in it. -/
theorem outer_quad {n m : Nat} {f : Nat → Nat → Int} (h : Outer n m f) : Outer (hlf n) (hlf m) (quadS f) := fun a b hab => by
  unfold quadS hlf at *
  rw [h _ _ (by omega), h _ _ (by omega), h _ _ (by omega), h _ _ (by omega)]
  rfl
theorem sum_pairs (f : Nat → Int) : ∀ n, sumTo (fun i => f (2 * i) + f (2 * i + 1)) n = sumTo f (2 * n)
  | 0 => rfl
  | n + 1 => by rw [sumTo, sum_pairs f n, show 2 * (n + 1) = 2 * n + 1 + 1 by omega, sumTo, sumTo]; omega
theorem sum_half (f : Nat → Int) (n : Nat) (h : f n = 0) : sumTo (fun i => f (2 * i) + f (2 * i + 1)) (hlf n) = sumTo f n := by
  rw [sum_pairs]
  unfold hlf
  rcases Nat.mod_two_eq_zero_or_one n with e | e
  · rw [show 2 * ((n + 1) / 2) = n by omega]
  · rw [show 2 * ((n + 1) / 2) = n + 1 by omega, sumTo, h]; omega
def allT (f : Nat → Nat → Int) (n m : Nat) : Int := sumTo (fun i => sumTo (f i) m) n
theorem all_quad {n m : Nat} {f : Nat → Nat → Int} (h : Outer n m f) : allT (quadS f) (hlf n) (hlf m) = allT f n m := by
  unfold allT
  have e : ∀ i, sumTo (quadS f i) (hlf m) = sumTo (f (2 * i)) m + sumTo (f (2 * i + 1)) m := fun i => by
    rw [← sum_half (f (2 * i)) m (h _ _ (.inr (Nat.le_refl _))), ← sum_half (f (2 * i + 1)) m (h _ _ (.inr (Nat.le_refl _))), ← sumTo_add]
    refine sumTo_congr fun j _ => ?_
    unfold quadS
    omega
  rw [sumTo_congr fun i _ => e i]
  refine sum_half (fun i => sumTo (f i) m) n ?_
  rw [sumTo_congr (g := fun _ => 0) fun j _ => h n j (.inl (Nat.le_refl _)), sumTo_zero]
/-- The k-th grid of sums: its rows, its columns, its numbers. -/
def hlfN : Nat → Nat → Nat
  | 0, n => n
  | k + 1, n => hlf (hlfN k n)
def pyrF (f : Nat → Nat → Int) : Nat → Nat → Nat → Int
  | 0 => f
  | k + 1 => quadS (pyrF f k)
def pyrLv (f : Nat → Nat → Int) (n m k : Nat) : List (List Int) := tabR (hlfN k n) (hlfN k m) (pyrF f k)
theorem pyrF_outer {n m : Nat} {f : Nat → Nat → Int} (h : Outer n m f) : ∀ k, Outer (hlfN k n) (hlfN k m) (pyrF f k)
  | 0 => h
  | k + 1 => outer_quad (pyrF_outer h k)
theorem pyrF_all {n m : Nat} {f : Nat → Nat → Int} (h : Outer n m f) : ∀ k, allT (pyrF f k) (hlfN k n) (hlfN k m) = allT f n m
  | 0 => rfl
  | k + 1 => (all_quad (pyrF_outer h k)).trans (pyrF_all h k)
theorem hlfN_pos (k n : Nat) (h : 1 ≤ n) : 1 ≤ hlfN k n := by
  induction k with
  | zero => exact h
  | succ k ih => unfold hlfN hlf; omega
theorem hlfN_five (n : Nat) (h : n ≤ 5) : hlfN 0 n ≤ 5 ∧ hlfN 1 n ≤ 3 ∧ hlfN 2 n ≤ 2 ∧ hlfN 3 n ≤ 1 := by
  simp only [hlfN, hlf]; omega
theorem hlfN_le (k n : Nat) (h : n ≤ 5) : hlfN k n ≤ 5 := by
  induction k with
  | zero => exact h
  | succ k ih => unfold hlfN hlf; omega
theorem pyrF_bd {f : Nat → Nat → Int} (h : ∀ a b, 0 ≤ f a b ∧ f a b ≤ 12) : ∀ k, k ≤ 3 → ∀ a b, 0 ≤ pyrF f k a b ∧ pyrF f k a b ≤ 768 := by
  have h0 := quadS_bd h
  have h1 := quadS_bd h0
  have h2 := quadS_bd h1
  intro k hk a b
  match k, hk with
  | 0, _ => have := h a b; simp only [pyrF]; omega
  | 1, _ => have := h0 a b; simp only [pyrF]; omega
  | 2, _ => have := h1 a b; simp only [pyrF]; omega
  | 3, _ => have := h2 a b; simp only [pyrF]; omega
/-- How many grids come behind the first one. -/
def dep (n : Nat) : Nat := if n ≤ 1 then 0 else if n ≤ 2 then 1 else if n ≤ 4 then 2 else 3
def deps (n m : Nat) : Nat := max (dep n) (dep m)
theorem deps_le (n m : Nat) : deps n m ≤ 3 := by
  unfold deps dep
  repeat' split
  all_goals omega
theorem dep_iff (k n : Nat) (h1 : 1 ≤ n) (h5 : n ≤ 5) (hk : k ≤ 3) : hlfN k n = 1 ↔ dep n ≤ k := by
  have hn : n = 1 ∨ n = 2 ∨ n = 3 ∨ n = 4 ∨ n = 5 := by omega
  have hk' : k = 0 ∨ k = 1 ∨ k = 2 ∨ k = 3 := by omega
  rcases hn with rfl | rfl | rfl | rfl | rfl <;> rcases hk' with rfl | rfl | rfl | rfl <;> simp [hlfN, hlf, dep]
theorem deps_iff (k n m : Nat) (hn : 1 ≤ n ∧ n ≤ 5) (hm : 1 ≤ m ∧ m ≤ 5) (hk : k ≤ 3) : (hlfN k n = 1 ∧ hlfN k m = 1) ↔ deps n m ≤ k := by
  rw [dep_iff k n hn.1 hn.2 hk, dep_iff k m hm.1 hm.2 hk]
  unfold deps
  omega
/-- The grid and its sums. -/
def pyrL (h : List (List Int)) (m : Nat) : List (List (List Int)) := (List.range (deps h.length m + 1)).map (pyrLv (cellS h) h.length m)
theorem cellS_outer {h : List (List Int)} {m : Nat} (hl : ∀ r, r < h.length → (h.getD r []).length = m) : Outer h.length m (cellS h) := fun a b hab => by
  unfold cellS
  by_cases ha : a < h.length
  · have := hl a ha
    rw [List.getD_eq_getElem?_getD (l := h.getD a []), List.getElem?_eq_none (by omega)]; rfl
  · rw [List.getD_eq_getElem?_getD (l := h), List.getElem?_eq_none (by omega)]; rfl
theorem cellS_tab {n m : Nat} {f : Nat → Nat → Int} (h : Outer n m f) : cellS (tabR n m f) = f := by
  funext a b
  unfold cellS
  by_cases ha : a < n
  · by_cases hb : b < m
    · exact tabR_at n m f a b ha hb
    · rw [h a b (.inr (by omega)), List.getD_eq_getElem?_getD (l := (tabR n m f).getD a []), List.getElem?_eq_none (by rw [tabR_rowlen n m f a ha]; omega)]; rfl
  · rw [h a b (.inl (by omega)), List.getD_eq_getElem?_getD (l := tabR n m f), List.getElem?_eq_none (by rw [tabR_len]; omega)]; rfl
theorem cellS_bd {h : List (List Int)} {m : Nat} (G : Grid h m) (a b : Nat) : 0 ≤ cellS h a b ∧ cellS h a b ≤ 12 := by
  by_cases ha : a < h.length ∧ b < m
  · exact G.num a ha.1 b ha.2
  · rw [cellS_outer G.len a b (by omega)]; omega
/-- Two rows and two columns are a part. -/
theorem quad_part {h : List (List Int)} {m : Nat} (hl : ∀ r, r < h.length → (h.getD r []).length = m) (r c : Nat) (hr : 2 * r < h.length) (hc : 2 * c < m) :
    quadS (cellS h) r c = partS h (2 * r) (2 * c) (min (2 * r + 2) h.length) (min (2 * c + 2) m) := by
  have ho := cellS_outer hl
  have row : ∀ a, sumTo (fun j => cellS h a (2 * c + j)) (min (2 * c + 2) m - 2 * c) = cellS h a (2 * c) + cellS h a (2 * c + 1) := fun a => by
    by_cases e : 2 * c + 2 ≤ m
    · rw [show min (2 * c + 2) m - 2 * c = 2 by omega]
      simp [sumTo]
    · rw [show min (2 * c + 2) m - 2 * c = 1 by omega, ho a (2 * c + 1) (.inr (by omega))]
      simp [sumTo]
  unfold partS
  rw [sumTo_congr fun i _ => row (2 * r + i)]
  by_cases e : 2 * r + 2 ≤ h.length
  · rw [show min (2 * r + 2) h.length - 2 * r = 2 by omega]
    simp only [sumTo, quadS, Nat.add_zero]
    omega
  · rw [show min (2 * r + 2) h.length - 2 * r = 1 by omega]
    simp only [sumTo, quadS, Nat.add_zero]
    rw [ho (2 * r + 1) (2 * c) (.inl (by omega)), ho (2 * r + 1) (2 * c + 1) (.inl (by omega))]
    omega
theorem half_set (f : Nat → Nat → Int) (n m r c : Nat) (hr : r < n) (_hc : c < m) : (tabR (hlf n) (hlf m) (quadS (maskS f r c))).set (r / 2) (((tabR (hlf n) (hlf m) (quadS (maskS f r c))).getD (r / 2) []).set (c / 2) (quadS (maskS f r c) (r / 2) (c / 2) + f r c)) = tabR (hlf n) (hlf m) (quadS (maskS f r (c + 1))) := by
  rw [tabR_set _ _ _ _ _ _ (by unfold hlf; omega)]
  refine tabR_congr fun i j _ _ => ?_
  rw [mask_next]
  by_cases e : i = r / 2 ∧ j = c / 2
  · rw [if_pos e, if_pos e, e.1, e.2]
  · rw [if_neg e, if_neg e]
theorem drop_flatten : ∀ (h : List (List Int)) (m i : Nat), (∀ r, r < h.length → (h.getD r []).length = m) → i < h.length → (h.flatten.drop (i * m)).take m = h.getD i []
  | [], _, _, _, hi => by simp at hi
  | x :: xs, m, 0, hl, _ => by
    have h0 : x.length = m := by simpa using hl 0 (by simp)
    rw [List.flatten_cons, Nat.zero_mul, List.drop_zero, List.take_left' h0]
    rfl
  | x :: xs, m, i + 1, hl, hi => by
    have h0 : x.length = m := by simpa using hl 0 (by simp)
    rw [List.flatten_cons, Nat.succ_mul, Nat.add_comm (i * m) m, ← List.drop_drop, List.drop_left' h0, drop_flatten xs m i (fun r hr => by have := hl (r + 1) (by simpa using hr); simpa using this) (by simpa using hi)]
    rfl
theorem shapeL_self {h : List (List Int)} {m : Nat} (hl : ∀ r, r < h.length → (h.getD r []).length = m) : shapeL h.flatten m h.length = h := by
  apply List.ext_getElem
  · simp [shapeL]
  · intro i h1 h2
    have := drop_flatten h m i hl h2
    simp only [shapeL, List.getElem_map, List.getElem_range]
    rw [this]
    simp [h2]
theorem pyrL_len (h : List (List Int)) (m : Nat) : (pyrL h m).length = deps h.length m + 1 := by simp [pyrL]
theorem pyrL_at (h : List (List Int)) (m k : Nat) (hk : k ≤ deps h.length m) : (pyrL h m).getD k [] = pyrLv (cellS h) h.length m k := by
  have : k < deps h.length m + 1 := by omega
  simp [pyrL, this]
theorem pyrL_next (h : List (List Int)) (m k : Nat) (hk : k ≤ deps h.length m) : (pyrL h m).take k ++ [pyrLv (cellS h) h.length m k] = (pyrL h m).take (k + 1) := by
  have hl : k < (pyrL h m).length := by rw [pyrL_len]; omega
  rw [List.take_succ_eq_append_getElem hl]
  have := pyrL_at h m k hk
  rw [← this]
  simp [hl]
theorem pyrL_one (h : List (List Int)) (m : Nat) : [pyrLv (cellS h) h.length m 0] = (pyrL h m).take 1 := by
  have := pyrL_next h m 0 (Nat.zero_le _)
  simpa using this
theorem pyrLv_zero {h : List (List Int)} {m : Nat} (hl : ∀ r, r < h.length → (h.getD r []).length = m) : pyrLv (cellS h) h.length m 0 = h := tabR_self hl
theorem pyrL_take_all (h : List (List Int)) (m k : Nat) (hk : deps h.length m ≤ k) : (pyrL h m).take (k + 1) = pyrL h m := List.take_of_length_le (by rw [pyrL_len]; omega)
theorem many_iff (a b : Nat) (ha : 1 ≤ a) (hb : 1 ≤ b) : 1 < a * b ↔ ¬ (a = 1 ∧ b = 1) := by
  constructor
  · rintro h ⟨rfl, rfl⟩
    omega
  · intro h
    rcases Nat.lt_or_ge 1 a with h1 | h1
    · have := Nat.mul_le_mul h1 hb; omega
    · have : a = 1 := by omega
      subst this
      omega
theorem hlf_le (n : Nat) (h : n ≤ 5) : hlf n ≤ 3 := by unfold hlf; omega
end Go.Proofs.Ytkeeonjbkfgeeaa
