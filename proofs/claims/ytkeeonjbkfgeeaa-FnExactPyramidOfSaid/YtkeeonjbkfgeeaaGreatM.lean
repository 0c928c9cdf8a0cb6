/- The greatest sum of a part, as lists. -/
import Derived.Test.YtkeeonjbkfgeeaaSumM
namespace Go.Proofs.Ytkeeonjbkfgeeaa
open Go.RowKit

/-! The greatest of numbers, or 0. -/
/-- x is the greatest one of those for which P holds, or 0. -/
def Bst (P : Int → Prop) (x : Int) : Prop := 0 ≤ x ∧ (∀ v, P v → v ≤ x) ∧ (x = 0 ∨ P x)
theorem Bst.unique {P : Int → Prop} {x y : Int} (h : Bst P x) (k : Bst P y) : x = y := by
  obtain ⟨h0, h1, h2⟩ := h
  obtain ⟨k0, k1, k2⟩ := k
  have a : x ≤ y := by rcases h2 with h2 | h2; · omega
                       · exact k1 x h2
  have b : y ≤ x := by rcases k2 with k2 | k2; · omega
                       · exact h1 y k2
  omega
theorem Bst.congr {P Q : Int → Prop} {x : Int} (h : Bst P x) (e : ∀ v, P v ↔ Q v) : Bst Q x :=
  ⟨h.1, fun v hv => h.2.1 v ((e v).2 hv), h.2.2.imp id (e x).1⟩
theorem Bst.none {P : Int → Prop} (h : ∀ v, ¬ P v) : Bst P 0 := ⟨Int.le_refl _, fun v hv => absurd hv (h v), .inl rfl⟩
theorem Bst.join {P Q : Int → Prop} {x y : Int} (h : Bst P x) (k : Bst Q y) : Bst (fun v => P v ∨ Q v) (max x y) := by
  obtain ⟨h0, h1, h2⟩ := h
  obtain ⟨k0, k1, k2⟩ := k
  refine ⟨by omega, fun v hv => ?_, ?_⟩
  · rcases hv with hv | hv
    · have := h1 v hv; omega
    · have := k1 v hv; omega
  · by_cases e : x ≤ y
    · rw [Int.max_eq_right e]
      exact k2.imp id .inr
    · rw [Int.max_eq_left (by omega)]
      exact h2.imp id .inl
theorem Bst.add {P : Int → Prop} {x : Int} (h : Bst P x) (y : Int) : Bst (fun v => P v ∨ v = y) (max x y) := by
  obtain ⟨h0, h1, h2⟩ := h
  refine ⟨by omega, fun v hv => ?_, ?_⟩
  · rcases hv with hv | rfl
    · have := h1 v hv; omega
    · omega
  · by_cases e : x ≤ y
    · rw [Int.max_eq_right e]
      exact .inr (.inr rfl)
    · rw [Int.max_eq_left (by omega)]
      exact h2.imp id .inl
/-- The greatest of sums that end here, with one number more. -/
theorem Bst.next {P : Int → Prop} {x : Int} (h : Bst P x) (y : Int) : Bst (fun v => (∃ u, P u ∧ v = u + y) ∨ v = y) (max (x + y) 0) := by
  obtain ⟨h0, h1, h2⟩ := h
  refine ⟨by omega, fun v hv => ?_, ?_⟩
  · rcases hv with ⟨u, hu, rfl⟩ | rfl
    · have := h1 u hu; omega
    · omega
  · by_cases e : x + y ≤ 0
    · rw [Int.max_eq_right e]
      exact .inl rfl
    · rw [Int.max_eq_left (by omega)]
      rcases h2 with rfl | h2
      · exact .inr (.inr (by omega))
      · exact .inr (.inl ⟨x, h2, rfl⟩)
def mxTo (f : Nat → Int) : Nat → Int
  | 0 => 0
  | k + 1 => max (mxTo f k) (f k)
theorem mxTo_best (f : Nat → Int) : ∀ k, Bst (fun v => ∃ i, i < k ∧ v = f i) (mxTo f k)
  | 0 => Bst.none fun v ⟨i, hi, _⟩ => absurd hi (Nat.not_lt_zero _)
  | k + 1 => by
    refine ((mxTo_best f k).add (f k)).congr fun v => ⟨?_, ?_⟩
    · rintro (⟨i, hi, e⟩ | e)
      · exact ⟨i, by omega, e⟩
      · exact ⟨k, by omega, e⟩
    · rintro ⟨i, hi, e⟩
      by_cases h : i = k
      · subst h; exact .inr e
      · exact .inl ⟨i, by omega, e⟩
/-- The greatest of greatest ones. -/
theorem mxTo_bests (f : Nat → Int) (P : Nat → Int → Prop) : ∀ k, (∀ i, i < k → Bst (P i) (f i)) → Bst (fun v => ∃ i, i < k ∧ P i v) (mxTo f k)
  | 0, _ => Bst.none fun v ⟨i, hi, _⟩ => absurd hi (Nat.not_lt_zero _)
  | k + 1, h => by
    refine ((mxTo_bests f P k fun i hi => h i (by omega)).join (h k (by omega))).congr fun v => ⟨?_, ?_⟩
    · rintro (⟨i, hi, e⟩ | e)
      · exact ⟨i, by omega, e⟩
      · exact ⟨k, by omega, e⟩
    · rintro ⟨i, hi, e⟩
      by_cases h : i = k
      · subst h; exact .inr e
      · exact .inl ⟨i, by omega, e⟩
/-- The sum of a part, less s for each cell. -/
def valS (h : List (List Int)) (s : Int) (t l b r : Nat) : Int := partS h t l b r - s * (((b - t : Nat) : Int) * ((r - l : Nat) : Int))
/-- It is that of some part with cells. -/
def IsVal (h : List (List Int)) (s : Int) (n m : Nat) (v : Int) : Prop := ∃ t b l r : Nat, t < b ∧ b ≤ n ∧ l < r ∧ r ≤ m ∧ v = valS h s t l b r
def greatL (h : List (List Int)) (s : Int) (n m : Nat) : Int := mxTo (fun b => mxTo (fun t => mxTo (fun r => mxTo (fun l => valS h s t l (b + 1) (r + 1)) (r + 1)) m) (b + 1)) n
theorem greatL_best (h : List (List Int)) (s : Int) (n m : Nat) : Bst (IsVal h s n m) (greatL h s n m) := by
  refine (mxTo_bests _ (fun b v => ∃ t, t < b + 1 ∧ ∃ r, r < m ∧ ∃ l, l < r + 1 ∧ v = valS h s t l (b + 1) (r + 1)) n fun b _ =>
    mxTo_bests _ (fun t v => ∃ r, r < m ∧ ∃ l, l < r + 1 ∧ v = valS h s t l (b + 1) (r + 1)) _ fun t _ =>
      mxTo_bests _ (fun r v => ∃ l, l < r + 1 ∧ v = valS h s t l (b + 1) (r + 1)) _ fun r _ => mxTo_best _ _).congr fun v => ⟨?_, ?_⟩
  · rintro ⟨b, hb, t, ht, r, hr, l, hl, e⟩
    exact ⟨t, b + 1, l, r + 1, ht, by omega, hl, by omega, e⟩
  · rintro ⟨t, b, l, r, ht, hb, hl, hr, e⟩
    refine ⟨b - 1, by omega, t, by omega, r - 1, by omega, l, by omega, ?_⟩
    rw [show b - 1 + 1 = b by omega, show r - 1 + 1 = r by omega]
    exact e
theorem sumTo_constS (s : Int) : ∀ k : Nat, sumTo (fun _ => s) k = s * k
  | 0 => by simp [sumTo]
  | k + 1 => by rw [sumTo, sumTo_constS s k]; grind
/-- The sum of column j, each number less s. -/
def colS (h : List (List Int)) (s : Int) (t b j : Nat) : Int := sumTo (fun i => cellS h (t + i) j - s) (b - t)
theorem valS_cols (h : List (List Int)) (s : Int) (t l b r : Nat) : valS h s t l b r = sumTo (fun j => colS h s t b (l + j)) (r - l) := by
  have e : ∀ j, colS h s t b j = sumTo (fun i => cellS h (t + i) j) (b - t) - s * ((b - t : Nat) : Int) := fun j => by
    unfold colS
    rw [sumTo_sub, sumTo_constS]
  rw [sumTo_congr (fun j _ => e (l + j)), sumTo_sub, sumTo_constS, ← sumTo_swap (fun i j => cellS h (t + i) (l + j))]
  unfold valS partS
  grind
theorem valS_next (h : List (List Int)) (s : Int) (t l b c : Nat) (hl : l ≤ c) : valS h s t l b (c + 1) = valS h s t l b c + colS h s t b c := by
  rw [valS_cols, valS_cols, show c + 1 - l = c - l + 1 by omega, sumTo, show l + (c - l) = c by omega]
theorem valS_one (h : List (List Int)) (s : Int) (t b c : Nat) : valS h s t c b (c + 1) = colS h s t b c := by
  rw [valS_cols, show c + 1 - c = 1 by omega]
  simp [sumTo]
theorem colS_next (h : List (List Int)) (s : Int) (t b j : Nat) (ht : t ≤ b) : colS h s t (b + 1) j = colS h s t b j + (cellS h b j - s) := by
  unfold colS
  rw [show b + 1 - t = b - t + 1 by omega, sumTo, show t + (b - t) = b by omega]
/-- Sums of columns that end at c. -/
theorem kad_next {h : List (List Int)} {s : Int} {t b c : Nat} {x : Int} (hx : Bst (fun v => ∃ l, l < c ∧ v = valS h s t l b c) x) :
    Bst (fun v => ∃ l, l < c + 1 ∧ v = valS h s t l b (c + 1)) (max (x + colS h s t b c) 0) := by
  refine (hx.next (colS h s t b c)).congr fun v => ⟨?_, ?_⟩
  · rintro (⟨u, ⟨l, hl, rfl⟩, rfl⟩ | rfl)
    · exact ⟨l, by omega, (valS_next h s t l b c (by omega)).symm⟩
    · exact ⟨c, by omega, (valS_one h s t b c).symm⟩
  · rintro ⟨l, hl, rfl⟩
    by_cases e : l = c
    · subst e; exact .inr (valS_one h s t b l)
    · exact .inl ⟨_, ⟨l, by omega, rfl⟩, valS_next h s t l b c (by omega)⟩
theorem valS_bd {h : List (List Int)} {m : Nat} (G : Grid h m) (s : Int) (hs : 0 ≤ s ∧ s ≤ 12) (t l b r : Nat) (hb : b ≤ h.length) (hr : r ≤ m) : -300 ≤ valS h s t l b r ∧ valS h s t l b r ≤ 300 := by
  have h1 := partS_bd G t l b r hb hr
  have hc : (b - t) * (r - l) ≤ 25 := Nat.mul_le_mul (show b - t ≤ 5 by have := G.n5; omega) (show r - l ≤ 5 by have := G.m5; omega)
  have h0 : (0 : Int) ≤ s * (((b - t : Nat) : Int) * ((r - l : Nat) : Int)) := Int.mul_nonneg hs.1 (by rw [← Int.natCast_mul]; omega)
  have h2 : s * (((b - t : Nat) : Int) * ((r - l : Nat) : Int)) ≤ 12 * 25 := Int.mul_le_mul hs.2 (by rw [← Int.natCast_mul]; omega) (by rw [← Int.natCast_mul]; omega) (by omega)
  unfold valS
  omega
theorem colS_bd {h : List (List Int)} {m : Nat} (G : Grid h m) (s : Int) (hs : 0 ≤ s ∧ s ≤ 12) (t b j : Nat) (hb : b ≤ h.length) (hj : j < m) : -60 ≤ colS h s t b j ∧ colS h s t b j ≤ 60 := by
  have := sumTo_bd (f := fun i => cellS h (t + i) j - s) (-12) 12 (k := b - t) fun i hi => by
    have := G.num (t + i) (by omega) j hj
    unfold cellS
    omega
  have := G.n5
  unfold colS
  omega
/-- As far as rows t up to b, columns up to c: all parts told by earlier rows, and by these rows up to c. -/
def SeenK (h : List (List Int)) (s : Int) (n m t b c : Nat) (v : Int) : Prop :=
  ∃ t' b' l r : Nat, t' < b' ∧ b' ≤ n ∧ l < r ∧ r ≤ m ∧ (t' < t ∨ (t' = t ∧ (b' < b ∨ (b' = b ∧ r ≤ c)))) ∧ v = valS h s t' l b' r
theorem mem_take_succ {α : Type} (xs : List α) (d : α) (k : Nat) (h : k < xs.length) (y : α) : y ∈ xs.take (k + 1) ↔ y ∈ xs.take k ∨ y = xs.getD k d := by
  rw [List.take_succ_eq_append_getElem h, List.mem_append]
  simp [h]
def valP (h : List (List Int)) (s : Int) (x y : Int × Int) : Int := valS h s x.1.toNat y.1.toNat x.2.toNat y.2.toNat
/-- Told by the first k spans of rows. -/
def SeenR (h : List (List Int)) (s : Int) (A B : List (Int × Int)) (k : Nat) (v : Int) : Prop := ∃ x, x ∈ A.take k ∧ ∃ y, y ∈ B ∧ v = valP h s x y
/-- Told by the span of rows x and the first q spans of columns. -/
def SeenC (h : List (List Int)) (s : Int) (B : List (Int × Int)) (x : Int × Int) (q : Nat) (v : Int) : Prop := ∃ y, y ∈ B.take q ∧ v = valP h s x y
theorem seenR_zero (h : List (List Int)) (s : Int) (A B : List (Int × Int)) : Bst (SeenR h s A B 0) 0 := Bst.none fun v ⟨x, hx, _⟩ => by simp at hx
theorem seenC_zero {h : List (List Int)} {s : Int} {A B : List (Int × Int)} {k : Nat} {x : Int × Int} {g : Int} (hb : Bst (SeenR h s A B k) g) : Bst (fun v => SeenR h s A B k v ∨ SeenC h s B x 0 v) g :=
  hb.congr fun v => ⟨.inl, fun e => e.elim id fun ⟨y, hy, _⟩ => by simp at hy⟩
theorem seenC_next {h : List (List Int)} {s : Int} {A B : List (Int × Int)} {k q : Nat} {x : Int × Int} {g : Int} (hq : q < B.length) (hb : Bst (fun v => SeenR h s A B k v ∨ SeenC h s B x q v) g) :
    Bst (fun v => SeenR h s A B k v ∨ SeenC h s B x (q + 1) v) (max g (valP h s x (B.getD q (0, 0)))) := by
  refine (hb.add (valP h s x (B.getD q (0, 0)))).congr fun v => ⟨?_, ?_⟩
  · rintro ((e | ⟨y, hy, e⟩) | e)
    · exact .inl e
    · exact .inr ⟨y, (mem_take_succ B (0, 0) q hq y).2 (.inl hy), e⟩
    · exact .inr ⟨_, (mem_take_succ B (0, 0) q hq _).2 (.inr rfl), e⟩
  · rintro (e | ⟨y, hy, e⟩)
    · exact .inl (.inl e)
    · rcases (mem_take_succ B (0, 0) q hq y).1 hy with hy | rfl
      · exact .inl (.inr ⟨y, hy, e⟩)
      · exact .inr e
theorem seenR_next {h : List (List Int)} {s : Int} {A B : List (Int × Int)} {k : Nat} {g : Int} (hk : k < A.length) (hb : Bst (fun v => SeenR h s A B k v ∨ SeenC h s B (A.getD k (0, 0)) B.length v) g) : Bst (SeenR h s A B (k + 1)) g := by
  refine hb.congr fun v => ⟨?_, ?_⟩
  · rintro (⟨x, hx, y, hy, e⟩ | ⟨y, hy, e⟩)
    · exact ⟨x, (mem_take_succ A (0, 0) k hk x).2 (.inl hx), y, hy, e⟩
    · rw [List.take_length] at hy
      exact ⟨_, (mem_take_succ A (0, 0) k hk _).2 (.inr rfl), y, hy, e⟩
  · rintro ⟨x, hx, y, hy, e⟩
    rcases (mem_take_succ A (0, 0) k hk x).1 hx with hx | rfl
    · exact .inl ⟨x, hx, y, hy, e⟩
    · exact .inr ⟨y, by rw [List.take_length]; exact hy, e⟩
/-- All spans of n rows. -/
def IsSpans (n : Nat) (A : List (Int × Int)) : Prop := ∀ x, x ∈ A ↔ ∃ f e : Nat, f < e ∧ e ≤ n ∧ x = ((f : Int), (e : Int))
theorem seenR_all {h : List (List Int)} {s : Int} {n m : Nat} {A B : List (Int × Int)} {g : Int} (hA : IsSpans n A) (hB : IsSpans m B) (hb : Bst (SeenR h s A B A.length) g) : g = greatL h s n m := by
  refine Bst.unique (P := IsVal h s n m) (hb.congr fun v => ⟨?_, ?_⟩) (greatL_best h s n m)
  · rintro ⟨x, hx, y, hy, rfl⟩
    rw [List.take_length] at hx
    obtain ⟨t, b, h1, h2, rfl⟩ := (hA x).1 hx
    obtain ⟨l, r, h3, h4, rfl⟩ := (hB y).1 hy
    exact ⟨t, b, l, r, h1, h2, h3, h4, by simp [valP]⟩
  · rintro ⟨t, b, l, r, h1, h2, h3, h4, rfl⟩
    exact ⟨((t : Int), (b : Int)), by rw [List.take_length]; exact (hA _).2 ⟨t, b, h1, h2, rfl⟩, ((l : Int), (r : Int)), (hB _).2 ⟨l, r, h3, h4, rfl⟩, by simp [valP]⟩
theorem IsSpans.at {n : Nat} {A : List (Int × Int)} (hA : IsSpans n A) (k : Nat) (hk : k < A.length) : ∃ f e : Nat, f < e ∧ e ≤ n ∧ A.getD k (0, 0) = ((f : Int), (e : Int)) := by
  have := (hA (A.getD k (0, 0))).1 (by rw [List.getD_eq_getElem?_getD, List.getElem?_eq_getElem hk]; exact List.getElem_mem hk)
  exact this
theorem valS_is (h : List (List Int)) (s : Int) (t l b r : Nat) (h1 : t ≤ b) (h2 : l ≤ r) : partS h t l b r - s * (((b : Int) - t) * ((r : Int) - l)) = valS h s t l b r := by
  unfold valS
  rw [Int.ofNat_sub h1, Int.ofNat_sub h2]
end Go.Proofs.Ytkeeonjbkfgeeaa
