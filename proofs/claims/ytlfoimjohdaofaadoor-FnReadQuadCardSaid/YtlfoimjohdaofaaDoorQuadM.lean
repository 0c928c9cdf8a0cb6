/- Texts of parts by quarters, as lists. -/
import Derived.Test.YtlfoimjohdaofaaDoorSumM
import Derived.Test.YtlfoimjohdaofaaDoorNumS
namespace Go.Proofs.YtlfoimjohdaofaaDoor
open Go.RowKit

/-! Texts of parts by quarters. -/
/-- The numbers of the first k rows of a part. -/
def htsL (f : Nat → Nat → Int) (t l r k : Nat) : List Int := (List.range k).flatMap fun i => (List.range (r - l)).map fun j => f (t + i) (l + j)
theorem htsL_next (f : Nat → Nat → Int) (t l r k : Nat) : htsL f t l r (k + 1) = htsL f t l r k ++ (List.range (r - l)).map fun j => f (t + k) (l + j) := by
  unfold htsL
  rw [List.range_succ, List.flatMap_append]
  simp
theorem htsL_len (f : Nat → Nat → Int) (t l r k : Nat) : (htsL f t l r k).length = k * (r - l) := by
  induction k with
  | zero => simp [htsL]
  | succ k ih => rw [htsL_next, List.length_append, ih, List.length_map, List.length_range, Nat.succ_mul]
theorem htsL_mem (f : Nat → Nat → Int) (t l r k : Nat) (x : Int) : x ∈ htsL f t l r k ↔ ∃ i j, i < k ∧ j < r - l ∧ x = f (t + i) (l + j) := by
  unfold htsL
  simp only [List.mem_flatMap, List.mem_map, List.mem_range]
  constructor
  · rintro ⟨i, hi, j, hj, rfl⟩; exact ⟨i, j, hi, hj, rfl⟩
  · rintro ⟨i, j, hi, hj, rfl⟩; exact ⟨i, hi, j, hj, rfl⟩
theorem htsL_first (f : Nat → Nat → Int) (t l r k : Nat) (hk : 0 < k) (hl : l < r) : (htsL f t l r k).getD 0 0 = f t l := by
  obtain ⟨k, rfl⟩ : ∃ k', k = k' + 1 := ⟨k - 1, by omega⟩
  obtain ⟨d, hd⟩ : ∃ d, r - l = d + 1 := ⟨r - l - 1, by omega⟩
  simp [htsL, hd, List.range_succ_eq_map]
theorem row_part {row : List Int} {f : Nat → Int} {m l r : Nat} (hlen : row.length = m) (hr : r ≤ m) (hf : ∀ j, j < m → row.getD j 0 = f j) : (row.drop l).take (r - l) = (List.range (r - l)).map fun j => f (l + j) := by
  apply List.ext_getElem
  · simp; omega
  · intro j h1 h2
    simp only [List.length_map, List.length_range] at h2
    have := hf (l + j) (by omega)
    have hlt : l + j < row.length := by omega
    simp only [List.getElem_take, List.getElem_drop, List.getElem_map, List.getElem_range]
    rw [← this]
    simp [hlt]
/-- The row at which the lower half begins. -/
def midQ (a b : Nat) : Nat := b - (b - a) / 2
theorem midQ_bd (a b : Nat) (h : a ≤ b) : a ≤ midQ a b ∧ midQ a b ≤ b := by unfold midQ; omega
theorem midQ_less (a b : Nat) (h : a + 2 ≤ b) : midQ a b - a < b - a ∧ b - midQ a b < b - a := by unfold midQ; omega
theorem midQ_le (a b : Nat) (h : a ≤ b) : midQ a b - a ≤ b - a ∧ b - midQ a b ≤ b - a := by unfold midQ; omega
theorem midQ_spec (a b : Nat) (h : a ≤ b) : (a + b + 1) / 2 = midQ a b := by unfold midQ; omega
/-- Has the part one height? -/
def evenQ (f : Nat → Nat → Int) (t l b r : Nat) : Bool := (List.range (b - t)).all fun i => (List.range (r - l)).all fun j => f (t + i) (l + j) == f t l
theorem evenQ_iff (f : Nat → Nat → Int) (t l b r : Nat) : evenQ f t l b r = true ↔ ∀ i j, i < b - t → j < r - l → f (t + i) (l + j) = f t l := by
  unfold evenQ
  simp only [List.all_eq_true, List.mem_range, beq_iff_eq]
  exact ⟨fun h i j hi hj => h i hi j hj, fun h i hi j hj => h i j hi hj⟩
/-- One that is not even has two rows or two columns. -/
theorem evenQ_big (f : Nat → Nat → Int) (t l b r : Nat) (h : evenQ f t l b r = false) : t + 2 ≤ b ∨ l + 2 ≤ r := by
  by_cases h1 : t + 2 ≤ b ∨ l + 2 ≤ r
  · exact h1
  · exfalso
    have : evenQ f t l b r = true := (evenQ_iff f t l b r).2 fun i j hi hj => by
      obtain rfl : i = 0 := by omega
      obtain rfl : j = 0 := by omega
      rfl
    rw [h] at this
    cases this
/-- The least is the greatest exactly if it has one height. -/
theorem even_minmax {f : Nat → Nat → Int} {t l b r : Nat} (htb : t < b) (hlr : l < r) {x y : Int} (hx : x ∈ htsL f t l r (b - t) ∧ ∀ z, z ∈ htsL f t l r (b - t) → x ≤ z) (hy : y ∈ htsL f t l r (b - t) ∧ ∀ z, z ∈ htsL f t l r (b - t) → z ≤ y) : (x == y) = evenQ f t l b r := by
  rw [Bool.eq_iff_iff, beq_iff_eq, evenQ_iff]
  have h0 : f t l ∈ htsL f t l r (b - t) := (htsL_mem _ _ _ _ _ _).2 ⟨0, 0, by omega, by omega, rfl⟩
  constructor
  · rintro rfl i j hi hj
    have hm : f (t + i) (l + j) ∈ htsL f t l r (b - t) := (htsL_mem _ _ _ _ _ _).2 ⟨i, j, hi, hj, rfl⟩
    have := hx.2 _ hm
    have := hy.2 _ hm
    have := hx.2 _ h0
    have := hy.2 _ h0
    omega
  · intro h
    have e : ∀ z, z ∈ htsL f t l r (b - t) → z = f t l := fun z hz => by
      obtain ⟨i, j, hi, hj, rfl⟩ := (htsL_mem _ _ _ _ _ _).1 hz
      exact h i j hi hj
    rw [e x hx.1, e y hy.1]
/-- The text of a part by quarters; k is more than its rows and columns. -/
def qT (f : Nat → Nat → Int) : Nat → Nat → Nat → Nat → Nat → ByteArray
  | 0, _, _, _, _ => ⟨#[]⟩
  | k + 1, t, l, b, r =>
    if t = b ∨ l = r then ⟨#[46]⟩
    else if evenQ f t l b r = true then numS (f t l).toNat ++ ⟨#[59]⟩
    else ⟨#[40]⟩ ++ qT f k t l (midQ t b) (midQ l r) ++ qT f k t (midQ l r) (midQ t b) r ++ qT f k (midQ t b) l b (midQ l r) ++ qT f k (midQ t b) (midQ l r) b r ++ ⟨#[41]⟩
/-- The quarters of a part are smaller. -/
theorem quarters_less {f : Nat → Nat → Int} {t l b r k : Nat} (htb : t ≤ b) (hlr : l ≤ r) (hk : (b - t) + (r - l) < k + 1) (he : evenQ f t l b r = false) :
    (midQ t b - t) + (midQ l r - l) < k ∧ (midQ t b - t) + (r - midQ l r) < k ∧ (b - midQ t b) + (midQ l r - l) < k ∧ (b - midQ t b) + (r - midQ l r) < k := by
  have h1 := midQ_le t b htb
  have h2 := midQ_le l r hlr
  rcases evenQ_big f t l b r he with h | h
  · have := midQ_less t b h
    omega
  · have := midQ_less l r h
    omega
end Go.Proofs.YtlfoimjohdaofaaDoor
