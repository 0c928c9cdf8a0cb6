/- Smooth rows by blocks, as lists. -/
import Derived.Test.YtlifjhhjkcmneaaMeansM
namespace Go.Proofs.Ytlifjhhjkcmneaa
open Go.RowKit

/-- A block has a greater mean than the next one, or one as great. -/
def mustJ (c b : Int × Int) : Prop := b.1 * c.2 ≤ c.1 * b.2
instance (c b : Int × Int) : Decidable (mustJ c b) := by unfold mustJ; infer_instance
/-- The block b is put behind the first m of L. -/
def pushN (L : List (Int × Int)) : Nat → Int × Int → List (Int × Int)
  | 0, b => [b]
  | m + 1, b => if mustJ (L.getD m (0, 0)) b then pushN L m ((L.getD m (0, 0)).1 + b.1, (L.getD m (0, 0)).2 + b.2) else L.take (m + 1) ++ [b]
def stackP (p : List Int) : Nat → List (Int × Int)
  | 0 => []
  | k + 1 => pushN (stackP p k) (stackP p k).length (p.getD k 0, 1)
/-- All places of all blocks. -/
def spread (L : List (Int × Int)) : List (Int × Int) := L.flatMap fun b => List.replicate b.2.toNat (frL b.1.toNat b.2.toNat)
def stackX (p : List Int) : List (Int × Int) := if vProf p = true then spread (stackP p p.length) else []

def okB (b : Int × Int) : Prop := (0 ≤ b.1 ∧ b.1 ≤ 12 * b.2) ∧ 1 ≤ b.2
/-- How many places the first m blocks have. -/
def sizeT (L : List (Int × Int)) (m : Nat) : Int := sumTo (fun j => (L.getD j (0, 0)).2) m
theorem sizeT_ge (L : List (Int × Int)) : ∀ m, (∀ j, j < m → okB (L.getD j (0, 0))) → (m : Int) ≤ sizeT L m
  | 0, _ => Int.le_refl _
  | m + 1, h => by
    have ih := sizeT_ge L m fun j hj => h j (by omega)
    have hm := (h m (by omega)).2
    have e : sizeT L (m + 1) = sizeT L m + (L.getD m (0, 0)).2 := rfl
    omega
theorem sizeT_each (L : List (Int × Int)) : ∀ m, (∀ j, j < m → okB (L.getD j (0, 0))) → ∀ j, j < m → (L.getD j (0, 0)).2 ≤ sizeT L m
  | 0, _, j, hj => absurd hj (Nat.not_lt_zero _)
  | m + 1, h, j, hj => by
    have ih := sizeT_each L m fun j hj => h j (by omega)
    have hg := sizeT_ge L m fun j hj => h j (by omega)
    have hm := (h m (by omega)).2
    have e : sizeT L (m + 1) = sizeT L m + (L.getD m (0, 0)).2 := rfl
    by_cases ej : j = m
    · subst ej; omega
    · have := ih j (by omega); omega
def goodL (L : List (Int × Int)) (k : Nat) : Prop := (∀ j, j < L.length → okB (L.getD j (0, 0))) ∧ sizeT L L.length = k
theorem getD_snoc (L : List (Int × Int)) (b : Int × Int) (m j : Nat) (hm : m ≤ L.length) (hj : j ≤ m) : (L.take m ++ [b]).getD j (0, 0) = if j < m then L.getD j (0, 0) else b := by
  by_cases h : j < m
  · rw [if_pos h]
    simp only [List.getD_eq_getElem?_getD]
    rw [List.getElem?_append_left (by simp; omega), List.getElem?_take_of_lt h]
  · obtain rfl : j = m := by omega
    rw [if_neg h]
    simp only [List.getD_eq_getElem?_getD]
    rw [List.getElem?_append_right (by simp; omega)]
    have : j - (L.take j).length = 0 := by simp; omega
    rw [this]; rfl
theorem goodL_snoc {L : List (Int × Int)} {m k : Nat} {b : Int × Int} (hm : m ≤ L.length) (hL : ∀ j, j < m → okB (L.getD j (0, 0))) (hb : okB b) (hs : sizeT L m + b.2 = k) : goodL (L.take m ++ [b]) k := by
  have hl : (L.take m ++ [b]).length = m + 1 := by simp; omega
  refine ⟨fun j hj => ?_, ?_⟩
  · rw [getD_snoc L b m j hm (by omega)]
    split
    · exact hL j (by omega)
    · exact hb
  · rw [hl]
    have e : sizeT (L.take m ++ [b]) (m + 1) = sizeT (L.take m ++ [b]) m + ((L.take m ++ [b]).getD m (0, 0)).2 := rfl
    have e2 : sizeT (L.take m ++ [b]) m = sizeT L m := sumTo_congr fun j hj => by rw [getD_snoc L b m j hm (by omega), if_pos hj]
    rw [e, e2, getD_snoc L b m m hm (Nat.le_refl _), if_neg (Nat.lt_irrefl _)]
    exact hs
theorem pushN_good {L : List (Int × Int)} : ∀ (m : Nat) (b : Int × Int) (k : Nat), m ≤ L.length → (∀ j, j < m → okB (L.getD j (0, 0))) → okB b → sizeT L m + b.2 = k → goodL (pushN L m b) k
  | 0, b, k, hm, hL, hb, hs => by
    have := goodL_snoc (L := L) (m := 0) hm hL hb hs
    simpa [pushN] using this
  | m + 1, b, k, hm, hL, hb, hs => by
    rw [pushN]
    have hl := hL m (by omega)
    have e : sizeT L (m + 1) = sizeT L m + (L.getD m (0, 0)).2 := rfl
    split
    · refine pushN_good m _ k (by omega) (fun j hj => hL j (by omega)) ?_ ?_
      · unfold okB at hl hb ⊢; simp only; omega
      · simp only; omega
    · exact goodL_snoc hm hL hb hs
theorem stackP_good {p : List Int} (hp : vProf p = true) : ∀ k, k ≤ p.length → goodL (stackP p k) k
  | 0, _ => ⟨fun j hj => absurd hj (Nat.not_lt_zero _), rfl⟩
  | k + 1, h => by
    have ih := stackP_good hp k (by omega)
    have hb := ((vProf_iff p).1 hp).2.2 k (by omega)
    exact pushN_good _ _ _ (Nat.le_refl _) ih.1 ⟨by simp only; omega, Int.le_refl _⟩ (by rw [ih.2]; simp)
theorem goodL_len {L : List (Int × Int)} {k : Nat} (h : goodL L k) : L.length ≤ k := by
  have := sizeT_ge L L.length h.1
  rw [h.2] at this
  omega
theorem goodL_each {L : List (Int × Int)} {k : Nat} (h : goodL L k) (j : Nat) (hj : j < L.length) : okB (L.getD j (0, 0)) ∧ (L.getD j (0, 0)).2 ≤ k := by
  refine ⟨h.1 j hj, ?_⟩
  rw [← h.2]
  exact sizeT_each L _ h.1 j hj
theorem frL_scale (u d k : Nat) (hk : 1 ≤ k) : frL (u * k) (d * k) = frL u d := by
  unfold frL
  rw [Nat.gcd_mul_right, Nat.mul_div_mul_right _ _ hk, Nat.mul_div_mul_right _ _ hk]
theorem cmp4 {X1 X2 Y1 Y2 s t u v : Int} (h1 : X1 * t = s * X2) (h2 : Y1 * v = u * Y2) (hX : 1 ≤ X2) (hY : 1 ≤ Y2) (ht : 1 ≤ t) (hv : 1 ≤ v) : Y1 * X2 ≤ X1 * Y2 ↔ u * t ≤ s * v := by
  have htv : 0 < t * v := Int.mul_pos (by omega) (by omega)
  have hXY : 0 < X2 * Y2 := Int.mul_pos (by omega) (by omega)
  have e1 : Y1 * X2 * (t * v) = u * t * (X2 * Y2) := by
    have : Y1 * X2 * (t * v) = (Y1 * v) * (X2 * t) := by grind
    rw [this, h2]; grind
  have e2 : X1 * Y2 * (t * v) = s * v * (X2 * Y2) := by
    have : X1 * Y2 * (t * v) = (X1 * t) * (Y2 * v) := by grind
    rw [this, h1]; grind
  constructor
  · intro h
    have h3 := Int.mul_le_mul_of_nonneg_right h (Int.le_of_lt htv)
    rw [e1, e2] at h3
    exact Int.le_of_mul_le_mul_right h3 hXY
  · intro h
    have h3 := Int.mul_le_mul_of_nonneg_right h (Int.le_of_lt hXY)
    rw [← e1, ← e2] at h3
    exact Int.le_of_mul_le_mul_right h3 htv
/-- The means' own comparison. -/
theorem mustJ_means (s t u v : Nat) (ht : 1 ≤ t) (hv : 1 ≤ v) : mustJ ((s : Int), (t : Int)) ((u : Int), (v : Int)) ↔ (frL s t = frL u v ∨ 0 < cmpF ((frL s t).1 * (frL u v).2) ((frL u v).1 * (frL s t).2)) := by
  have h1 := frL_val s t
  have h2 := frL_val u v
  have p1 := frL_pos' (u := s) ht
  have p2 := frL_pos' (u := u) hv
  have c1 := cmp4 h1 h2 p1 p2 (by omega) (by omega)
  have c2 := cmp4 h2 h1 p2 p1 (by omega) (by omega)
  rw [cmpF_gt]
  unfold mustJ
  simp only
  constructor
  · intro h
    by_cases he : (s : Int) * v ≤ (u : Int) * t
    · left
      have h7 : s * v = u * t := by
        have : (s : Int) * v = (u : Int) * t := by omega
        exact_mod_cast this
      rw [← frL_scale s t v hv, h7, Nat.mul_comm t v, frL_scale u v t ht]
    · right
      have : ¬ (frL s t).1 * (frL u v).2 ≤ (frL u v).1 * (frL s t).2 := fun c => he (c2.1 c)
      omega
  · rintro (h | h)
    · rw [h] at c1
      exact c1.1 (Int.le_refl _)
    · exact c1.1 (Int.le_of_lt h)
end Go.Proofs.Ytlifjhhjkcmneaa
