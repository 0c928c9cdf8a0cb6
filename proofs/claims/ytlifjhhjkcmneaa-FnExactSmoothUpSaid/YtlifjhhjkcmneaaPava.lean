/- The stack of blocks gives the smooth heights by means (lists only). -/
import Derived.Test.YtlifjhhjkcmneaaStackM
namespace Go.Proofs.Ytlifjhhjkcmneaa
open Go.RowKit

/-- Where the block j begins. -/
def stN (L : List (Int × Int)) (j : Nat) : Int := sizeT L j
/-- The block from x0 up to x1 has the sum of b, and no beginning of it has a mean below its own. -/
def Blk (p : List Int) (b : Int × Int) (x0 x1 : Nat) : Prop := (b.1 = sumK p x1 - sumK p x0 ∧ b.2 = (x1 : Int) - x0 ∧ x0 < x1) ∧ ∀ x, x0 ≤ x → x ≤ x1 → b.1 * ((x : Int) - x0) ≤ (sumK p x - sumK p x0) * b.2
theorem Blk.one (p : List Int) (k : Nat) : Blk p (p.getD k 0, 1) k (k + 1) := by
  have e : sumK p (k + 1) = sumK p k + p.getD k 0 := rfl
  refine ⟨⟨by simp only; omega, by simp only; omega, Nat.lt_succ_self _⟩, fun x h1 h2 => ?_⟩
  simp only
  by_cases h : x = k
  · subst h; simp
  · obtain rfl : x = k + 1 := by omega
    rw [e]
    have : ((k + 1 : Nat) : Int) - k = 1 := by omega
    rw [this]; omega
/-- The rest of a block has no mean above its own. -/
theorem Blk.back {p : List Int} {b : Int × Int} {x0 x1 : Nat} (h : Blk p b x0 x1) (x : Nat) (h1 : x0 ≤ x) (h2 : x ≤ x1) : (sumK p x1 - sumK p x) * b.2 ≤ b.1 * ((x1 : Int) - x) := by
  obtain ⟨⟨e1, e2, _⟩, hp⟩ := h
  have := hp x h1 h2
  obtain ⟨b1, b2⟩ := b
  simp only at e1 e2 this ⊢
  have e3 : (x1 : Int) = b2 + x0 := by omega
  have e4 : sumK p x1 = b1 + sumK p x0 := by omega
  rw [e3, e4]
  grind
/-- Two blocks, the first with no lesser mean, are one. -/
theorem Blk.join {p : List Int} {c b : Int × Int} {x0 x1 x2 : Nat} (hc : Blk p c x0 x1) (hb : Blk p b x1 x2) (hm : mustJ c b) : Blk p (c.1 + b.1, c.2 + b.2) x0 x2 := by
  have hbb := fun x h1 h2 => hb.back x h1 h2
  obtain ⟨⟨c1, c2, c3⟩, hcp⟩ := hc
  obtain ⟨⟨b1, b2, b3⟩, _⟩ := hb
  unfold mustJ at hm
  obtain ⟨u, v⟩ := c
  obtain ⟨s, t⟩ := b
  simp only at c1 c2 b1 b2 hm hcp hbb ⊢
  have hv : 0 < v := by omega
  have ht : 0 < t := by omega
  refine ⟨⟨by simp only; omega, by simp only; omega, by omega⟩, fun x h1 h2 => ?_⟩
  simp only
  by_cases hx : x ≤ x1
  · have h3 := hcp x h1 hx
    obtain ⟨d, ed⟩ : ∃ d, (x : Int) - x0 = d := ⟨_, rfl⟩
    obtain ⟨D, eD⟩ : ∃ D, sumK p x - sumK p x0 = D := ⟨_, rfl⟩
    rw [ed, eD] at h3 ⊢
    have hd : 0 ≤ d := by omega
    -- s * v ≤ u * t, u * d ≤ D * v: (u + s) d ≤ D (v + t)
    have h4 := Int.mul_le_mul_of_nonneg_right hm hd
    have h5 := Int.mul_le_mul_of_nonneg_right h3 (Int.le_of_lt ht)
    have h6 : s * d ≤ D * t := by
      refine Int.le_of_mul_le_mul_right (a := v) ?_ hv
      have e1 : s * d * v = s * v * d := by grind
      have e2 : u * t * d = u * d * t := by grind
      have e3 : D * t * v = D * v * t := by grind
      omega
    have e4 : (u + s) * d = u * d + s * d := by grind
    have e5 : D * (v + t) = D * v + D * t := by grind
    omega
  · have h3 := hbb x (by omega) h2
    obtain ⟨d, ed⟩ : ∃ d, (x2 : Int) - x = d := ⟨_, rfl⟩
    obtain ⟨D, eD⟩ : ∃ D, sumK p x2 - sumK p x = D := ⟨_, rfl⟩
    rw [ed, eD] at h3
    have hd : 0 ≤ d := by omega
    have e6 : (x : Int) - x0 = v + t - d := by omega
    have e7 : sumK p x - sumK p x0 = u + s - D := by omega
    rw [e6, e7]
    -- D t ≤ s d, s v ≤ u t: D v ≤ u d
    have h4 := Int.mul_le_mul_of_nonneg_right hm hd
    have h5 := Int.mul_le_mul_of_nonneg_right h3 (Int.le_of_lt hv)
    have h6 : D * v ≤ u * d := by
      refine Int.le_of_mul_le_mul_right (a := t) ?_ ht
      have e1 : D * v * t = D * t * v := by grind
      have e2 : s * d * v = s * v * d := by grind
      have e3 : u * d * t = u * t * d := by grind
      omega
    have e4 : (u + s) * (v + t - d) = (u + s) * (v + t) - u * d - s * d := by grind
    have e5 : (u + s - D) * (v + t) = (u + s) * (v + t) - D * v - D * t := by grind
    omega
/-- The blocks lie side by side from 0 up to k, and their means rise. -/
def Cover (p : List Int) (L : List (Int × Int)) (m k : Nat) (st : Nat → Nat) : Prop :=
  st 0 = 0 ∧ st m = k ∧ (∀ j, j < m → Blk p (L.getD j (0, 0)) (st j) (st (j + 1))) ∧ ∀ j, j + 1 < m → ¬ mustJ (L.getD j (0, 0)) (L.getD (j + 1) (0, 0))
theorem push_cover {p : List Int} {L : List (Int × Int)} {st : Nat → Nat} : ∀ (m : Nat) (b : Int × Int) (k : Nat), m ≤ L.length → Cover p L m (st m) st → Blk p b (st m) k → ∃ st', Cover p (pushN L m b) (pushN L m b).length k st'
  | 0, b, k, hm, hC, hb => by
    refine ⟨fun j => if j = 0 then 0 else k, rfl, by simp [pushN], fun j hj => ?_, fun j hj => ?_⟩
    · simp only [pushN, List.length_cons, List.length_nil] at hj ⊢
      obtain rfl : j = 0 := by omega
      rw [hC.1] at hb
      simpa using hb
    · simp [pushN] at hj
  | m + 1, b, k, hm, hC, hb => by
    have hc := hC.2.2.1 m (Nat.lt_succ_self _)
    by_cases h : mustJ (L.getD m (0, 0)) b
    · have ih := push_cover (p := p) (L := L) (st := st) m ((L.getD m (0, 0)).1 + b.1, (L.getD m (0, 0)).2 + b.2) k (by omega) ⟨hC.1, rfl, fun j hj => hC.2.2.1 j (by omega), fun j hj => hC.2.2.2 j (by omega)⟩ (hc.join hb h)
      have e : pushN L (m + 1) b = pushN L m ((L.getD m (0, 0)).1 + b.1, (L.getD m (0, 0)).2 + b.2) := by rw [pushN, if_pos h]
      rw [e]; exact ih
    · have e : pushN L (m + 1) b = L.take (m + 1) ++ [b] := by rw [pushN, if_neg h]
      have hl : (L.take (m + 1) ++ [b]).length = m + 2 := by simp; omega
      rw [e, hl]
      refine ⟨fun j => if j = m + 2 then k else st j, by simp [hC.1], by simp, fun j hj => ?_, fun j hj => ?_⟩
      · rw [getD_snoc L b (m + 1) j hm (by omega)]
        by_cases hj1 : j < m + 1
        · have := hC.2.2.1 j hj1
          simpa [hj1, show j ≠ m + 2 by omega, show j ≠ m + 1 by omega] using this
        · obtain rfl : j = m + 1 := by omega
          simpa using hb
      · rw [getD_snoc L b (m + 1) j hm (by omega), getD_snoc L b (m + 1) (j + 1) hm (by omega), if_pos (by omega)]
        by_cases hj1 : j + 1 < m + 1
        · rw [if_pos hj1]; exact hC.2.2.2 j hj1
        · obtain rfl : j = m := by omega
          rw [if_neg hj1]; exact h
theorem stack_cover (p : List Int) : ∀ k, ∃ st, Cover p (stackP p k) (stackP p k).length k st
  | 0 => ⟨fun _ => 0, rfl, rfl, fun j hj => absurd hj (Nat.not_lt_zero _), fun j hj => absurd hj (Nat.not_lt_zero _)⟩
  | k + 1 => by
    obtain ⟨st, hC⟩ := stack_cover p k
    have hb := Blk.one p k
    rw [← hC.2.1] at hb
    exact push_cover _ _ _ (Nat.le_refl _) ⟨hC.1, rfl, hC.2.2.1, hC.2.2.2⟩ (by rw [hC.2.1] at hb ⊢; exact hb)
end Go.Proofs.Ytlifjhhjkcmneaa
