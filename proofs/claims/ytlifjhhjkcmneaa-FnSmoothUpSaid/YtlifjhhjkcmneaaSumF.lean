/- Smooth heights do not fall, and together they are the heights (lists only). -/
import Derived.Test.YtlifjhhjkcmneaaPava2
namespace Go.Proofs.Ytlifjhhjkcmneaa
open Go.RowKit

theorem best_one {p : List Int} (i : Nat) (hi : i < p.length) : 1 ≤ (bestF' p i).2 := by
  obtain ⟨_, _, a, b, h1, h2, _, e⟩ := bestF_is p i hi
  rw [e]; exact mF_one p a b (by omega)
/-- No smooth height is less than the one ahead of it. -/
theorem best_rise {p : List Int} (i : Nat) (hi : i + 1 < p.length) : leF (bestF' p i) (bestF' p (i + 1)) := by
  obtain ⟨⟨a, ha, h1⟩, _⟩ := bestF_is p i (by omega)
  obtain ⟨_, h2, _⟩ := bestF_is p (i + 1) hi
  obtain ⟨b, hb1, hb2, hb3⟩ := h2 a (by omega)
  exact leF_trans (best_one i (by omega)) (mF_one p a b (by omega)) (best_one (i + 1) hi) (h1 b (by omega) hb2) hb3
/-- One fraction more. -/
theorem frL_add (U S t : Nat) (ht : 1 ≤ t) (x1 y1 x2 y2 : Nat) (h1 : frL U t = ((x1 : Int), (y1 : Int))) (h2 : frL S t = ((x2 : Int), (y2 : Int))) : frL (x1 * y2 + x2 * y1) (y1 * y2) = frL (U + S) t := by
  have v1 := frL_val U t
  have v2 := frL_val S t
  have p1 := frL_pos' (u := U) ht
  have p2 := frL_pos' (u := S) ht
  rw [h1] at v1 p1
  rw [h2] at v2 p2
  simp only at v1 v2 p1 p2
  have v1' : x1 * t = U * y1 := by exact_mod_cast v1
  have v2' : x2 * t = S * y2 := by exact_mod_cast v2
  refine frL_eq (Nat.mul_pos (by omega) (by omega)) ht ?_
  have e1 : (x1 * y2 + x2 * y1) * t = x1 * t * y2 + x2 * t * y1 := by grind
  have e2 : (U + S) * (y1 * y2) = U * y1 * y2 + S * y2 * y1 := by grind
  rw [e1, e2, v1', v2']
/-- The sum of the first smooth heights. -/
def sumS (p : List Int) : Nat → Int × Int
  | 0 => (0, 1)
  | k + 1 => frL ((sumS p k).1.toNat * (bestF' p k).2.toNat + (bestF' p k).1.toNat * (sumS p k).2.toNat) ((sumS p k).2.toNat * (bestF' p k).2.toNat)
theorem frL_whole (a t : Nat) (ht : 1 ≤ t) : frL (a * t) t = ((a : Int), 1) := by
  have := frL_scale a 1 t ht
  rw [Nat.one_mul] at this
  rw [this]
  unfold frL
  simp
theorem frL_nat (u d : Nat) : ∃ x y : Nat, frL u d = ((x : Int), (y : Int)) := ⟨_, _, rfl⟩
theorem sumS_in {p : List Int} (hp : vProf p = true) {L : List (Int × Int)} {m : Nat} {st : Nat → Nat} (h : Cover p L m p.length st) (hL : ∀ j, j < m → okB (L.getD j (0, 0))) (j : Nat) (hj : j < m)
    (h0 : sumS p (st j) = (sumK p (st j), 1)) (hA : 0 ≤ sumK p (st j)) : ∀ d, st j + d ≤ st (j + 1) →
    sumS p (st j + d) = frL ((sumK p (st j)).toNat * (L.getD j (0, 0)).2.toNat + d * (L.getD j (0, 0)).1.toNat) (L.getD j (0, 0)).2.toNat
  | 0, _ => by
    have hok := (hL j hj).2
    rw [Nat.add_zero, h0, Nat.zero_mul, Nat.add_zero, frL_whole _ _ (by omega)]
    refine Prod.ext ?_ rfl
    simp only
    omega
  | d + 1, hd => by
    have hok := hL j hj
    have ih := sumS_in hp h hL j hj h0 hA d (by omega)
    have hb := stack_best hp h hL j hj (st j + d) (by omega) (by omega)
    obtain ⟨U, eU⟩ : ∃ U, (sumK p (st j)).toNat * (L.getD j (0, 0)).2.toNat + d * (L.getD j (0, 0)).1.toNat = U := ⟨_, rfl⟩
    rw [eU] at ih
    obtain ⟨t, et⟩ : ∃ t, (L.getD j (0, 0)).2.toNat = t := ⟨_, rfl⟩
    obtain ⟨s, es⟩ : ∃ s, (L.getD j (0, 0)).1.toNat = s := ⟨_, rfl⟩
    have ht : 1 ≤ t := by have := hok.2; omega
    rw [et] at ih hb eU ⊢
    rw [es] at hb eU ⊢
    obtain ⟨x1, y1, e1⟩ := frL_nat U t
    obtain ⟨x2, y2, e2⟩ := frL_nat s t
    rw [show st j + (d + 1) = st j + d + 1 by omega, sumS, ih, hb, e1, e2]
    simp only [Int.toNat_natCast]
    rw [frL_add U s t ht x1 y1 x2 y2 e1 e2]
    congr 1
    rw [← eU]; grind
theorem sumS_at {p : List Int} (hp : vProf p = true) {L : List (Int × Int)} {m : Nat} {st : Nat → Nat} (h : Cover p L m p.length st) (hL : ∀ j, j < m → okB (L.getD j (0, 0))) (hA : ∀ x, x ≤ p.length → 0 ≤ sumK p x) : ∀ j, j ≤ m → sumS p (st j) = (sumK p (st j), 1)
  | 0, _ => by rw [h.1]; rfl
  | j + 1, hj => by
    have ih := sumS_at hp h hL hA j (by omega)
    have hend := h.mono (j + 1) (m - (j + 1)) (by omega)
    rw [show j + 1 + (m - (j + 1)) = m by omega, h.2.1] at hend
    have hpos := (h.pos (show j < m by omega)).2
    have hok := hL j (by omega)
    obtain ⟨⟨q1, q2, q3⟩, _⟩ := h.2.2.1 j (by omega)
    have := sumS_in hp h hL j (by omega) ih (hA _ (by omega)) (st (j + 1) - st j) (by omega)
    rw [show st j + (st (j + 1) - st j) = st (j + 1) by omega] at this
    rw [this]
    have ea := hA (st j) (by omega)
    unfold okB at hok
    obtain ⟨t, et⟩ : ∃ t, (L.getD j (0, 0)).2.toNat = t := ⟨_, rfl⟩
    obtain ⟨s, es⟩ : ∃ s, (L.getD j (0, 0)).1.toNat = s := ⟨_, rfl⟩
    have ed : st (j + 1) - st j = t := by omega
    rw [et, es, ed]
    have ht : 1 ≤ t := by omega
    have e : (sumK p (st j)).toNat * t + t * s = ((sumK p (st j)).toNat + s) * t := by grind
    rw [e, frL_whole _ _ ht]
    refine Prod.ext ?_ rfl
    simp only
    omega
/-- Together the smooth heights are the heights. -/
theorem sumS_all {p : List Int} (hp : vProf p = true) : sumS p p.length = (sumK p p.length, 1) := by
  obtain ⟨st, h⟩ := stack_cover p p.length
  have hg := stackP_good hp p.length (Nat.le_refl _)
  have := sumS_at hp h hg.1 (fun x hx => by
    have := (sumP_bd hp 0 x hx).1
    have e := sumP_K p 0 x
    rw [Nat.zero_add] at e
    have e0 : sumK p 0 = 0 := rfl
    omega) _ (Nat.le_refl _)
  rwa [h.2.1] at this
end Go.Proofs.Ytlifjhhjkcmneaa
