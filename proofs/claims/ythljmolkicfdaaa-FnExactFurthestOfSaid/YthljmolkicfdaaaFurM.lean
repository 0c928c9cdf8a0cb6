/- The furthest place that is seen, as a recursion. -/
import Derived.Test.YthljmolkicfdaaaSightM
namespace Go.Proofs.Ythljmolkicfdaaa
open Go.RowKit

def furStep (p : List Int) (i last k : Nat) : Nat :=
  if last = i ∨ (p.getD last 0 - p.getD i 0) * ((k : Int) - i) ≤ (p.getD k 0 - p.getD i 0) * ((last : Int) - i) then k else last
def furTo (p : List Int) (i : Nat) : Nat → Nat
  | 0 => i
  | n + 1 => furStep p i (furTo p i n) (i + 1 + n)
def furL (p : List Int) (i : Nat) : Nat := furTo p i (p.length - 1 - i)
theorem furTo_bd (p : List Int) (i n : Nat) : i ≤ furTo p i n ∧ furTo p i n ≤ i + n := by
  induction n with
  | zero => exact ⟨Nat.le_refl _, Nat.le_refl _⟩
  | succ n ih =>
    simp only [furTo, furStep]
    split <;> omega
theorem furTo_pos (p : List Int) (i n : Nat) (h : 1 ≤ n) : i < furTo p i n := by
  induction n with
  | zero => omega
  | succ n ih =>
    simp only [furTo, furStep]
    split
    · omega
    · next hn =>
      have := furTo_bd p i n
      by_cases e : furTo p i n = i
      · exact absurd (.inl e) hn
      · omega

/-- Slopes a/b and c/d: steeper by way of a third one. -/
theorem slope_trans {a b c d e f : Int} (_hb : 0 < b) (hd : 0 < d) (_hf : 0 < f) (h1 : a * d ≤ c * b) (h2 : c * f ≤ e * d) (hb' : 0 ≤ b) (hf' : 0 ≤ f) : a * f ≤ e * b := by
  have h3 : a * d * f ≤ c * b * f := Int.mul_le_mul_of_nonneg_right h1 hf'
  have h4 : c * f * b ≤ e * d * b := Int.mul_le_mul_of_nonneg_right h2 hb'
  have e1 : c * b * f = c * f * b := Int.mul_right_comm c b f
  have e2 : a * d * f = d * (a * f) := by rw [Int.mul_comm a d, Int.mul_assoc]
  have e3 : e * d * b = d * (e * b) := by rw [Int.mul_comm e d, Int.mul_assoc]
  rw [e1] at h3
  rw [e2] at h3
  rw [e3] at h4
  exact Int.le_of_mul_le_mul_left (Int.le_trans h3 h4) hd
theorem slope_trans_lt {a b c d e f : Int} (hd : 0 < d) (hf : 0 < f) (hb : 0 < b) (h1 : a * d ≤ c * b) (h2 : c * f < e * d) : a * f < e * b := by
  have h3 : a * d * f ≤ c * b * f := Int.mul_le_mul_of_nonneg_right h1 (by omega)
  have h4 : c * f * b < e * d * b := Int.mul_lt_mul_of_pos_right h2 hb
  have e1 : c * b * f = c * f * b := Int.mul_right_comm c b f
  have e2 : a * d * f = d * (a * f) := by rw [Int.mul_comm a d, Int.mul_assoc]
  have e3 : e * d * b = d * (e * b) := by rw [Int.mul_comm e d, Int.mul_assoc]
  rw [e1] at h3
  rw [e2] at h3
  rw [e3] at h4
  exact Int.lt_of_mul_lt_mul_left (Int.lt_of_le_of_lt h3 h4) (by omega)

/-- After n steps no line from i is steeper than the last, and those behind it are less steep. -/
theorem furTo_inv (p : List Int) (i n : Nat) (h : 1 ≤ n) : ∀ k, i < k → k ≤ i + n →
    (p.getD k 0 - p.getD i 0) * ((furTo p i n : Int) - i) ≤ (p.getD (furTo p i n) 0 - p.getD i 0) * ((k : Int) - i) ∧
    (furTo p i n < k → (p.getD k 0 - p.getD i 0) * ((furTo p i n : Int) - i) < (p.getD (furTo p i n) 0 - p.getD i 0) * ((k : Int) - i)) := by
  induction n with
  | zero => omega
  | succ n ih =>
    by_cases h0 : n = 0
    · subst h0
      intro k hk1 hk2
      have e : furTo p i (0 + 1) = i + 1 := by simp [furTo, furStep]
      obtain rfl : k = i + 1 := by omega
      rw [e]
      exact ⟨Int.le_refl _, fun h => absurd h (Nat.lt_irrefl _)⟩
    · have ih' := ih (by omega)
      have hb := furTo_bd p i n
      have hp := furTo_pos p i n (by omega)
      obtain ⟨L, hL⟩ : ∃ L, furTo p i n = L := ⟨_, rfl⟩
      have hstep : furTo p i (n + 1) = furStep p i L (i + 1 + n) := by rw [furTo, hL]
      rw [hL] at ih' hb hp
      rw [hstep]
      intro k hk1 hk2
      by_cases hc : L = i ∨ (p.getD L 0 - p.getD i 0) * (((i + 1 + n : Nat) : Int) - i) ≤ (p.getD (i + 1 + n) 0 - p.getD i 0) * ((L : Int) - i)
      · have e : furStep p i L (i + 1 + n) = i + 1 + n := by unfold furStep; rw [if_pos hc]
        rw [e]
        have hle : (p.getD L 0 - p.getD i 0) * (((i + 1 + n : Nat) : Int) - i) ≤ (p.getD (i + 1 + n) 0 - p.getD i 0) * ((L : Int) - i) := by
          rcases hc with hc | hc
          · omega
          · exact hc
        by_cases ek : k = i + 1 + n
        · subst ek
          exact ⟨Int.le_refl _, fun h => absurd h (Nat.lt_irrefl _)⟩
        · have := (ih' k hk1 (by omega)).1
          refine ⟨slope_trans (d := (L : Int) - i) (by omega) (by omega) (by omega) this hle (by omega) (by omega), fun h => by omega⟩
      · have e : furStep p i L (i + 1 + n) = L := by unfold furStep; rw [if_neg hc]
        rw [e]
        by_cases ek : k = i + 1 + n
        · subst ek
          have : ¬ (p.getD L 0 - p.getD i 0) * (((i + 1 + n : Nat) : Int) - i) ≤ (p.getD (i + 1 + n) 0 - p.getD i 0) * ((L : Int) - i) := fun h => hc (.inr h)
          exact ⟨by omega, fun _ => by omega⟩
        · exact ih' k hk1 (by omega)

/-- The furthest place is seen, and none behind it. -/
theorem furL_sees (p : List Int) (i : Nat) (hi : i < p.length) : furL p i < p.length ∧ i ≤ furL p i ∧ seesB p (min i (furL p i)) (max i (furL p i)) = true ∧ ∀ k, furL p i < k → k < p.length → seesB p (min i k) (max i k) = false := by
  have hb := furTo_bd p i (p.length - 1 - i)
  unfold furL
  by_cases h0 : p.length - 1 - i = 0
  · have e : furTo p i (p.length - 1 - i) = i := by rw [h0]; rfl
    rw [e]
    refine ⟨hi, Nat.le_refl _, ?_, fun k h1 h2 => by omega⟩
    rw [Nat.min_self, Nat.max_self, seesB_iff]
    intro x h1 h2
    omega
  · have hp := furTo_pos p i (p.length - 1 - i) (by omega)
    have hinv := furTo_inv p i (p.length - 1 - i) (by omega)
    obtain ⟨L, hL⟩ : ∃ L, furTo p i (p.length - 1 - i) = L := ⟨_, rfl⟩
    rw [hL] at hb hp hinv ⊢
    refine ⟨by omega, by omega, ?_, fun k h1 h2 => ?_⟩
    · rw [show min i L = i by omega, show max i L = L by omega, seesB_iff]
      intro x h1 h2
      exact (hinv x h1 (by omega)).1
    · rw [show min i k = i by omega, show max i k = k by omega]
      exact seesB_false hp h1 ((hinv k (by omega) (by omega)).2 h1)
/-- What FurthestOf answers at all arguments. -/
def furX (p : List Int) (i : Int) : Int := if vProf p = true ∧ 0 ≤ i ∧ i < p.length then furL p i.toNat else -1
end Go.Proofs.Ythljmolkicfdaaa
