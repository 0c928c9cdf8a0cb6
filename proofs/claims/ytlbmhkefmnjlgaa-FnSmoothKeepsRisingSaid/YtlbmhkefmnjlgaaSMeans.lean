/- The contracts of spec.mean and spec.SmoothByMeans. -/
import Derived.Test.YtlbmhkefmnjlgaaLeast
import Derived.Test.YtlbmhkefmnjlgaaSums
namespace Go.Proofs.Ytlbmhkefmnjlgaa
open Go.RowKit

theorem frL_pos {u d : Nat} (hd : 1 ≤ d) : 1 ≤ (frL u d).2 := by
  have h1 : Nat.gcd u d ≤ d := Nat.gcd_le_right _ hd
  have h2 := gcd_one (u := u) hd
  have h3 : 1 ≤ d / Nat.gcd u d := Nat.div_pos h1 h2
  unfold frL
  simp only []
  omega
theorem mF_pos (p : List Int) (a b : Nat) (hab : a ≤ b) : 1 ≤ (mF p a b).2 := frL_pos (by omega)
theorem leastF_pos (p : List Int) (a i : Nat) (hai : a ≤ i) : 1 ≤ (leastF p a i).2 := by
  obtain ⟨y, _, e⟩ := minFn_is (fun d => mF p a (i + d)) (p.length - 1 - i)
  unfold leastF
  rw [e]
  exact mF_pos p a (i + y) (by omega)
/-- The best so far, nothing ahead of the first one. -/
def bestTo (p : List Int) (i : Nat) : Nat → Int × Int
  | 0 => (0, 0)
  | a + 1 => maxFn (fun a => leastF p a i) a
theorem bestTo_ok {p : List Int} (hp : vProf p = true) (i a : Nat) (hi : i < p.length) : okF (bestTo p i a) := by
  cases a with
  | zero => show okF (0, 0); exact ⟨⟨by decide, by decide⟩, by decide, by decide⟩
  | succ a =>
    obtain ⟨y, _, e⟩ := maxFn_is (fun a => leastF p a i) a
    show okF (maxFn _ a)
    rw [e]
    exact leastF_ok hp y i hi
theorem bestTo_next (p : List Int) (i a : Nat) (hai : a ≤ i) : bestTo p i (a + 1) = if (bestTo p i a).2 = 0 ∨ ltF (bestTo p i a) (leastF p a i) then leastF p a i else bestTo p i a := by
  cases a with
  | zero => rw [if_pos (.inl rfl)]; rfl
  | succ a =>
    have hn : ¬ (bestTo p i (a + 1)).2 = 0 := by
      obtain ⟨y, hy, e⟩ := maxFn_is (fun a => leastF p a i) a
      have := leastF_pos p y i (by omega)
      show ¬ (maxFn _ a).2 = 0
      rw [e]
      show ¬ (leastF p y i).2 = 0
      omega
    have e : bestTo p i (a + 1 + 1) = if ltF (bestTo p i (a + 1)) (leastF p (a + 1) i) then leastF p (a + 1) i else bestTo p i (a + 1) := rfl
    rw [e]
    by_cases h : ltF (bestTo p i (a + 1)) (leastF p (a + 1) i)
    · rw [if_pos h, if_pos (Or.inr h)]
    · rw [if_neg h, if_neg (fun c => c.elim hn h)]

end Go.Proofs.Ytlbmhkefmnjlgaa
