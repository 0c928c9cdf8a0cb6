/- What is beside is beside both ways: by reckoning over all grids. -/
import Derived.Test.YteojdpfhhbcjlaaDoorBesideL
import Derived.Test.YteojdpfhhbcjlaaDoorAscends
namespace Go.Proofs.YteojdpfhhbcjlaaDoor
open Go.RowKit

def aroundChk (n m I : Nat) : Bool := (aroundL n m I).all (fun j => decide (0 ≤ j) && decide (j < ((n * m : Nat) : Int)) && decide ((I : Int) ∈ aroundL n m j.toNat)) && ascB (aroundL n m I) && decide ((aroundL n m I).length ≤ 4)
theorem around_chk : ∀ n, n < 6 → ∀ m, m < 6 → ∀ I, I < 25 → (n * m ≤ I ∨ aroundChk n m I = true) := by decide +kernel
theorem around_facts {n m I : Nat} (hn : n ≤ 5) (hm : m ≤ 5) (hI : I < n * m) :
    (∀ j, j ∈ aroundL n m I → 0 ≤ j ∧ j < ((n * m : Nat) : Int) ∧ (I : Int) ∈ aroundL n m j.toNat) ∧ ascB (aroundL n m I) = true ∧ (aroundL n m I).length ≤ 4 := by
  have h25 : I < 25 := Nat.lt_of_lt_of_le hI (Nat.mul_le_mul hn hm)
  rcases around_chk n (by omega) m (by omega) I h25 with h | h
  · omega
  · simp only [aroundChk, Bool.and_eq_true, List.all_eq_true, decide_eq_true_eq] at h
    exact ⟨fun j hj => ⟨(h.1.1 j hj).1.1, (h.1.1 j hj).1.2, (h.1.1 j hj).2⟩, h.1.2, h.2⟩
end Go.Proofs.YteojdpfhhbcjlaaDoor
