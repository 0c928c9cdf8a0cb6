/- Sums of lists and of the rows of a table. -/
import Derived.Test.YtkeeonjbkfgeeaaSumM
namespace Go.Proofs.Ytkeeonjbkfgeeaa
open Go.RowKit

/-- The sum of a list. -/
def lsum (L : List Int) : Int := sumTo (fun i => L.getD i 0) L.length
theorem lsum_append (a b : List Int) : lsum (a ++ b) = lsum a + lsum b := by
  unfold lsum
  rw [List.length_append, sumTo_splitS]
  congr 1
  · refine sumTo_congr fun i hi => ?_
    rw [List.getD_eq_getElem?_getD, List.getElem?_append_left hi, List.getD_eq_getElem?_getD]
  · refine sumTo_congr fun i _ => ?_
    show (a ++ b).getD (a.length + i) 0 = _
    rw [List.getD_eq_getElem?_getD, List.getElem?_append_right (by omega), show a.length + i - a.length = i by omega, List.getD_eq_getElem?_getD]
theorem lsum_flatten : ∀ (h : List (List Int)) (m : Nat), (∀ r, r < h.length → (h.getD r []).length = m) → lsum h.flatten = preS h h.length m
  | [], m, _ => rfl
  | x :: xs, m, hl => by
    have h0 := hl 0 (by simp)
    have ih := lsum_flatten xs m fun r hr => by
      have := hl (r + 1) (by simpa using hr)
      simpa using this
    rw [List.flatten_cons, lsum_append, ih]
    unfold preS
    rw [List.length_cons, Nat.add_comm xs.length 1, sumTo_splitS]
    congr 1
    · have h0' : x.length = m := by simpa using h0
      have e1 : sumTo (fun i => sumTo (cellS (x :: xs) i) m) 1 = sumTo (cellS (x :: xs) 0) m := by simp [sumTo]
      rw [e1]
      unfold lsum
      rw [h0']
      exact sumTo_congr fun j _ => rfl
    · refine sumTo_congr fun i _ => ?_
      show _ = sumTo (cellS (x :: xs) (1 + i)) m
      refine sumTo_congr fun j _ => ?_
      unfold cellS
      rw [Nat.add_comm 1 i]
      rfl
theorem lsum_zero (n : Nat) : lsum (List.replicate n 0) = 0 := by
  unfold lsum
  rw [sumTo_congr (g := fun _ => 0) fun i hi => by rw [List.length_replicate] at hi; simp [hi], sumTo_zero]
end Go.Proofs.Ytkeeonjbkfgeeaa
