/- The contracts of the helpers of the exact laws: sizes, copies, comparisons. -/
import Derived.Test.YtlfoimjohdaofaaDoorRows
import Derived.Test.YtlfoimjohdaofaaDoorBase
namespace Go.Proofs.YtlfoimjohdaofaaDoor
open Go.RowKit

theorem Tryd.infoE : (Tryd.prog.info? 3).map (fun i => (i.zero, i.size, i.bytes)) = some (some (.int .i64 0), 1, 8) := by kernel_rfl
theorem Tryd.infoT : (Tryd.prog.info? 28).map (fun i => (i.zero, i.size, i.bytes)) = some (some (.slice none 0 0), 1, 24) := by kernel_rfl

/-- How many numbers there are. -/
def total (h : List (List Int)) : Nat := (h.map List.length).sum
theorem total_snoc (h : List (List Int)) (k : Nat) (hk : k < h.length) : total (h.take (k + 1)) = total (h.take k) + (h.getD k []).length := by
  unfold total
  rw [List.take_succ_eq_append_getElem hk, List.map_append, List.sum_append]
  simp [hk]
theorem total_take_le (h : List (List Int)) (k : Nat) : total (h.take k) ≤ total h := by
  unfold total
  conv => rhs; rw [← List.take_append_drop k h, List.map_append, List.sum_append]
  omega
theorem row_le_total (h : List (List Int)) (k : Nat) (hk : k < h.length) : (h.getD k []).length ≤ total h := by
  have := total_snoc h k hk
  have := total_take_le h (k + 1)
  omega

def SzPost (h : List (List Int)) (left : Int) (w : World) (e : Ending) (w' : World) : Prop :=
  ∃ n : Int, e = .returned (.int .i64 n) ∧ (n = -1 ∨ 0 ≤ n ∧ n = left - h.length - total h) ∧ w = w'

/-- xs copied up to k, noughts behind. -/
def upTo (xs : List Int) (k : Nat) : List Int := xs.take k ++ List.replicate (xs.length - k) 0
theorem upTo_len (xs : List Int) (k : Nat) (h : k ≤ xs.length) : (upTo xs k).length = xs.length := by simp [upTo]; omega
theorem upTo_set (xs : List Int) (k : Nat) (h : k < xs.length) : (upTo xs k).set k (xs.getD k 0) = upTo xs (k + 1) := by
  unfold upTo
  have e1 : (xs.take k).length = k := by simp; omega
  have e2 : xs.length - k = (xs.length - (k + 1)) + 1 := by omega
  rw [List.set_append_right _ _ (by omega), e1, Nat.sub_self, e2, List.replicate_succ, List.set_cons_zero, List.take_succ_eq_append_getElem h, List.append_assoc]
  simp [h]

def NewInts (w : World) (xs : List Int) (e : Ending) (w' : World) : Prop := ∃ v, e = .returned v ∧ IntsO 3 w.heap.size w'.heap.size w' v xs ∧ Grew w w' ∧ w.heap.size < w'.heap.size ∧ ∃ g c, v = .slice (some ⟨g, 0, none⟩) xs.length c

end Go.Proofs.YtlfoimjohdaofaaDoor
