/- From a slice of rows that came in to what the contracts are told of it. -/
import Derived.Test.YtaeenedjmakelaaDoorCode
import Derived.Deep.Matrix
namespace Go.Proofs.YtaeenedjmakelaaDoor
open Go.RowKit Go.ChangeShapes Go.WideShapes Go.ChangeAt

/-- A slice of rows that came in. -/
theorem rows_came {H : Type} {enc : TypeId × Value → H} {w : World} {a : Option Addr} {len cap : Nat} {d : DataW H} {p : List MemPlace}
    (h : DataW.Trod enc Tryd.prog w 0 (fun _ => true) true 32 (.slice a len cap) d p) : ∃ rows, RowsV w (.slice a len cap) rows := by
  obtain ⟨fuel, hf⟩ := h
  rcases Go.Deep.open_int_rows Tryd.underlying32 Tryd.underlying22 Tryd.underlying3 (by kernel_rfl) (by kernel_rfl) hf with ⟨hcs, _⟩ | ⟨x, l, c, A, L, C, Z, hcs, _, hl, hm, _, hr⟩
  · simp [Value.cells] at hcs
    obtain ⟨rfl, rfl, rfl⟩ := hcs
    exact ⟨[], RowsV.nil _ _ _ (by omega)⟩
  · simp [Value.cells] at hcs
    obtain ⟨rfl, rfl, rfl⟩ := hcs
    unfold maxLen at hm
    refine ⟨(List.range len).map fun r => (Z r).take (L r), ?_⟩
    have hlen : ((List.range len).map fun r => (Z r).take (L r)).length = len := by simp
    refine ⟨_, x.block, x.off, cap, by rw [hlen], ⟨by rw [hlen]; exact hl, by omega⟩, fun r hrr => ?_⟩
    rw [hlen] at hrr
    have h0 := (hr 0 (by omega)).1
    have e0 : x.add 0 = x := by simp [Addr.add]
    rw [e0] at h0
    have ex := addr_of_cell h0
    obtain ⟨q1, q2, q3, q4, q5, q6, q7⟩ := hr r (by omega)
    rw [ex, addr_add] at q1
    refine ⟨by rw [ex], _, q1, ?_⟩
    have er : ((List.range len).map fun r => (Z r).take (L r)).getD r [] = (Z r).take (L r) := by simp [hrr]
    rw [er]
    unfold maxLen at q3
    have hzl : ((Z r).take (L r)).length = L r := by rw [List.length_take]; omega
    cases hA : A r with
    | none =>
      have := q6 hA
      have hL : L r = 0 := by omega
      have e : (Z r).take (L r) = [] := by rw [hL]; rfl
      rw [e, hL]
      exact NumsV.nil _ _ _ _ (by omega)
    | some y =>
      obtain ⟨_, hc⟩ := q7 y hA
      refine ⟨_, y.block, y.off, C r, by rw [hzl], ⟨by rw [hzl]; exact q2, by omega⟩, fun i hi => ?_⟩
      rw [hzl] at hi
      have h0' := hc 0 (by omega)
      have e0' : y.add 0 = y := by simp [Addr.add]
      rw [e0'] at h0'
      have ey := addr_of_cell h0'
      refine ⟨by rw [ey], ?_⟩
      have hi' := hc i (by omega)
      rw [ey, addr_add] at hi'
      rw [hi']
      simp [List.getD, hi]
end Go.Proofs.YtaeenedjmakelaaDoor
