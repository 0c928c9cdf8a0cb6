/- From a slice of numbers that came in to what the contracts are told of it. -/
import Derived.Test.YtaeenedjmakelaaDoorCode
namespace Go.Proofs.YtaeenedjmakelaaDoor
open Go.RowKit Go.ChangeShapes Go.WideShapes Go.ChangeAt

/-- A slice of numbers that came in. -/
theorem ints_came {H : Type} {enc : TypeId × Value → H} {w : World} {a : Option Addr} {len cap : Nat} {d : DataW H} {p : List MemPlace}
    (h : DataW.Trod enc Tryd.prog w 0 (fun _ => true) true 22 (.slice a len cap) d p) : ∃ bs, IntsV w (.slice a len cap) bs := by
  obtain ⟨fuel, hf⟩ := h
  rcases open_ints Tryd.underlying22 Tryd.underlying3 (by kernel_rfl) hf with ⟨hcs, _⟩ | ⟨x, l, c, zs, hcs, _, hl, hm, hz, _, hcell, _⟩
  · simp [Value.cells] at hcs
    obtain ⟨rfl, rfl, rfl⟩ := hcs
    exact ⟨[], NumsV.nil _ _ _ _ (by omega)⟩
  · simp [Value.cells] at hcs
    obtain ⟨rfl, rfl, rfl⟩ := hcs
    simp at hz
    unfold maxLen at hm
    have hlen : (zs.take len).length = len := by rw [List.length_take]; omega
    refine ⟨zs.take len, ⟨_, x.block, x.off, cap, by rw [hlen], ⟨by rw [hlen]; exact hl, by omega⟩, fun i hi => ?_⟩⟩
    rw [hlen] at hi
    have h0 := hcell 0 (by omega)
    have e0 : x.add 0 = x := by simp [Addr.add]
    rw [e0] at h0
    have ex := addr_of_cell h0
    refine ⟨by rw [ex], ?_⟩
    have hi' := hcell i (by omega)
    rw [ex, addr_add] at hi'
    rw [hi']
    simp [List.getD, hi]
end Go.Proofs.YtaeenedjmakelaaDoor
