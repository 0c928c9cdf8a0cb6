/- The contract of laws.equalBools. -/
import Derived.Test.YtbpnmpdoomligabBoolApp
namespace Go.Proofs.Ytbpnmpdoomligab
open Go.RowKit

/-- v reads as the bools xs. -/
def BoolsV (w : World) (v : Value) (xs : List Bool) : Prop :=
  ∃ a b o c, v = .slice a xs.length c ∧ (xs.length ≤ c ∧ c ≤ 9223372036854775807) ∧ ∀ i, i < xs.length → a = some ⟨b, o, none⟩ ∧ w.cell? ⟨b, o + i, none⟩ = some (.bool (xs.getD i false))
theorem BoolsV.grew {w w' : World} {v : Value} {xs : List Bool} (h : BoolsV w v xs) (hg : Grew w w') : BoolsV w' v xs := by
  obtain ⟨a, b, o, c, e, hl, hc⟩ := h
  exact ⟨a, b, o, c, e, hl, fun i hi => ⟨(hc i hi).1, hg.cell (hc i hi).2⟩⟩
theorem BoolsV.shape {w : World} {v : Value} {xs : List Bool} (h : BoolsV w v xs) : ∃ a b o c, v = .slice a xs.length c ∧ (xs.length ≤ c ∧ c ≤ 9223372036854775807) ∧ (0 < xs.length → a = some ⟨b, o, none⟩) ∧
    Hid (∀ i, i < xs.length → w.cell? ⟨b, o + i, none⟩ = some (.bool (xs.getD i false))) := by
  obtain ⟨a, b, o, c, e, hl, hc⟩ := h
  exact ⟨a, b, o, c, e, hl, fun h0 => (hc 0 h0).1, Lib.hid fun i hi => (hc i hi).2⟩
theorem BoolsO.toV {E lo hi : Nat} {w : World} {v : Value} {xs : List Bool} (h : BoolsO E lo hi w v xs) : BoolsV w v xs := by
  rcases h.shape with ⟨rfl, rfl⟩ | ⟨g, c, rfl, _, _, h5, h6⟩
  · exact ⟨none, 0, 0, 0, rfl, ⟨Nat.le_refl _, by omega⟩, fun _ h => absurd h (Nat.not_lt_zero _)⟩
  · refine ⟨_, g, 0, c, rfl, ⟨h5, by unfold maxLen at h6; omega⟩, fun i hi => ⟨rfl, ?_⟩⟩
    rw [Nat.zero_add]
    exact (h.at rfl hi).1
theorem take_eq_snocB {xs ys : List Bool} {k : Nat} (h1 : k < xs.length) (h2 : k < ys.length) (h : xs.take k = ys.take k) (he : xs.getD k false = ys.getD k false) : xs.take (k + 1) = ys.take (k + 1) := take_eq_snoc false h1 h2 h he

end Go.Proofs.Ytbpnmpdoomligab
