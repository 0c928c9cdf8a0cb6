/- The law FnSeenFrom returns true. -/
import Derived.Test.YthljmolkicfdaaaSeen
import Derived.Test.YthljmolkicfdaaaDrawsP2
import Derived.Test.YthljmolkicfdaaaEqualB
import Derived.Test.YthljmolkicfdaaaHeldMono
import Derived.Test.YthljmolkicfdaaaLawTiltsHideNothing
namespace Go.Proofs.Ythljmolkicfdaaa
open Go.RowKit

theorem BoolsO.pos {E lo hi : Nat} {w : World} {v : Value} {xs : List Bool} (h : BoolsO E lo hi w v xs) (h0 : 0 < xs.length) : ∃ g c, v = .slice (some ⟨g, 0, none⟩) xs.length c := by
  rcases h.shape with ⟨rfl, rfl⟩ | ⟨g, c, rfl, _⟩
  · simp at h0
  · exact ⟨g, c, rfl⟩
theorem BoolsV.reads {w : World} {v : Value} {xs : List Bool} (h : BoolsV w v xs) {a : Option Addr} {n c : Nat} (hs : v = .slice a n c) (h1 : 0 < xs.length) : ∃ b o, a = some ⟨b, o, none⟩ ∧ ∀ i, i < xs.length → w.cell? ⟨b, o + i, none⟩ = some (.bool (xs.getD i false)) := by
  obtain ⟨a', b, o, c', e, _, hc⟩ := h
  rw [hs] at e
  simp only [Value.slice.injEq] at e
  obtain ⟨rfl, _, _⟩ := e
  exact ⟨b, o, (hc 0 h1).1, fun i hi => (hc i hi).2⟩
theorem sees_near (p : List Int) (a b : Nat) (h : b ≤ a + 1) : seesB p a b = true := by
  rw [seesB_iff]; intro x h1 h2; omega

end Go.Proofs.Ythljmolkicfdaaa
