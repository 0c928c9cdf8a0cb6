/- The contract of spec.flats: labels that sink. -/
import Derived.Test.YtaeenedjmakelaaDoorPieces2
import Derived.Test.YtaeenedjmakelaaDoorCells
import Derived.Test.YtaeenedjmakelaaDoorAt
namespace Go.Proofs.YtaeenedjmakelaaDoor
open Go.RowKit

def idL (k : Nat) : List Int := (List.range k).map fun (i : Nat) => (i : Int)
theorem idL_len (k : Nat) : (idL k).length = k := by simp [idL]
theorem idL_succ (k : Nat) : idL (k + 1) = idL k ++ [(k : Int)] := by simp [idL, List.range_succ]
theorem idL_at (k i : Nat) (h : i < k) : (idL k).getD i 0 = i := by simp [idL, h]
theorem IntsO.app {E lo hi : Nat} {w : World} {v : Value} {xs ys : List Int} (h : IntsO E lo hi w v xs) (e : xs = ys) : IntsO E lo hi w v ys := e ▸ h

def FlatsPostN (n m N : Nat) (J : Nat → Nat → Bool) (w : World) (e : Ending) (w' : World) : Prop :=
  ∃ g c fs, e = .returned (.slice (some ⟨g, 0, none⟩) N c) ∧ IntsO 3 w.heap.size w'.heap.size w' (.slice (some ⟨g, 0, none⟩) N c) fs ∧ Flats n m J fs ∧ Grew w w'
/-- What the three callees of the spec's searches do, as seen from a world w on. -/
structure SpecH (v : Value) (n m N : Nat) (pf : Nat → Int) (w : World) : Prop where
  cells : ∀ W, Grew w W → Calls Tryd.prog 89 #[v] W fun e w' => e = .returned (.int .i64 (N : Int)) ∧ W = w'
  around : ∀ (I : Nat) W, Grew w W → I < N → Calls Tryd.prog 91 #[v, .int .i64 I] W (OwnI W (aroundL n m I))
  hat : ∀ (I : Nat) W, Grew w W → I < N → Calls Tryd.prog 93 #[v, .int .i64 I] W fun e w' => e = .returned (.int .i64 (pf I)) ∧ ∃ q, w' = W.drewN q
theorem specH {v : Value} {h : List (List Int)} {n m N : Nat} {pf : Nat → Int} {w : World} (hv : RowsV w v h) (hg : vGrid h = true) (en : h.length = n) (em : (h.getD 0 []).length = m) (eN : n * m = N) (hpf : ∀ i, pf i = h.flatten.getD i 0) : SpecH v n m N pf w := by
  have G := Grid.of hg
  refine ⟨fun W hW => ?_, fun I W hW hI => ?_, fun I W hW hI => ?_⟩
  · have := cells_any v h W (hv.grew hW) G.n1 (by have := G.n5; omega) (by have := G.m5; omega)
    rwa [en, em, eN] at this
  · have := around_any v h I W (hv.grew hW) hg (by rw [en, em, eN]; exact hI)
    rwa [en, em] at this
  · have := at_any v h I W (hv.grew hW) hg (by rw [en, em, eN]; exact hI)
    rwa [← hpf I] at this

end Go.Proofs.YtaeenedjmakelaaDoor
