/- The contract of impl.toppled. -/
import Derived.Test.YthgafljbbkgldaaTopM
import Derived.Test.YthgafljbbkgldaaInRows
namespace Go.Proofs.Ythgafljbbkgldaa
open Go.RowKit

theorem top_foldl (ks : List Int) (x : List Int) (j : Nat) (hj : j < ks.length) : incL (ks.take (j + 1)) x = (incL (ks.take j) x).set (ks.getD j 0).toNat ((incL (ks.take j) x).getD (ks.getD j 0).toNat 0 + 1) := by
  have e : ks.getD j 0 = ks[j] := by simp [hj]
  rw [List.take_succ_eq_append_getElem hj, e]
  unfold incL
  rw [List.foldl_append]
  rfl
theorem aroundL_len (n m I : Nat) : (aroundL n m I).length ≤ 4 := by
  unfold aroundL
  simp only [List.length_append]
  repeat' split
  all_goals simp
theorem IntsO.blkOf {E lo hi : Nat} {w : World} {a : Option Addr} {n c : Nat} {xs : List Int} (h : IntsO E lo hi w (.slice a n c) xs) : ∀ g o, a = some ⟨g, o, none⟩ → 0 < xs.length → lo ≤ g := fun g o e h0 => by
  obtain ⟨g1, c1, e1, h1, _⟩ := h.pos h0
  subst e
  simp only [Value.slice.injEq, Option.some.injEq, Addr.mk.injEq] at e1
  omega
/-- Two results, calm sand and how often each cell toppled. -/
def TopPost (n m : Nat) (x : List Int) (w : World) (e : Ending) (w' : World) : Prop := ∃ v1 v2, e = .returned (.tuple #[v1, v2]) ∧ RowsO 34 3 w.heap.size w'.heap.size w' v1 (shapeL (calmL n m x) m n) ∧ RowsO 34 3 w.heap.size w'.heap.size w' v2 (shapeL (timesL n m x) m n) ∧ Grew w w'
/-- Rows that are sand of n rows of m with the numbers x. -/
structure SandV (w : World) (v : Value) (h : List (List Int)) (n m : Nat) (x : List Int) : Prop where
  rows : RowsV w v h
  shp : Shp h m
  hn : h.length = n
  flat : h.flatten = x
  sandy : Sandy n m x
theorem SandV.grew {w w' : World} {v : Value} {h : List (List Int)} {n m : Nat} {x : List Int} (s : SandV w v h n m x) (hg : Grew w w') : SandV w' v h n m x := ⟨s.rows.grew hg, s.shp, s.hn, s.flat, s.sandy⟩

end Go.Proofs.Ythgafljbbkgldaa
