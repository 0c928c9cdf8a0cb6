/- The law FnPitsOf returns true. -/
import Derived.Test.YthlanmnjkonbjaaDoorLawFlatsOf
import Derived.Test.YthlanmnjkonbjaaDoorEnds4
import Derived.Test.YthlanmnjkonbjaaDoorIsIn
namespace Go.Proofs.YthlanmnjkonbjaaDoor
open Go.RowKit

/-- What the ends of a grid are: the flats, what beats them, the list. -/
theorem endsL_some {ov : Int → Int → Bool} {h : List (List Int)} {n m N : Nat} {p : List Int} (hg : vGrid h = true) (en : h.length = n) (em : (h.getD 0 []).length = m) (ep : h.flatten = p) (eN : n * m = N)
    (hB : ∃ bs, Beat n m p (flatsL n m (sameH p)) ov N 0 bs) : ∃ bs, Flats n m (sameH p) (flatsL n m (sameH p)) ∧ Beat n m p (flatsL n m (sameH p)) ov N 0 bs ∧ endsL ov h = keptL (flatsL n m (sameH p)) bs N := by
  have G := Grid.of hg
  obtain ⟨bs, hB⟩ := hB
  have F : Flats n m (sameH p) (flatsL n m (sameH p)) := flatsL_ok (sameH_symm p) (by rw [← en]; exact G.n5) (by rw [← em]; exact G.m5)
  exact ⟨bs, F, hB, endsL_yes hg en em ep eN F hB⟩
theorem beat_exists (n m N : Nat) (p fs : List Int) (ov : Int → Int → Bool) (_hN : n * m = N) : ∃ bs, Beat n m p fs ov N 0 bs := by
  obtain ⟨P, eP⟩ : ∃ P : Nat → Prop, ∀ c, P c ↔ ∃ x s k : Nat, (x < N ∨ x = N ∧ s < 0) ∧ x < n * m ∧ s < (aroundL n m x).length ∧ (aroundL n m x).getD s 0 = k ∧ ov (p.getD k 0) (p.getD x 0) = true ∧ fs.getD x 0 = c := ⟨_, fun _ => Iff.rfl⟩
  refine ⟨(List.range (n * m)).map fun c => @decide (P c) (Classical.propDecidable _), by simp, fun c hc => ?_⟩
  rw [← eP]
  have : ((List.range (n * m)).map fun c => @decide (P c) (Classical.propDecidable _)).getD c false = @decide (P c) (Classical.propDecidable _) := by simp [hc]
  rw [this]
  exact @decide_eq_true_iff _ (Classical.propDecidable _)
/-- The flat of a lowest cell is no lower than what is beside it. -/
theorem lowest_kept {n m N L : Nat} {p fs : List Int} {bs : List Bool} (hn : n ≤ 5) (hm : m ≤ 5) (eN : n * m = N) (F : Flats n m (sameH p) fs) (B : Beat n m p fs ovDown N 0 bs) (hL : L < N) (hlow : ∀ x, x < N → p.getD L 0 ≤ p.getD x 0) : fs.getD L 0 ∈ keptL fs bs N := by
  obtain ⟨C, h1, h2, h3⟩ := F.ok L (by rw [eN]; exact hL)
  have h4 := F.reach hn hm (by rw [eN]; exact hL) h3
  refine mem_keptL.2 ⟨C, h1, by omega, by rw [h4, h1], ?_⟩
  cases hb : bs.getD C false with
  | false => rfl
  | true =>
    obtain ⟨x, s, k, _, hx, hs, hk, hov, hfx⟩ := (B.iff C (by omega)).1 hb
    have hkm : (k : Int) ∈ aroundL n m x := by
      rw [← hk, List.getD_eq_getElem?_getD, List.getElem?_eq_getElem hs]
      exact List.getElem_mem hs
    have hkN := around_lt hn hm hx hkm
    have := hlow k (by omega)
    obtain ⟨D, e1, e2, e3⟩ := F.ok x hx
    have : D = C := by omega
    subst this
    have := e3.high
    have := h3.high
    have hov2 : p.getD k 0 < p.getD x 0 := by simpa [ovDown] using hov
    omega
theorem highest_kept {n m N L : Nat} {p fs : List Int} {bs : List Bool} (hn : n ≤ 5) (hm : m ≤ 5) (eN : n * m = N) (F : Flats n m (sameH p) fs) (B : Beat n m p fs ovUp N 0 bs) (hL : L < N) (hhigh : ∀ x, x < N → p.getD x 0 ≤ p.getD L 0) : fs.getD L 0 ∈ keptL fs bs N := by
  obtain ⟨C, h1, h2, h3⟩ := F.ok L (by rw [eN]; exact hL)
  have h4 := F.reach hn hm (by rw [eN]; exact hL) h3
  refine mem_keptL.2 ⟨C, h1, by omega, by rw [h4, h1], ?_⟩
  cases hb : bs.getD C false with
  | false => rfl
  | true =>
    obtain ⟨x, s, k, _, hx, hs, hk, hov, hfx⟩ := (B.iff C (by omega)).1 hb
    have hkm : (k : Int) ∈ aroundL n m x := by
      rw [← hk, List.getD_eq_getElem?_getD, List.getElem?_eq_getElem hs]
      exact List.getElem_mem hs
    have hkN := around_lt hn hm hx hkm
    have := hhigh k (by omega)
    obtain ⟨D, e1, e2, e3⟩ := F.ok x hx
    have : D = C := by omega
    subst this
    have := e3.high
    have := h3.high
    have hov2 : p.getD x 0 < p.getD k 0 := by simpa [ovUp] using hov
    omega

end Go.Proofs.YthlanmnjkonbjaaDoor
