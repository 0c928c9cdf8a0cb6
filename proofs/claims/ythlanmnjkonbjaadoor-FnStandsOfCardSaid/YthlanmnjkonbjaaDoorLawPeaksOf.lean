/- The law FnPeaksOf returns true. -/
import Derived.Test.YthlanmnjkonbjaaDoorLawPitsOf
import Derived.Test.YthlanmnjkonbjaaDoorUnder
import Derived.Test.YthlanmnjkonbjaaDoorAscends
namespace Go.Proofs.YthlanmnjkonbjaaDoor
open Go.RowKit

theorem Reach.congr {n m i j : Nat} {J K : Nat → Nat → Bool} (hn : n ≤ 5) (hm : m ≤ 5) (hJK : ∀ i k, i < n * m → k < n * m → J i k = K i k) (hi : i < n * m) (h : Reach n m J i j) : Reach n m K i j := by
  induction h with
  | refl => exact .refl
  | step hj hk he ih =>
    have hjN := hj.lt hn hm hi
    exact .step ih hk (by rw [← hJK _ _ hjN (around_lt hn hm hjN hk)]; exact he)
theorem Flats.congr {n m : Nat} {J K : Nat → Nat → Bool} {f : List Int} (hn : n ≤ 5) (hm : m ≤ 5) (hJK : ∀ i k, i < n * m → k < n * m → J i k = K i k) (F : Flats n m J f) : Flats n m K f :=
  ⟨F.len, fun i hi => by
    obtain ⟨j, h1, h2, h3⟩ := F.ok i hi
    exact ⟨j, h1, h2, h3.congr hn hm hJK hi⟩, fun i hi k hk he => F.same i hi k hk (by rw [hJK i k hi (around_lt hn hm hi hk)]; exact he)⟩
theorem flatsL_congr {n m : Nat} {J K : Nat → Nat → Bool} (hn : n ≤ 5) (hm : m ≤ 5) (hJ : Symm J) (hJK : ∀ i k, i < n * m → k < n * m → J i k = K i k) : flatsL n m K = flatsL n m J :=
  ((flatsL_ok hJ hn hm).congr hn hm hJK).eq hn hm
theorem under_flat (h : List (List Int)) : (underL h).flatten = h.flatten.map fun x => 12 - x := by
  unfold underL
  induction h with
  | nil => rfl
  | cons a l ih => simp only [List.map_cons, List.flatten_cons, List.map_append] at ih ⊢; rw [ih]
/-- Pits upside down are peaks. -/
theorem pits_under {h : List (List Int)} (hg : vGrid h = true) : pitsL (underL h) = peaksL h := by
  have G := Grid.of hg
  obtain ⟨n, en⟩ : ∃ n, h.length = n := ⟨_, rfl⟩
  obtain ⟨m, em⟩ : ∃ m, (h.getD 0 []).length = m := ⟨_, rfl⟩
  obtain ⟨p, ep⟩ : ∃ p, h.flatten = p := ⟨_, rfl⟩
  have hn5 := G.n5
  have hm5 := G.m5
  rw [en] at hn5
  rw [em] at hm5
  have G2 := under_grid G
  have hg2 := G2.to
  have en2 : (underL h).length = n := by rw [← en]; simp [underL]
  have em2 : ((underL h).getD 0 []).length = m := by rw [G2.len 0 G2.n1, em]
  have ep2 : (underL h).flatten = p.map fun x => 12 - x := by rw [under_flat, ep]
  have hpl := flat_grid_len G
  rw [en, em, ep] at hpl
  have hq : ∀ i, i < n * m → (p.map fun x => 12 - x).getD i 0 = 12 - p.getD i 0 := fun i hi => by
    have : i < p.length := by omega
    simp [this]
  have hJK : ∀ i k, i < n * m → k < n * m → sameH p i k = sameH (p.map fun x => 12 - x) i k := fun i k hi hk => by
    rw [Bool.eq_iff_iff, sameH_iff, sameH_iff, hq i hi, hq k hk]
    omega
  have eF := flatsL_congr hn5 hm5 (sameH_symm p) hJK
  obtain ⟨bs, hF, hB, hE⟩ := endsL_some (ov := ovUp) hg en em ep rfl (beat_exists n m (n * m) p (flatsL n m (sameH p)) ovUp rfl)
  rw [peaksL, hE, pitsL]
  refine endsL_yes hg2 en2 em2 ep2 rfl (hF.congr hn5 hm5 hJK) ⟨hB.len, fun c hc => (hB.iff c hc).trans ?_⟩
  constructor
  · rintro ⟨x, s, k, h1, h2, h3, h4, h5, h6⟩
    have hkm : (k : Int) ∈ aroundL n m x := by
      rw [← h4, List.getD_eq_getElem?_getD, List.getElem?_eq_getElem h3]
      exact List.getElem_mem h3
    refine ⟨x, s, k, h1, h2, h3, h4, ?_, h6⟩
    rw [hq _ (around_lt hn5 hm5 h2 hkm), hq _ h2]
    simp only [ovUp, ovDown, decide_eq_true_eq] at h5 ⊢
    omega
  · rintro ⟨x, s, k, h1, h2, h3, h4, h5, h6⟩
    have hkm : (k : Int) ∈ aroundL n m x := by
      rw [← h4, List.getD_eq_getElem?_getD, List.getElem?_eq_getElem h3]
      exact List.getElem_mem h3
    refine ⟨x, s, k, h1, h2, h3, h4, ?_, h6⟩
    rw [hq _ (around_lt hn5 hm5 h2 hkm), hq _ h2] at h5
    simp only [ovUp, ovDown, decide_eq_true_eq] at h5 ⊢
    omega
theorem ascB_of {xs : List Int} (h : xs.Pairwise (· < ·)) : ascB xs = true := by
  unfold ascB ascTo
  rw [List.all_eq_true]
  intro k hk
  have hk' := List.mem_range.1 hk
  by_cases e : k = 0
  · simp [e]
  · have := List.pairwise_iff_getElem.1 h (k - 1) k (by omega) hk' (by omega)
    have e1 : xs.getD (k - 1) 0 = xs[k - 1] := by simp [show k - 1 < xs.length by omega]
    have e2 : xs.getD k 0 = xs[k] := by simp [hk']
    rw [e1, e2]
    simp [this]
theorem keptL_asc (fs : List Int) (bs : List Bool) (k : Nat) : ascB (keptL fs bs k) = true := by
  refine ascB_of ?_
  unfold keptL
  rw [List.pairwise_map]
  exact (List.pairwise_lt_range.filter _).imp fun h => by omega

end Go.Proofs.YthlanmnjkonbjaaDoor
