/- The contracts of impl.FlatsOf and spec.FlatsOf. -/
import Derived.Test.YtdjjimnfhfdjdaaDoorSFlats
import Derived.Test.YtdjjimnfhfdjdaaDoorInRows
import Derived.Test.YtdjjimnfhfdjdaaDoorExact
namespace Go.Proofs.YtdjjimnfhfdjdaaDoor
open Go.RowKit

/-- For each cell the first cell of its flat, row by row. -/
noncomputable def flatsOfL (h : List (List Int)) : List (List Int) :=
  if vGrid h then shapeL (flatsL h.length (h.getD 0 []).length (sameH h.flatten)) (h.getD 0 []).length h.length else []
theorem flatsOfL_no {h : List (List Int)} (hg : vGrid h = false) : flatsOfL h = [] := by unfold flatsOfL; rw [hg]; rfl
theorem flatsOfL_yes {h : List (List Int)} {n m : Nat} {fs : List Int} (hg : vGrid h = true) (en : h.length = n) (em : (h.getD 0 []).length = m) (F : Flats n m (sameH h.flatten) fs) : flatsOfL h = shapeL fs m n := by
  have G := Grid.of hg
  unfold flatsOfL
  rw [if_pos hg, en, em, F.eq (by rw [← en]; exact G.n5) (by rw [← em]; exact G.m5)]

theorem shapeL_total (xs : List Int) (m n : Nat) : total (shapeL xs m n) ≤ n * m := by
  induction n with
  | zero => simp [shapeL, total]
  | succ n ih =>
    rw [shapeL_succ]
    unfold total at ih ⊢
    rw [List.map_append, List.sum_append, Nat.succ_mul]
    have : ((xs.drop (n * m)).take m).length ≤ m := List.length_take_le _ _
    simp only [List.map_cons, List.map_nil, List.sum_cons, List.sum_nil]
    omega
theorem shape_grid_total {h : List (List Int)} (hg : vGrid h = true) (xs : List Int) : total (shapeL xs (h.getD 0 []).length h.length) ≤ 1000000 := by
  have G := Grid.of hg
  exact Nat.le_trans (shapeL_total _ _ _) (Nat.le_trans (Nat.mul_le_mul G.n5 G.m5) (by decide))
theorem flatsOfL_total (h : List (List Int)) : total (flatsOfL h) ≤ 1000000 := by
  unfold flatsOfL
  by_cases hg : vGrid h = true
  · rw [if_pos hg]; exact shape_grid_total hg _
  · rw [if_neg hg]; simp [total]

set_option maxRecDepth 100000 in
set_option maxHeartbeats 1000000 in
theorem FlatsOf_any (v : Value) (h : List (List Int)) (w : World) (hv : RowsV w v h) (hS : Steps w) :
    Calls Tryd.prog 21 #[v] w (NewRows w (flatsOfL h)) := by
  have HK := ValidGrid_any v h w hv
  cases hg : vGrid h with
  | false =>
    rw [hg] at HK
    have HK2 := Lib.hid HK
    rw [flatsOfL_no hg]
    obtain ⟨a, b, o, c, rfl, _, _, _⟩ := hv.shape
    clear hv hS HK hg
    go_enter Tryd.func21, Tryd.ntmps21
    go_wp2_with (fail)
    refine HK2.out.mono ?_
    rintro e w1 ⟨rfl, rfl⟩
    go_wp2
    go_ret
    exact ⟨_, rfl, RowsO.nil _ _ _ _ _, Grew.refl _⟩
  | true =>
    rw [hg] at HK
    have HK2 := Lib.hid HK
    have G := Grid.of hg
    obtain ⟨n, en⟩ : ∃ n, h.length = n := ⟨_, rfl⟩
    obtain ⟨m, em⟩ : ∃ m, (h.getD 0 []).length = m := ⟨_, rfl⟩
    have HF := Lib.hid fun W (hW : Grew w W) => firstsOf_any v h n m W (hv.grew hW) hg (hS.grew hW) en em
    have HY := Lib.hid fun fs (F : Flats n m (sameH h.flatten) fs) => flatsOfL_yes hg en em F
    have hn5 := G.n5
    have hn1 := G.n1
    have hm5 := G.m5
    have hm1 := G.m1
    rw [en] at hn5 hn1
    rw [em] at hm5 hm1
    obtain ⟨a, b, o, c, rfl, ⟨hlc, hcb⟩, ha, HCR⟩ := hv.shape
    obtain rfl := ha (by omega)
    obtain ⟨u0, hcu0, hu0⟩ := HCR.out 0 (by omega)
    rw [Nat.add_zero] at hcu0
    obtain ⟨a0, b0, o0, c0, rfl, _, _, _⟩ := hu0.shape
    rw [em] at hcu0
    rw [en] at HK2 HF hlc ⊢
    have hn0 : (0 : Int) < (n : Int) := by omega
    have HNM : Hid (n ≤ 5 ∧ 1 ≤ m ∧ m ≤ 5) := Lib.hid ⟨hn5, hm1, hm5⟩
    clear hv hS HK hg G ha HCR hu0 en em
    go_enter Tryd.func21, Tryd.ntmps21
    go_wp2_with (fail)
    refine HK2.out.mono ?_
    rintro e w1 ⟨rfl, rfl⟩
    go_wp2
    have H0 := Lib.hid hcu0
    go_region_with (first
      | (go_at_call 48; refine (HF.out _ ((Grew.refl w).drew)).mono ?_; rintro e w2 ⟨g2, c2, fs, rfl, hO2, hF2, hg2⟩; have H2 := Lib.hid (And.intro hO2 (And.intro hF2 hg2)); have hcu2 := hg2.cell H0.out; clear hO2 hF2 hg2)
      | (go_at_call 47; refine (inRows_own H2.out.1 HNM.out.1 HNM.out.2.1 HNM.out.2.2 rfl).mono ?_; rintro e w3 ⟨v3, rfl, hO3, hg3⟩; obtain ⟨a3, c3, rfl⟩ := hO3.sh; have H3 := Lib.hid (And.intro hO3 hg3); clear hO3 hg3))
    all_goals
      go_wp2
      go_ret
      rw [HY.out _ H2.out.2.1]
      exact ⟨_, rfl, H3.out.1.wide (Nat.le_trans H2.out.2.2.size (Nat.le_refl _)) (Nat.le_refl _), (Grew.refl w).drew.trans (H2.out.2.2.trans H3.out.2)⟩

end Go.Proofs.YtdjjimnfhfdjdaaDoor
