/- The lakes' sizes are together the wet cells, as lists; so are their sizes times their heights. -/
import Derived.Test.YtgecghngfonejaaDoorLakesM
import Derived.Test.YtgecghngfonejaaDoorWaterOf
namespace Go.Proofs.YtgecghngfonejaaDoor
open Go.RowKit

/-- Over the first k lakes: sizes, and sizes times heights. -/
def sizeS (R : List (List Int)) (k : Nat) : Int := ((R.take k).map fun r => r.getD 1 0).sum
def holdS (R : List (List Int)) (k : Nat) : Int := ((R.take k).map fun r => r.getD 1 0 * r.getD 2 0).sum
theorem sum_next (f : List Int → Int) (R : List (List Int)) (k : Nat) (hk : k < R.length) : ((R.take (k + 1)).map f).sum = ((R.take k).map f).sum + f (R.getD k []) := by
  rw [List.take_succ_eq_append_getElem hk, List.map_append, List.sum_append]
  simp [hk]
theorem sizeS_next (R : List (List Int)) (k : Nat) (hk : k < R.length) : sizeS R (k + 1) = sizeS R k + (R.getD k []).getD 1 0 := sum_next _ R k hk
theorem holdS_next (R : List (List Int)) (k : Nat) (hk : k < R.length) : holdS R (k + 1) = holdS R k + (R.getD k []).getD 1 0 * (R.getD k []).getD 2 0 := sum_next _ R k hk
/-- g summed over the cells before k whose first cell is c. -/
def atS (g : Nat → Int) (fs : List Int) (c : Nat) : Nat → Int
  | 0 => 0
  | k + 1 => atS g fs c k + if fs.getD k 0 = (c : Int) then g k else 0
/-- g summed over the cells before k. -/
def allS (g : Nat → Int) : Nat → Int
  | 0 => 0
  | k + 1 => allS g k + g k
/-- atS summed over the first cells before c. -/
def ofS (g : Nat → Int) (fs : List Int) (k : Nat) : Nat → Int
  | 0 => 0
  | c + 1 => ofS g fs k c + atS g fs c k
theorem ofS_next (g : Nat → Int) (fs : List Int) (k f : Nat) (hf : fs.getD k 0 = (f : Int)) : ∀ c, ofS g fs (k + 1) c = ofS g fs k c + if f < c then g k else 0
  | 0 => by simp [ofS]
  | c + 1 => by
    rw [ofS, ofS, ofS_next g fs k f hf c, atS, hf]
    by_cases e : f = c
    · subst e
      rw [if_neg (Nat.lt_irrefl _), if_pos rfl, if_pos (by omega)]
      omega
    · rw [if_neg (by omega : ¬ (f : Int) = (c : Int))]
      by_cases h : f < c
      · rw [if_pos h, if_pos (by omega)]; omega
      · rw [if_neg h, if_neg (by omega)]; omega
theorem ofS_zero (g : Nat → Int) (fs : List Int) : ∀ c, ofS g fs 0 c = 0
  | 0 => rfl
  | c + 1 => by rw [ofS, ofS_zero g fs c]; rfl
/-- Each cell has one first cell: sums may be taken by it. -/
theorem ofS_all (g : Nat → Int) (fs : List Int) (N : Nat) (h : ∀ i, i < N → ∃ f : Nat, fs.getD i 0 = f ∧ f < N) : ∀ k, k ≤ N → ofS g fs k N = allS g k
  | 0, _ => ofS_zero g fs N
  | k + 1, hk => by
    obtain ⟨f, h1, h2⟩ := h k (by omega)
    rw [ofS_next g fs k f h1, if_pos h2, ofS_all g fs N h k (by omega), allS]
theorem atS_count (fs : List Int) (c : Nat) : ∀ k, k ≤ fs.length → atS (fun _ => 1) fs c k = ((fs.take k).count (c : Int) : Int)
  | 0, _ => by simp [atS]
  | k + 1, hk => by
    rw [atS, atS_count fs c k (by omega), List.take_succ_eq_append_getElem (by omega), List.count_append]
    have : fs[k] = fs.getD k 0 := by simp [show k < fs.length by omega]
    rw [this]
    by_cases e : fs.getD k 0 = (c : Int)
    · rw [if_pos e, e]; simp
    · have h0 : List.count (c : Int) [fs.getD k 0] = 0 := by
        rw [List.count_eq_zero]
        intro h
        rw [List.mem_singleton] at h
        exact e h.symm
      rw [if_neg e, h0]
      simp
/-- The cells of a first cell that is wet are wet, and of its height; those of one that is dry are dry. -/
theorem atS_wet {n m N : Nat} {ds ws fs : List Int} (F : Flats n m (jLake ds ws) fs) (eN : n * m = N) (G : Int → Int) (c : Nat) : ∀ k, k ≤ N → atS (fun i => if 0 < ds.getD i 0 then G (ws.getD i 0) else 0) fs c k = if 0 < ds.getD c 0 then G (ws.getD c 0) * atS (fun _ => 1) fs c k else 0
  | 0, _ => by simp [atS]
  | k + 1, hk => by
    rw [atS, atS, atS_wet F eN G c k (by omega)]
    by_cases e : fs.getD k 0 = (c : Int)
    · rw [if_pos e, if_pos e]
      obtain ⟨j, h1, _, h3⟩ := F.ok k (by omega)
      have : j = c := by omega
      subst this
      rcases reach_wet h3 with h4 | ⟨h4, h5⟩
      · rw [h4]
        by_cases hd : 0 < ds.getD j 0
        · rw [if_pos hd, if_pos hd, if_pos hd, Int.mul_add, Int.mul_one]
        · rw [if_neg hd, if_neg hd, if_neg hd]; rfl
      · have hd : 0 < ds.getD j 0 := by
          have h6 : Reach n m (jLake ds ws) k j := h3
          cases h6 with
          | refl => exact h4
          | step _ _ hJ =>
            simp only [jLake, Bool.and_eq_true, decide_eq_true_eq] at hJ
            exact hJ.1.2
        rw [if_pos hd, if_pos hd, if_pos h4, h5, Int.mul_add, Int.mul_one]
    · rw [if_neg e, if_neg e, Int.add_zero, Int.add_zero]
/-- Over the lakes. -/
theorem lakes_sum {n m N : Nat} {ds ws fs : List Int} (hn : n ≤ 5) (hm : m ≤ 5) (F : Flats n m (jLake ds ws) fs) (eN : n * m = N) (G : Int → Int) : ∀ k, k ≤ N → ((lakesTo fs ds ws N k).map fun r => r.getD 1 0 * G (r.getD 2 0)).sum = ofS (fun i => if 0 < ds.getD i 0 then G (ws.getD i 0) else 0) fs N k
  | 0, _ => rfl
  | k + 1, hk => by
    have hl : fs.length = N := by rw [F.len, eN]
    rw [lakesTo, List.map_append, List.sum_append, lakes_sum hn hm F eN G k (by omega), ofS, atS_wet F eN G k N (Nat.le_refl _), atS_count fs k N (by omega), List.take_of_length_le (by omega)]
    by_cases hd : 0 < ds.getD k 0
    · rw [if_pos hd]
      by_cases hf : fs.getD k 0 = (k : Int)
      · rw [if_pos ⟨hf, hd⟩]
        simp only [List.map_cons, List.map_nil, List.sum_cons, List.sum_nil, List.getD_cons_succ, List.getD_cons_zero, Int.add_zero]
        rw [cntL_full _ _ _ hl (by omega), Int.mul_comm]
      · rw [if_neg (fun h => hf h.1)]
        have h0 : fs.count (k : Int) = 0 := by
          rw [List.count_eq_zero]
          intro hmem
          obtain ⟨x, hx, e⟩ := List.getElem_of_mem hmem
          have e2 : fs.getD x 0 = (k : Int) := by simp [hx, e]
          obtain ⟨j, h1, h2, h3⟩ := F.ok x (by omega)
          have : j = k := by omega
          subst this
          have h7 := F.reach hn hm (by omega) h3
          exact hf (by omega)
        rw [h0]
        simp
    · rw [if_neg hd, if_neg (fun h => hd h.2)]
      simp
/-- What the lakes and the depths of a grid are together. -/
structure LakeSumF (N : Nat) (p ws ds : List Int) (R : List (List Int)) : Prop where
  pl : p.length = N
  wl : ws.length = N
  dl : ds.length = N
  len : R.length ≤ N
  row : ∀ k, k < R.length → ∃ (i : Nat) (c : Int), R.getD k [] = [(i : Int), c, ws.getD i 0] ∧ i < N ∧ 0 ≤ c ∧ c ≤ N ∧ 0 ≤ ws.getD i 0 ∧ ws.getD i 0 ≤ 12
  size : sizeS R R.length = allS (fun i => if 0 < ds.getD i 0 then 1 else 0) N
  hold : holdS R R.length - allS (fun i => if 0 < ds.getD i 0 then p.getD i 0 else 0) N = ds.sum
theorem sum_allS (ds : List Int) : ∀ k, k ≤ ds.length → (ds.take k).sum = allS (fun i => ds.getD i 0) k
  | 0, _ => by simp [allS]
  | k + 1, hk => by rw [sum_step _ _ (by omega), sum_allS ds k (by omega), allS]
theorem lake_sums {h : List (List Int)} (hg : vGrid h = true) : ∃ ws, LakeSumF (h.length * (h.getD 0 []).length) h.flatten ws (depthL h).flatten (lakesL h) ∧ (depthL h).flatten = subL ws h.flatten ∧ Small (depthL h).flatten := by
  have G := Grid.of hg
  have W := grid_level hg
  have hn5 := G.n5
  have hm5 := G.m5
  obtain ⟨ws, ews⟩ : ∃ ws, levelL h.length (h.getD 0 []).length h.flatten = ws := ⟨_, rfl⟩
  rw [ews] at W
  have hd : (depthL h).flatten = subL ws h.flatten := by
    rw [depthL_yes hg rfl rfl W, shapeL_flat _ _ _ (by rw [subL_len, W.len])]
  have hF : Flats h.length (h.getD 0 []).length (jLake (subL ws h.flatten) ws) (flatsL h.length (h.getD 0 []).length (jLake (subL ws h.flatten) ws)) := flatsL_ok (jLake_symm _ _) G.n5 G.m5
  obtain ⟨fs, efs⟩ : ∃ fs, flatsL h.length (h.getD 0 []).length (jLake (subL ws h.flatten) ws) = fs := ⟨_, rfl⟩
  rw [efs] at hF
  have e := lakesL_yes hg rfl rfl W hF
  have hpn := fun i => grid_num G i
  have hpl := flat_grid_len G
  have hwl := W.len
  obtain ⟨N, eN⟩ : ∃ N, h.length * (h.getD 0 []).length = N := ⟨_, rfl⟩
  rw [eN] at e hpl hwl ⊢
  rw [hd]
  have hwn : ∀ i, i < N → h.flatten.getD i 0 ≤ ws.getD i 0 ∧ 0 ≤ ws.getD i 0 ∧ ws.getD i 0 ≤ 12 := fun i hi => by
    have h1 := W.base (i := i) (by omega)
    have h2 := hpn i (by omega)
    have h3 := W.top (i := i) (fun j hj => (hpn j hj).2) (by omega)
    omega
  have hdl : (subL ws h.flatten).length = N := by rw [subL_len, hwl]
  have hdi : ∀ i, i < N → (subL ws h.flatten).getD i 0 = ws.getD i 0 - h.flatten.getD i 0 := fun i hi => subL_at _ _ _ (by omega)
  obtain ⟨ds, eds⟩ : ∃ ds, subL ws h.flatten = ds := ⟨_, rfl⟩
  have hsz : ∀ G : Int → Int, ((lakesL h).map fun r => r.getD 1 0 * G (r.getD 2 0)).sum = allS (fun i => if 0 < ds.getD i 0 then G (ws.getD i 0) else 0) N := fun G => by
    rw [e, eds]
    rw [eds] at hF
    rw [lakes_sum hn5 hm5 hF eN G N (Nat.le_refl _)]
    exact ofS_all _ fs N (fun i hi => by
      obtain ⟨j, h1, h2, _⟩ := hF.ok i (by omega)
      exact ⟨j, h1, by omega⟩) N (Nat.le_refl _)
  have hrow := (lakesTo_rows fs (subL ws h.flatten) ws N N).1
  rw [← e] at hrow
  refine ⟨ws, ⟨hpl, hwl, hdl, by rw [e]; exact lakesTo_len _ _ _ _ _, fun k hk => ?_, ?_, ?_⟩, rfl, ?_⟩
  · obtain ⟨i, h1, h2, _⟩ := hrow ((lakesL h).getD k []) (by rw [List.getD_eq_getElem?_getD, List.getElem?_eq_getElem hk]; exact List.getElem_mem hk)
    have hc := cntL_le fs N N i h1
    exact ⟨i, _, h2, h1, hc.1, hc.2, (hwn i h1).2⟩
  · have := hsz fun _ => 1
    simp only [Int.mul_one] at this
    rw [sizeS, List.take_of_length_le (Nat.le_refl _), this, eds]
  · have := hsz fun x => x
    rw [holdS, List.take_of_length_le (Nat.le_refl _), this, eds]
    have key : ∀ k, k ≤ N → allS (fun i => if 0 < ds.getD i 0 then ws.getD i 0 else 0) k - allS (fun i => if 0 < ds.getD i 0 then h.flatten.getD i 0 else 0) k = allS (fun i => ds.getD i 0) k := fun k => by
      induction k with
      | zero => intro _; rfl
      | succ k ih =>
        intro hk
        have h1 := ih (by omega)
        have h2 := hdi k (by omega)
        have h3 := hwn k (by omega)
        rw [eds] at h2
        simp only [allS]
        split <;> omega
    have h4 := sum_allS ds N (by rw [← eds, hdl]; exact Nat.le_refl _)
    rw [List.take_of_length_le (by rw [← eds, hdl]; exact Nat.le_refl _)] at h4
    rw [h4, key N (Nat.le_refl _)]
  · intro i hi
    rw [hdl] at hi
    rw [hdi i hi]
    have h1 := hwn i hi
    have h2 := hpn i (by omega)
    omega
end Go.Proofs.YtgecghngfonejaaDoor
