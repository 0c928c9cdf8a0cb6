/- What the laws on sand ask, of lists. -/
import Derived.Test.YthgafljbbkgldaaDoorSandX
import Derived.Test.YthgafljbbkgldaaDoorSandZ
import Derived.Test.YthgafljbbkgldaaDoorSumTo
namespace Go.Proofs.YthgafljbbkgldaaDoor
open Go.RowKit

theorem calmX_yes {h : List (List Int)} (hs : vSand h = true) : calmX h = shapeL (calmL h.length (h.getD 0 []).length h.flatten) (h.getD 0 []).length h.length := if_pos hs
theorem calmX_ne {h : List (List Int)} (hs : vSand h = true) : (calmX h).length = h.length ∧ 1 ≤ h.length := by
  rw [calmX_yes hs, shapeL_len]
  exact ⟨rfl, (sand_of hs).2.1.box.1.1⟩
theorem sand_yes {h : List (List Int)} (hl : (calmX h).length ≠ 0) : vSand h = true := by
  refine Classical.byContradiction fun hn => hl ?_
  rw [calmX, if_neg hn]
  rfl
theorem times_yes {h : List (List Int)} (hl : (timesX h).length ≠ 0) : vSand h = true := by
  refine Classical.byContradiction fun hn => hl ?_
  rw [timesX, if_neg hn]
  rfl
theorem add_yes {a b : List (List Int)} (hl : (addX a b).length ≠ 0) : addOk a b = true := by
  refine Classical.byContradiction fun hn => hl ?_
  rw [addX, if_neg hn]
  rfl
/-- A grid is its numbers cut into rows. -/
theorem grid_shape {h : List (List Int)} {m : Nat} (g : Grid h m) : shapeL h.flatten m h.length = h := by
  apply List.ext_getElem
  · rw [shapeL_len]
  · intro r h1 h2
    have e1 := shapeL_at h.flatten m h.length r h2
    rw [List.getD_eq_getElem?_getD, List.getElem?_eq_getElem h1, Option.getD_some] at e1
    have hlr := g.len r h2
    rw [List.getD_eq_getElem?_getD, List.getElem?_eq_getElem h2, Option.getD_some] at hlr
    have hrm : r * m + m ≤ h.length * m := by
      have := Nat.mul_le_mul_right m (show r + 1 ≤ h.length from h2)
      rw [Nat.succ_mul] at this
      exact this
    rw [e1]
    refine ext_sand (cut_len _ _ _ (by rw [flat_grid_len g]; exact hrm)) hlr fun i hi => ?_
    rw [cut_at _ _ _ _ hi, flat_at g _ (by omega)]
    have q1 : (r * m + i) / m = r := by rw [Nat.mul_comm, Nat.mul_add_div (by omega), Nat.div_eq_of_lt hi]; rfl
    have q2 : (r * m + i) % m = i := by rw [Nat.mul_comm, Nat.mul_add_mod, Nat.mod_eq_of_lt hi]
    rw [q1, q2]
    congr 1
    rw [List.getD_eq_getElem?_getD, List.getElem?_eq_getElem h2, Option.getD_some]
/-- Calm sand of a box is sand, and a grid. -/
theorem shape_grid {n m : Nat} {x : List Int} (hb : Box n m) (hl : x.length = n * m) (hx : ∀ j, j < n * m → 0 ≤ x.getD j 0 ∧ x.getD j 0 ≤ 9) : Grid (shapeL x m n) m := by
  have := Grid.of (sand_of (vSand_shape hb hl hx)).2.2.2
  rwa [shape_first hb hl] at this
theorem Sandy.calm9 {n m : Nat} {x : List Int} (h : Sandy n m x) : ∀ j, j < n * m → 0 ≤ (calmL n m x).getD j 0 ∧ (calmL n m x).getD j 0 ≤ 9 := fun j hj => by have := h.calm_num j hj; omega
theorem place_lt {n m r q : Nat} (hr : r < n) (hq : q < m) : r * m + q < n * m := by
  have := Nat.mul_le_mul_right m (show r + 1 ≤ n from hr)
  rw [Nat.succ_mul] at this
  omega
/-- Rows as columns: what stands where. -/
theorem flip_flat {h : List (List Int)} {m : Nat} (g : Grid h m) (j : Nat) (hj : j < m * h.length) : (flipL h).flatten.getD j 0 = h.flatten.getD (j % h.length * m + j / h.length) 0 := by
  have hn := g.n1
  have hm1 := g.m1
  have g2 := flip_grid g
  have hl : (flipL h).length = m := flipL_len (g.len 0 g.n1)
  have hr : j % h.length < h.length := Nat.mod_lt _ (by omega)
  have hc : j / h.length < m := Nat.div_lt_of_lt_mul (by rw [Nat.mul_comm]; exact hj)
  rw [flat_at g2 j (by rw [hl]; exact hj), flipL_at (g.len 0 g.n1) _ hc, getD_map' _ _ _ [] 0 hr]
  have hlt : j % h.length * m + j / h.length < h.length * m := place_lt hr hc
  rw [flat_at g _ hlt]
  have q1 : (j % h.length * m + j / h.length) / m = j % h.length := by rw [Nat.mul_comm, Nat.mul_add_div (by omega), Nat.div_eq_of_lt hc]; rfl
  have q2 : (j % h.length * m + j / h.length) % m = j / h.length := by rw [Nat.mul_comm, Nat.mul_add_mod, Nat.mod_eq_of_lt hc]
  rw [q1, q2]
theorem Box.flip {n m : Nat} (hb : Box n m) : Box m n := ⟨hb.2, hb.1⟩
/-- Turned sand calms down turned. -/
theorem flip_calm {h : List (List Int)} (hs : vSand h = true) : vSand (flipL h) = true ∧ calmX (flipL h) = flipL (calmX h) := by
  obtain ⟨_, sd, num, hg⟩ := sand_of hs
  have G := Grid.of hg
  rw [calmX_yes hs]
  obtain ⟨m, em⟩ : ∃ m, (h.getD 0 []).length = m := ⟨_, rfl⟩
  rw [em] at sd num G ⊢
  obtain ⟨n, en⟩ : ∃ n, h.length = n := ⟨_, rfl⟩
  have hb := sd.box
  have g2 := flip_grid G
  have hl2 : (flipL h).length = m := flipL_len em
  have hff := fun j hj => flip_flat G j hj
  have hfl : (flipL h).flatten.length = m * n := by rw [flat_grid_len g2, hl2, en]
  rw [en] at sd num hb g2 hff ⊢
  obtain ⟨tin, tinj, tinv⟩ := turn_in hb
  have hx9 : ∀ j, j < m * n → 0 ≤ (flipL h).flatten.getD j 0 ∧ (flipL h).flatten.getD j 0 ≤ 9 := fun j hj => by
    rw [hff j hj]
    exact num _ (by rw [Nat.mul_comm n m]; exact tin j hj)
  have hfs : vSand (flipL h) = true := by
    rw [← grid_shape g2, hl2]
    exact vSand_shape hb.flip hfl hx9
  refine ⟨hfs, ?_⟩
  have hf0 : ((flipL h).getD 0 []).length = n := g2.len 0 (by rw [hl2]; exact hb.2.1)
  rw [calmX_yes hfs, hf0, hl2]
  have sf : Sandy m n (flipL h).flatten := ⟨hb.flip, hfl, fun j hj => by have := hx9 j hj; omega⟩
  have gc := shape_grid hb sd.calm_len sd.calm9
  have hcl : (shapeL (calmL n m h.flatten) m n).length = n := shapeL_len _ _ _
  have gfc := flip_grid gc
  rw [hcl] at gfc
  have hfcl : (flipL (shapeL (calmL n m h.flatten) m n)).length = m := flipL_len (shape_first hb sd.calm_len)
  rw [← grid_shape gfc, hfcl]
  congr 1
  refine ext_sand sf.calm_len (by rw [flat_grid_len gfc, hfcl]) fun j hj => ?_
  have hgj := flip_flat gc j (by rw [hcl]; exact hj)
  rw [hcl, shapeL_flat _ _ _ sd.calm_len] at hgj
  rw [hgj]
  have hcomm : n * m = m * n := Nat.mul_comm n m
  have st := sd.stab
  rw [hcomm] at st
  have turned : Stab (m * n) (dS m n) (fun j => h.flatten.getD (j % n * m + j / n) 0) (fun j => (timesL n m h.flatten).getD (j % n * m + j / n) 0) (fun j => (calmL n m h.flatten).getD (j % n * m + j / n) 0) :=
    ⟨TRuns.turn (fun j => j % n * m + j / n) tin (fun j hj i hi e => tinj j hj i hi e) (fun j => j % m * n + j / m) (fun j hj => tinv j hj) (fun i hi j hj => dS_turn hb i hi j hj) st.runs, fun i hi => st.calm _ (tin i hi)⟩
  exact (Stab.uniq (dS_off m n) sf.stab (turned.congr (fun j hj => hff j hj) (fun _ _ => rfl) fun _ _ => rfl) j hj).2
/-- Made calm twice: once; and no more of it. -/
theorem calm_twice {h : List (List Int)} (hs : vSand h = true) : vSand (calmX h) = true ∧ calmX (calmX h) = calmX h := by
  obtain ⟨_, sd, num, hg⟩ := sand_of hs
  rw [calmX_yes hs]
  have h1 := vSand_shape sd.box sd.calm_len sd.calm9
  refine ⟨h1, ?_⟩
  rw [calmX_shape sd.box sd.calm_len sd.calm9, sd.calm_sandy.calm_self fun i hi => by have := sd.calm_num i hi; omega]
theorem sumTo_sumN (f : Nat → Int) (n : Nat) : sumTo f n = sumN n f := by
  induction n with
  | zero => rfl
  | succ n ih => rw [sumTo, sumN, ih]
theorem dS_loss {n m : Nat} (hb : Box n m) : ∀ i, i < n * m → sumN (n * m) (dS n m i) ≤ 0 := box_all (P := fun n m => ∀ i, i < n * m → sumN (n * m) (dS n m i) ≤ 0) (by decide +kernel) hb
theorem TRuns.loses {n m : Nat} (hb : Box n m) {x t y : Nat → Int} (h : TRuns (n * m) (dS n m) x t y) : sumN (n * m) y ≤ sumN (n * m) x := by
  induction h with
  | nil _ h2 => rw [sumN_congr h2]; exact Int.le_refl _
  | @snoc t y t' y' i _ hi _ _ h2 ih =>
    have e : sumN (n * m) y' = sumN (n * m) y + sumN (n * m) (dS n m i) := by rw [← sumN_add]; exact sumN_congr h2
    have := dS_loss hb i hi
    omega
theorem calm_less {n m : Nat} {x : List Int} (h : Sandy n m x) : sumTo (fun i => (calmL n m x).getD i 0) (n * m) ≤ sumTo (fun i => x.getD i 0) (n * m) := by
  rw [sumTo_sumN, sumTo_sumN]
  exact h.stab.runs.loses h.box
/-- Sums in any order. -/
theorem calm_assoc {n m : Nat} {a b c : List Int} (ha : a.length = n * m) (hb : b.length = n * m) (hc : c.length = n * m) (pa : ∀ j, j < n * m → 0 ≤ a.getD j 0) (pc : ∀ j, j < n * m → 0 ≤ c.getD j 0) (s1 : Sandy n m (plusL a b)) (s2 : Sandy n m (plusL b c)) (s3 : Sandy n m (plusL (calmL n m (plusL a b)) c)) (s4 : Sandy n m (plusL a (calmL n m (plusL b c)))) :
    calmL n m (plusL (calmL n m (plusL a b)) c) = calmL n m (plusL a (calmL n m (plusL b c))) := by
  refine ext_sand s3.calm_len s4.calm_len ?_
  have r1 := (s1.stab.runs.more (a := fun j => c.getD j 0) (x' := fun j => a.getD j 0 + b.getD j 0 + c.getD j 0) pc (fun j hj => by rw [plusL_get ha hb j hj])).trans ((s3.stab.congr (x' := fun j => (calmL n m (plusL a b)).getD j 0 + c.getD j 0) (fun j hj => (plusL_get s1.calm_len hc j hj).symm) (fun _ _ => rfl) (fun _ _ => rfl)).runs)
  have r2 := (s2.stab.runs.more (a := fun j => a.getD j 0) (x' := fun j => a.getD j 0 + b.getD j 0 + c.getD j 0) pa (fun j hj => by rw [plusL_get hb hc j hj]; omega)).trans ((s4.stab.congr (x' := fun j => (calmL n m (plusL b c)).getD j 0 + a.getD j 0) (fun j hj => by rw [plusL_get ha s2.calm_len j hj]; omega) (fun _ _ => rfl) (fun _ _ => rfl)).runs)
  exact fun i hi => (Stab.uniq (dS_off n m) ⟨r1, s3.stab.calm⟩ ⟨r2, s4.stab.calm⟩ i hi).2
/-- What topples is told by how often. -/
theorem beside_told {n m : Nat} (hb : Box n m) : ∀ i, i < n * m → ∀ k, k < n * m → (if ((i / m : Nat) - (k / m : Nat) : Int) * ((i / m : Nat) - (k / m : Nat)) + ((i % m : Nat) - (k % m : Nat) : Int) * ((i % m : Nat) - (k % m : Nat)) = 1 then (1 : Int) else 0) = dS n m k i + (if i = k then 4 else 0) :=
  box_all (P := fun n m => ∀ i, i < n * m → ∀ k, k < n * m → (if ((i / m : Nat) - (k / m : Nat) : Int) * ((i / m : Nat) - (k / m : Nat)) + ((i % m : Nat) - (k % m : Nat) : Int) * ((i % m : Nat) - (k % m : Nat)) = 1 then (1 : Int) else 0) = dS n m k i + (if i = k then 4 else 0)) (by decide +kernel) hb
/-- The law's sum over the first k cells. -/
def nearT (m i : Nat) (t : List Int) (k : Nat) : Int := sumN k fun k => if ((i / m : Nat) - (k / m : Nat) : Int) * ((i / m : Nat) - (k / m : Nat)) + ((i % m : Nat) - (k % m : Nat) : Int) * ((i % m : Nat) - (k % m : Nat)) = 1 then t.getD k 0 else 0
theorem times_told {n m : Nat} {x : List Int} (h : Sandy n m x) (i : Nat) (hi : i < n * m) : (calmL n m x).getD i 0 = x.getD i 0 - 4 * (timesL n m x).getD i 0 + nearT m i (timesL n m x) (n * m) := by
  have h1 := h.stab.runs.lin i hi
  have e : nearT m i (timesL n m x) (n * m) = sumN (n * m) (fun k => (timesL n m x).getD k 0 * dS n m k i) + sumN (n * m) (fun k => if k = i then 4 * (timesL n m x).getD k 0 else 0) := by
    rw [← sumN_add]
    refine sumN_congr fun k hk => ?_
    have := beside_told h.box i hi k hk
    by_cases c : ((i / m : Nat) - (k / m : Nat) : Int) * ((i / m : Nat) - (k / m : Nat)) + ((i % m : Nat) - (k % m : Nat) : Int) * ((i % m : Nat) - (k % m : Nat)) = 1
    · rw [if_pos c] at this ⊢
      by_cases e : i = k
      · subst e
        rw [if_pos rfl] at this ⊢
        have : dS n m i i = -3 := by omega
        rw [this]
        omega
      · rw [if_neg e] at this
        rw [if_neg fun e' => e e'.symm, show dS n m k i = 1 by omega]
        omega
    · rw [if_neg c] at this ⊢
      by_cases e : i = k
      · subst e
        rw [if_pos rfl] at this ⊢
        have : dS n m i i = -4 := by omega
        rw [this]
        omega
      · rw [if_neg e] at this
        rw [if_neg fun e' => e e'.symm, show dS n m k i = 0 by omega]
        simp
  rw [e, sumN_one (f := fun k => 4 * (timesL n m x).getD k 0) i hi, h1]
  omega
/-- No topples: calm. -/
theorem times_zero {n m : Nat} {x : List Int} (h : Sandy n m x) : sumTo (fun i => (timesL n m x).getD i 0) (n * m) = 0 ↔ calmL n m x = x := by
  rw [sumTo_sumN]
  have hn := h.stab.runs.nonneg
  constructor
  · intro h0
    refine ext_sand h.calm_len h.len fun i hi => ?_
    have hz : ∀ k, k < n * m → (timesL n m x).getD k 0 = 0 := fun k hk => by
      have := sumN_ge (f := fun j => (timesL n m x).getD j 0) hn k hk
      have := hn k hk
      omega
    rw [h.stab.runs.lin i hi, sumN_zero fun k hk => by rw [hz k hk]; simp]
    omega
  · intro hc
    have hcalm : ∀ i, i < n * m → x.getD i 0 < 4 := fun i hi => by
      have := h.calm.2 i hi
      rwa [hc] at this
    exact sumN_zero fun k hk => (Stab.uniq (dS_off n m) h.stab (Stab.self hcalm) k hk).1
theorem times_mono {n m : Nat} {x y : List Int} (h : Sandy n m x) (k : Sandy n m y) (hxy : ∀ j, j < n * m → x.getD j 0 ≤ y.getD j 0) : ∀ i, i < n * m → (timesL n m x).getD i 0 ≤ (timesL n m y).getD i 0 := Stab.mono (dS_off n m) h.stab k.stab hxy
/-- Zero. -/
theorem zero_sandy {n m : Nat} (hb : Box n m) : Sandy n m (zeroL n m) ∧ (∀ j, j < n * m → 0 ≤ (zeroL n m).getD j 0 ∧ (zeroL n m).getD j 0 ≤ 3) := ⟨(rest_sandy hb).1.calm_sandy, (rest_sandy hb).1.calm_num⟩
theorem zero_burns {n m : Nat} (hb : Box n m) : NoForb n m ((zeroL n m).getD · 0) := burnR_all hb _ 256 (zero_facts hb).2.2.2.2.1
theorem three_burns {n m : Nat} (hb : Box n m) : NoForb n m ((List.replicate (n * m) (3 : Int)).getD · 0) := burnR_all hb _ 256 (zero_facts hb).2.2.2.2.2
theorem NoForb.plus {n m : Nat} {x a : List Int} (hx : NoForb n m (x.getD · 0)) (hxl : x.length = n * m) (hal : a.length = n * m) (ha : ∀ j, j < n * m → 0 ≤ a.getD j 0) (s : Sandy n m (plusL x a)) : burnsP n m (calmL n m (plusL x a)) := by
  refine ⟨s.calm.2, ?_⟩
  have h1 : NoForb n m ((plusL x a).getD · 0) := hx.more fun j hj => by
    show x.getD j 0 ≤ (plusL x a).getD j 0
    rw [plusL_get hxl hal j hj]
    have := ha j hj
    omega
  exact h1.runs s.box s.stab.runs
end Go.Proofs.YthgafljbbkgldaaDoor
