/- The laws on sums of sand, as lists. -/
import Derived.Test.YthgafljbbkgldaaDoorSandL
namespace Go.Proofs.YthgafljbbkgldaaDoor
open Go.RowKit

/-- Numbers of 0 up to 9 for a box. -/
structure Nine (n m : Nat) (x : List Int) : Prop where
  box : Box n m
  len : x.length = n * m
  num : ∀ j, j < n * m → 0 ≤ x.getD j 0 ∧ x.getD j 0 ≤ 9
theorem Nine.of {h : List (List Int)} {n m : Nat} (hs : vSand h = true) (hn : h.length = n) (hm : (h.getD 0 []).length = m) : Nine n m h.flatten ∧ h = shapeL h.flatten m n := by
  subst hn hm
  obtain ⟨_, sd, num, hg⟩ := sand_of hs
  exact ⟨⟨sd.box, sd.len, num⟩, (grid_shape (Grid.of hg)).symm⟩
theorem Nine.sandy {n m : Nat} {x : List Int} (h : Nine n m x) : Sandy n m x := ⟨h.box, h.len, fun j hj => by have := h.num j hj; omega⟩
theorem Nine.plus {n m : Nat} {x y : List Int} (h : Nine n m x) (k : Nine n m y) : Sandy n m (plusL x y) := ⟨h.box, plusL_len h.len k.len, fun j hj => by
  rw [plusL_get h.len k.len j hj]
  have := h.num j hj
  have := k.num j hj
  omega⟩
theorem Nine.calm {n m : Nat} {x : List Int} (h : Sandy n m x) : Nine n m (calmL n m x) := ⟨h.box, h.calm_len, h.calm9⟩
theorem Nine.zero {n m : Nat} (hb : Box n m) : Nine n m (zeroL n m) := .calm (rest_sandy hb).1
theorem Nine.three {n m : Nat} (hb : Box n m) : Nine n m (List.replicate (n * m) 3) := ⟨hb, by simp, fun j hj => by simp [List.getD_eq_getElem?_getD, hj]⟩
theorem addOk_shape {n m : Nat} {x y : List Int} (h : Nine n m x) (k : Nine n m y) : addOk (shapeL x m n) (shapeL y m n) = true := by
  unfold addOk
  rw [vSand_shape h.box h.len h.num, vSand_shape k.box k.len k.num, shapeL_len, shapeL_len, shape_first h.box h.len, shape_first k.box k.len]
  simp
theorem addX_shape {n m : Nat} {x y : List Int} (h : Nine n m x) (k : Nine n m y) : addX (shapeL x m n) (shapeL y m n) = shapeL (calmL n m (plusL x y)) m n := by
  rw [addX, if_pos (addOk_shape h k), shapeL_len, shape_first h.box h.len, shapeL_flat _ _ _ h.len, shapeL_flat _ _ _ k.len]
theorem addOk_sands {a b : List (List Int)} (h : addOk a b = true) : ∃ n m, a.length = n ∧ b.length = n ∧ Nine n m a.flatten ∧ Nine n m b.flatten ∧ a = shapeL a.flatten m n ∧ b = shapeL b.flatten m n := by
  unfold addOk at h
  simp only [Bool.and_eq_true, decide_eq_true_eq] at h
  obtain ⟨⟨⟨ha, hb⟩, hl⟩, hm⟩ := h
  have h1 := Nine.of ha rfl rfl
  have h2 := Nine.of hb hl.symm hm.symm
  exact ⟨_, _, rfl, hl.symm, h1.1, h2.1, h1.2, h2.2⟩
theorem burnsX_shape {n m : Nat} {x : List Int} (h : Nine n m x) : burnsX (shapeL x m n) ↔ burnsP n m x := by
  unfold burnsX
  rw [shapeL_len, shape_first h.box h.len, shapeL_flat _ _ _ h.len]
  exact ⟨fun k => k.2, fun k => ⟨vSand_shape h.box h.len h.num, k⟩⟩
theorem zeroX_box {n m : Nat} (hb : Box n m) : zeroX n m = shapeL (zeroL n m) m n := by
  have h1 := hb.1
  have h2 := hb.2
  rw [zeroX, if_pos (by omega)]
  simp
theorem TRuns.plusTo {N : Nat} {D : Nat → Nat → Int} {x t y a X Y : Nat → Int} (h : TRuns N D x t y) (ha : ∀ j, j < N → 0 ≤ a j) (hX : ∀ j, j < N → X j = x j + a j) (hY : ∀ j, j < N → Y j = y j + a j) : TRuns N D X t Y :=
  (h.more ha hX).congr (fun _ _ => rfl) (fun _ _ => rfl) hY
/-- Both ways of adding zero to a sum. -/
theorem group_one {n m : Nat} {a b : List Int} (ha : Nine n m a) (hb : Nine n m b) : calmL n m (plusL (zeroL n m) (calmL n m (plusL a b))) = calmL n m (plusL (calmL n m (plusL (zeroL n m) a)) (calmL n m (plusL (zeroL n m) b))) := by
  have hbox := ha.box
  have hz := Nine.zero hbox
  have hzz := (zero_facts hbox).2.2.1
  obtain ⟨z, ez⟩ : ∃ z, zeroL n m = z := ⟨_, rfl⟩
  rw [ez] at hz hzz ⊢
  have sab := ha.plus hb
  have sza := hz.plus ha
  have szb := hz.plus hb
  have szz := hz.plus hz
  have s1 := hz.plus (Nine.calm sab)
  have s2 := (Nine.calm sza).plus (Nine.calm szb)
  refine ext_sand s1.calm_len s2.calm_len ?_
  have pz := fun j hj => (hz.num j hj).1
  have pa := fun j hj => (ha.num j hj).1
  have pb := fun j hj => (hb.num j hj).1
  have rzz := szz.stab.runs
  have e0 : TRuns (n * m) (dS n m) (fun j => z.getD j 0 + z.getD j 0 + a.getD j 0 + b.getD j 0) (fun j => (timesL n m (plusL z z)).getD j 0) (fun j => z.getD j 0 + a.getD j 0 + b.getD j 0) :=
    rzz.plusTo (a := fun j => a.getD j 0 + b.getD j 0) (fun j hj => by have := pa j hj; have := pb j hj; omega) (fun j hj => by rw [plusL_get hz.len hz.len j hj]; omega) (fun j hj => by rw [hzz]; omega)
  have e1 : TRuns (n * m) (dS n m) (fun j => z.getD j 0 + a.getD j 0 + b.getD j 0) (fun j => (timesL n m (plusL a b)).getD j 0) (fun j => (plusL z (calmL n m (plusL a b))).getD j 0) :=
    sab.stab.runs.plusTo (a := fun j => z.getD j 0) pz (fun j hj => by rw [plusL_get ha.len hb.len j hj]; omega) (fun j hj => by rw [plusL_get hz.len sab.calm_len j hj]; omega)
  have f0 : TRuns (n * m) (dS n m) (fun j => z.getD j 0 + z.getD j 0 + a.getD j 0 + b.getD j 0) (fun j => (timesL n m (plusL z a)).getD j 0) (fun j => (calmL n m (plusL z a)).getD j 0 + (z.getD j 0 + b.getD j 0)) :=
    sza.stab.runs.plusTo (a := fun j => z.getD j 0 + b.getD j 0) (fun j hj => by have := pz j hj; have := pb j hj; omega) (fun j hj => by rw [plusL_get hz.len ha.len j hj]; omega) (fun _ _ => rfl)
  have f1 : TRuns (n * m) (dS n m) (fun j => (calmL n m (plusL z a)).getD j 0 + (z.getD j 0 + b.getD j 0)) (fun j => (timesL n m (plusL z b)).getD j 0) (fun j => (plusL (calmL n m (plusL z a)) (calmL n m (plusL z b))).getD j 0) :=
    szb.stab.runs.plusTo (a := fun j => (calmL n m (plusL z a)).getD j 0) (fun j hj => (sza.calm_num j hj).1) (fun j hj => by rw [plusL_get hz.len hb.len j hj]; omega) (fun j hj => by rw [plusL_get sza.calm_len szb.calm_len j hj]; omega)
  exact fun i hi => (Stab.uniq (dS_off n m) ⟨(e0.trans e1).trans s1.stab.runs, s1.stab.calm⟩ ⟨(f0.trans f1).trans s2.stab.runs, s2.stab.calm⟩ i hi).2
theorem group_two {n m : Nat} {a : List Int} (ha : Nine n m a) : calmL n m (plusL (calmL n m (plusL (zeroL n m) a)) (zeroL n m)) = calmL n m (plusL (zeroL n m) a) := by
  have hbox := ha.box
  have hz := Nine.zero hbox
  have hzz := (zero_facts hbox).2.2.1
  obtain ⟨z, ez⟩ : ∃ z, zeroL n m = z := ⟨_, rfl⟩
  rw [ez] at hz hzz ⊢
  have sza := hz.plus ha
  have szz := hz.plus hz
  have s1 := (Nine.calm sza).plus hz
  refine ext_sand s1.calm_len sza.calm_len ?_
  have pz := fun j hj => (hz.num j hj).1
  have pa := fun j hj => (ha.num j hj).1
  have e0 : TRuns (n * m) (dS n m) (fun j => z.getD j 0 + z.getD j 0 + a.getD j 0) (fun j => (timesL n m (plusL z a)).getD j 0) (fun j => (plusL (calmL n m (plusL z a)) z).getD j 0) :=
    sza.stab.runs.plusTo (a := fun j => z.getD j 0) pz (fun j hj => by rw [plusL_get hz.len ha.len j hj]; omega) (fun j hj => by rw [plusL_get sza.calm_len hz.len j hj])
  have f0 : TRuns (n * m) (dS n m) (fun j => z.getD j 0 + z.getD j 0 + a.getD j 0) (fun j => (timesL n m (plusL z z)).getD j 0) (fun j => (plusL z a).getD j 0) :=
    szz.stab.runs.plusTo (a := fun j => a.getD j 0) pa (fun j hj => by rw [plusL_get hz.len hz.len j hj]) (fun j hj => by rw [hzz, plusL_get hz.len ha.len j hj])
  exact fun i hi => (Stab.uniq (dS_off n m) ⟨e0.trans s1.stab.runs, s1.stab.calm⟩ ⟨f0.trans sza.stab.runs, sza.stab.calm⟩ i hi).2
theorem zero_law {n m : Nat} (hb : Box n m) : burnsX (shapeL (zeroL n m) m n) ∧ addX (shapeL (zeroL n m) m n) (shapeL (zeroL n m) m n) = shapeL (zeroL n m) m n ∧ addX (List.replicate n (List.replicate m 3)) (shapeL (zeroL n m) m n) = List.replicate n (List.replicate m 3) ∧ burnsX (List.replicate n (List.replicate m 3)) := by
  have hz := Nine.zero hb
  have h3 := Nine.three hb
  have zf := zero_facts hb
  rw [← shapeL_rep, addX_shape hz hz, addX_shape h3 hz, zf.2.2.1, zf.2.2.2.1, burnsX_shape hz, burnsX_shape h3]
  exact ⟨⟨fun i hi => by have := (zero_sandy hb).2 i hi; omega, zero_burns hb⟩, rfl, rfl, ⟨fun i hi => by simp [List.getD_eq_getElem?_getD, hi], three_burns hb⟩⟩

/-- Rows of a pattern. -/
def patRow (f : Nat → Nat → Int) (r m : Nat) : List Int := (List.range m).map fun k => f r k
def patRows (f : Nat → Nat → Int) (n m : Nat) : List (List Int) := (List.range n).map fun r => patRow f r m
theorem patRow_len (f : Nat → Nat → Int) (r m : Nat) : (patRow f r m).length = m := by simp [patRow]
theorem patRows_len (f : Nat → Nat → Int) (n m : Nat) : (patRows f n m).length = n := by simp [patRows]
theorem patRow_succ (f : Nat → Nat → Int) (r m : Nat) : patRow f r (m + 1) = patRow f r m ++ [f r m] := by simp [patRow, List.range_succ]
theorem patRows_succ (f : Nat → Nat → Int) (n m : Nat) : patRows f (n + 1) m = patRows f n m ++ [patRow f n m] := by simp [patRows, List.range_succ]
def fAdd (r k : Nat) : Int := ((r + 2 * k) % 4 : Nat)
def fBurn (r k : Nat) : Int := ((3 * r + k) % 5 : Nat)
theorem pat_add {n m : Nat} (hb : Box n m) : vSand (patRows fAdd n m) = true ∧ (patRows fAdd n m).length = n ∧ ((patRows fAdd n m).getD 0 []).length = m := box_all (P := fun n m => vSand (patRows fAdd n m) = true ∧ (patRows fAdd n m).length = n ∧ ((patRows fAdd n m).getD 0 []).length = m) (by decide +kernel) hb
theorem pat_burn {n m : Nat} (hb : Box n m) : vSand (patRows fBurn n m) = true ∧ (patRows fBurn n m).length = n ∧ ((patRows fBurn n m).getD 0 []).length = m := box_all (P := fun n m => vSand (patRows fBurn n m) = true ∧ (patRows fBurn n m).length = n ∧ ((patRows fBurn n m).getD 0 []).length = m) (by decide +kernel) hb
/-- Added in any order. -/
theorem add_law {a b : List (List Int)} {n m : Nat} (h : addOk a b = true) (hn : a.length = n) (hm : (a.getD 0 []).length = m) : addX b a = addX a b ∧ addX (addX a b) (patRows fAdd n m) = addX a (addX b (patRows fAdd n m)) := by
  obtain ⟨n', m', e1, e2, ha, hb, ea, eb⟩ := addOk_sands h
  have em : m' = m := by
    rw [← hm, ea]
    exact (shape_first ha.box ha.len).symm
  obtain rfl : n' = n := by omega
  subst em
  obtain ⟨p1, p2, p3⟩ := pat_add ha.box
  obtain ⟨hc, ec⟩ := Nine.of p1 p2 p3
  rw [ea, eb, ec]
  rw [addX_shape ha hb, addX_shape hb ha, plusL_comm b.flatten]
  refine ⟨rfl, ?_⟩
  have sab := ha.plus hb
  have sbc := hb.plus hc
  rw [addX_shape hb hc, addX_shape (Nine.calm sab) hc, addX_shape ha (Nine.calm sbc)]
  congr 1
  exact calm_assoc ha.len hb.len hc.len (fun j hj => (ha.num j hj).1) (fun j hj => (hc.num j hj).1) sab sbc ((Nine.calm sab).plus hc) (ha.plus (Nine.calm sbc))
/-- What burns burns with more. -/
theorem burn_law {h : List (List Int)} {n m : Nat} (hb : burnsX h) (hn : h.length = n) (hm : (h.getD 0 []).length = m) : burnsX (addX h (patRows fBurn n m)) ∧ calmX h = h := by
  obtain ⟨hs, hp⟩ := hb
  have hx := Nine.of hs hn hm
  rw [hn, hm] at hp
  obtain ⟨p1, p2, p3⟩ := pat_burn hx.1.box
  obtain ⟨hc, ec⟩ := Nine.of p1 p2 p3
  have hsum := hx.1.plus hc
  rw [hx.2, ec, addX_shape hx.1 hc, burnsX_shape (Nine.calm hsum), calmX_shape hx.1.box hx.1.len hx.1.num]
  exact ⟨NoForb.plus hp.2 hx.1.len hc.len (fun j hj => (hc.num j hj).1) hsum, by rw [hx.1.sandy.calm_self hp.1]⟩
/-- The law of the group. -/
theorem group_law {a b : List (List Int)} {n m : Nat} (h : addOk a b = true) (hn : a.length = n) (hm : (a.getD 0 []).length = m) : addX (zeroX n m) (addX a b) = addX (addX (zeroX n m) a) (addX (zeroX n m) b) ∧ burnsX (addX (zeroX n m) a) ∧ burnsX (addX (addX (zeroX n m) a) (addX (zeroX n m) b)) ∧ addX (addX (zeroX n m) a) (zeroX n m) = addX (zeroX n m) a := by
  obtain ⟨n', m', e1, e2, ha, hb, ea, eb⟩ := addOk_sands h
  have em : m' = m := by
    rw [← hm, ea]
    exact (shape_first ha.box ha.len).symm
  obtain rfl : n' = n := by omega
  subst em
  have hz := Nine.zero ha.box
  have sza := hz.plus ha
  have szb := hz.plus hb
  have sab := ha.plus hb
  have sxy := (Nine.calm sza).plus (Nine.calm szb)
  have bx := NoForb.plus (zero_burns ha.box) hz.len ha.len (fun j hj => (ha.num j hj).1) sza
  rw [zeroX_box ha.box, ea, eb, addX_shape ha hb, addX_shape hz ha, addX_shape hz hb, addX_shape hz (Nine.calm sab), addX_shape (Nine.calm sza) (Nine.calm szb), addX_shape (Nine.calm sza) hz, burnsX_shape (Nine.calm sza), burnsX_shape (Nine.calm sxy), group_one ha hb, group_two ha]
  exact ⟨rfl, bx, NoForb.plus bx.2 sza.calm_len szb.calm_len (fun j hj => (szb.calm_num j hj).1) sxy, rfl⟩
end Go.Proofs.YthgafljbbkgldaaDoor
