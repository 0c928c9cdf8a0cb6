/- The contracts of impl.CalmFirst, CalmLast, TopplesOf and AddSand. -/
import Derived.Test.YthgafljbbkgldaaDoorTop
import Derived.Test.YthgafljbbkgldaaDoorBurn
import Derived.Test.YthgafljbbkgldaaDoorShapeF
namespace Go.Proofs.YthgafljbbkgldaaDoor
open Go.RowKit

/-- What CalmFirst and CalmLast answer, and what TopplesOf does. -/
def calmX (h : List (List Int)) : List (List Int) := if vSand h = true then shapeL (calmL h.length (h.getD 0 []).length h.flatten) (h.getD 0 []).length h.length else []
def timesX (h : List (List Int)) : List (List Int) := if vSand h = true then shapeL (timesL h.length (h.getD 0 []).length h.flatten) (h.getD 0 []).length h.length else []
theorem sandV_of {w : World} {v : Value} {h : List (List Int)} (hv : RowsV w v h) (hs : vSand h = true) : SandV w v h h.length (h.getD 0 []).length h.flatten := ⟨hv, (sand_of hs).1, rfl, rfl, (sand_of hs).2.1⟩
theorem shape_sandV {w : World} {v : Value} {n m : Nat} {x : List Int} (hx : Sandy n m x) (hv : RowsV w v (shapeL x m n)) : SandV w v (shapeL x m n) n m x := by
  have hb := hx.box
  refine ⟨hv, ⟨by rw [shapeL_len]; exact hb.1.1, by rw [shapeL_len]; have := hb.1.2; omega, hb.2.1, by have := hb.2.2; omega, fun r hr => ?_⟩, shapeL_len _ _ _, shapeL_flat _ _ _ hx.len, hx⟩
  rw [shapeL_len] at hr
  exact shapeL_row _ _ _ _ hx.len hr

set_option maxRecDepth 100000 in
set_option maxHeartbeats 1000000 in
theorem CalmFirst_any (v : Value) (h : List (List Int)) (w : World) (hv : RowsV w v h) (hS : Steps w) :
    Calls Tryd.prog 18 #[v] w (NewRows w (calmX h)) := by
  have HV := Lib.hid (ValidSand_any v h w hv)
  have HR := Lib.hid hv
  have HS := Lib.hid hS
  obtain ⟨a, b, o, c, ev, _, _, _⟩ := hv.shape
  clear hv hS
  cases hs : vSand h with
  | false =>
    rw [hs] at HV
    have HE : Hid (calmX h = []) := Lib.hid (by rw [calmX, hs]; rfl)
    clear hs
    subst ev
    go_enter Tryd.func18, Tryd.ntmps18
    go_wp2_with (fail)
    refine HV.out.mono ?_
    rintro e w1 ⟨rfl, rfl⟩
    go_wp2
    go_ret
    rw [HE.out]
    exact ⟨_, rfl, RowsO.nil _ _ _ _ _, Grew.refl _⟩
  | true =>
    rw [hs] at HV
    have HE : Hid (shapeL (calmL h.length (h.getD 0 []).length h.flatten) (h.getD 0 []).length h.length = calmX h) := Lib.hid (by rw [calmX, if_pos hs])
    have HT : Hid (Calls Tryd.prog 49 #[v, firstV] w (TopPost h.length (h.getD 0 []).length h.flatten w)) := Lib.hid (toppled_any v firstV h _ _ _ w (sandV_of HR.out hs) HS.out first_picks)
    unfold firstV at HT
    clear hs
    subst ev
    go_enter Tryd.func18, Tryd.ntmps18
    go_wp2_with (fail)
    refine HV.out.mono ?_
    rintro e w1 ⟨rfl, rfl⟩
    go_wp2_with (fail)
    refine HT.out.mono ?_
    rintro e w2 ⟨v1, v2, rfl, h1, h2, hg⟩
    obtain ⟨a1, c1, rfl⟩ := h1.sh
    obtain ⟨a2, c2, rfl⟩ := h2.sh
    have HF := Lib.hid (And.intro h1 (And.intro h2 hg))
    clear h1 h2 hg
    go_wp2
    go_ret
    rw [← HE.out]
    exact ⟨_, rfl, HF.out.1, HF.out.2.2⟩

set_option maxRecDepth 100000 in
set_option maxHeartbeats 1000000 in
theorem CalmLast_any (v : Value) (h : List (List Int)) (w : World) (hv : RowsV w v h) (hS : Steps w) :
    Calls Tryd.prog 22 #[v] w (NewRows w (calmX h)) := by
  have HV := Lib.hid (ValidSand_any v h w hv)
  have HR := Lib.hid hv
  have HS := Lib.hid hS
  obtain ⟨a, b, o, c, ev, _, _, _⟩ := hv.shape
  clear hv hS
  cases hs : vSand h with
  | false =>
    rw [hs] at HV
    have HE : Hid (calmX h = []) := Lib.hid (by rw [calmX, hs]; rfl)
    clear hs
    subst ev
    go_enter Tryd.func22, Tryd.ntmps22
    go_wp2_with (fail)
    refine HV.out.mono ?_
    rintro e w1 ⟨rfl, rfl⟩
    go_wp2
    go_ret
    rw [HE.out]
    exact ⟨_, rfl, RowsO.nil _ _ _ _ _, Grew.refl _⟩
  | true =>
    rw [hs] at HV
    have HE : Hid (shapeL (calmL h.length (h.getD 0 []).length h.flatten) (h.getD 0 []).length h.length = calmX h) := Lib.hid (by rw [calmX, if_pos hs])
    have HT : Hid (Calls Tryd.prog 49 #[v, lastV] w (TopPost h.length (h.getD 0 []).length h.flatten w)) := Lib.hid (toppled_any v lastV h _ _ _ w (sandV_of HR.out hs) HS.out last_picks)
    unfold lastV at HT
    clear hs
    subst ev
    go_enter Tryd.func22, Tryd.ntmps22
    go_wp2_with (fail)
    refine HV.out.mono ?_
    rintro e w1 ⟨rfl, rfl⟩
    go_wp2_with (fail)
    refine HT.out.mono ?_
    rintro e w2 ⟨v1, v2, rfl, h1, h2, hg⟩
    obtain ⟨a1, c1, rfl⟩ := h1.sh
    obtain ⟨a2, c2, rfl⟩ := h2.sh
    have HF := Lib.hid (And.intro h1 (And.intro h2 hg))
    clear h1 h2 hg
    go_wp2
    go_ret
    rw [← HE.out]
    exact ⟨_, rfl, HF.out.1, HF.out.2.2⟩

set_option maxRecDepth 100000 in
set_option maxHeartbeats 1000000 in
theorem TopplesOf_any (v : Value) (h : List (List Int)) (w : World) (hv : RowsV w v h) (hS : Steps w) :
    Calls Tryd.prog 28 #[v] w (NewRows w (timesX h)) := by
  have HV := Lib.hid (ValidSand_any v h w hv)
  have HR := Lib.hid hv
  have HS := Lib.hid hS
  obtain ⟨a, b, o, c, ev, _, _, _⟩ := hv.shape
  clear hv hS
  cases hs : vSand h with
  | false =>
    rw [hs] at HV
    have HE : Hid (timesX h = []) := Lib.hid (by rw [timesX, hs]; rfl)
    clear hs
    subst ev
    go_enter Tryd.func28, Tryd.ntmps28
    go_wp2_with (fail)
    refine HV.out.mono ?_
    rintro e w1 ⟨rfl, rfl⟩
    go_wp2
    go_ret
    rw [HE.out]
    exact ⟨_, rfl, RowsO.nil _ _ _ _ _, Grew.refl _⟩
  | true =>
    rw [hs] at HV
    have HE : Hid (shapeL (timesL h.length (h.getD 0 []).length h.flatten) (h.getD 0 []).length h.length = timesX h) := Lib.hid (by rw [timesX, if_pos hs])
    have HT : Hid (Calls Tryd.prog 49 #[v, firstV] w (TopPost h.length (h.getD 0 []).length h.flatten w)) := Lib.hid (toppled_any v firstV h _ _ _ w (sandV_of HR.out hs) HS.out first_picks)
    unfold firstV at HT
    clear hs
    subst ev
    go_enter Tryd.func28, Tryd.ntmps28
    go_wp2_with (fail)
    refine HV.out.mono ?_
    rintro e w1 ⟨rfl, rfl⟩
    go_wp2_with (fail)
    refine HT.out.mono ?_
    rintro e w2 ⟨v1, v2, rfl, h1, h2, hg⟩
    obtain ⟨a1, c1, rfl⟩ := h1.sh
    obtain ⟨a2, c2, rfl⟩ := h2.sh
    have HF := Lib.hid (And.intro h1 (And.intro h2 hg))
    clear h1 h2 hg
    go_wp2
    go_ret
    rw [← HE.out]
    exact ⟨_, rfl, HF.out.2.1, HF.out.2.2⟩
end Go.Proofs.YthgafljbbkgldaaDoor
