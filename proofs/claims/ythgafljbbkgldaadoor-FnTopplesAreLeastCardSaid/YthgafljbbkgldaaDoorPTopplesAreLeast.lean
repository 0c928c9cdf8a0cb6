/- FnTopplesAreLeast: for every input the law returns true, and the input reads as it did, where the table of steps reads as the program's text lays it; tied to that text. Its conditions: that one listed variable, tied. -/
import Derived.Test.YthgafljbbkgldaaDoorTurns
import Derived.Test.YthgafljbbkgldaaDoorEqualInts
import Derived.Test.YthgafljbbkgldaaDoorSandL
import Derived.Test.YthgafljbbkgldaaDoorDraws10
import Derived.Test.YthgafljbbkgldaaDoorRowOf
import Derived.Test.YthgafljbbkgldaaDoorTotal
import Derived.StillTailTactics
import Derived.Test.YthgafljbbkgldaaDoorCameRows
import Derived.Test.YthgafljbbkgldaaDoorTied
import Derived.Test.YthgafljbbkgldaaDoorWords
import Derived.Test.YthgafljbbkgldaaDoorTie
import Derived.Test.YthgafljbbkgldaaDoorCards
import Derived.SevenTiedAt
/- The contract of laws.raisedBy at 0 and 1. -/
namespace Go.Proofs.YthgafljbbkgldaaDoor
open Go.RowKit

def raisedL (h : List (List Int)) : List (List Int) := h.map fun row => row.map fun x => x + 1
def raisedD (d : Int) (h : List (List Int)) : List (List Int) := h.map fun row => row.map fun x => x + d
theorem raisedD_zero (h : List (List Int)) : raisedD 0 h = h := by simp [raisedD]

set_option maxRecDepth 100000 in
set_option maxHeartbeats 2000000 in
theorem raisedD_any (d : Int) (hd0 : 0 ≤ d) (hd1 : d ≤ 1) (v : Value) (h : List (List Int)) (w : World) (hv : RowsV w v h) (hg : vGrid h = true) :
    Calls Tryd.prog 39 #[v, .int .i64 d] w (NewRows w (raisedD d h)) := by
  have G := Grid.of hg
  obtain ⟨m, em⟩ : ∃ m, (h.getD 0 []).length = m := ⟨_, rfl⟩
  rw [em] at G
  have HG := Lib.hid G
  have b1 := G.n1
  have b5 := G.n5
  have c1 := G.m1
  have c5 := G.m5
  obtain ⟨a, b, o, c, rfl, ⟨hlc, hcb⟩, ha, HC⟩ := hv.shape
  obtain rfl := ha b1
  clear hv hg ha em G
  go_enter Tryd.func39, Tryd.ntmps39
  go_wp2_with (fail)
  have H0 : Hid (RowsO 27 3 w.heap.size (w.alloc (.cells #[] 27)).heap.size (w.alloc (.cells #[] 27)) (.slice (some ⟨w.heap.size, 0, none⟩) 0 0) [] ∧ Grew w (w.alloc (.cells #[] 27))) :=
    ⟨by simpa using RowsO.lit0 27 3 w.heap.size w (Nat.le_refl _), (Grew.refl w).alloc _⟩
  go_loopg [5, 6] h.length (fun gk v i wr => ∃ H g c', v = .slice (some ⟨g, 0, none⟩) (List.length H) c' ∧ i = .int .i64 ((List.length H : Nat) : Int) ∧ List.length H ≤ h.length ∧ h.length ≤ gk + List.length H ∧
    Hid (RowsO 27 3 w.heap.size wr.heap.size wr v H ∧ H = (h.take (List.length H)).map (fun row => row.map fun x => x + d) ∧ Grew w wr))
  case atStart => exact ⟨[], _, _, rfl, rfl, Nat.zero_le _, Nat.le_refl _, H0.out.1, rfl, H0.out.2⟩
  case round =>
    obtain ⟨H, g, c', rfl, rfl, hH1, hH2, HI⟩ := hrel
    clear H0
    by_cases hlt : H.length < h.length
    · obtain ⟨wo, rfl⟩ : ∃ wo : World, wo = wr := ⟨_, rfl⟩
      obtain ⟨gn, rfl⟩ : ∃ gn : Nat, gn = gk := ⟨_, rfl⟩
      have hsw := HI.out.2.2.size
      obtain ⟨u, hck, hu⟩ := HC.out H.length hlt
      have hrl := HG.out.len H.length hlt
      obtain ⟨row, er⟩ : ∃ row, h.getD H.length [] = row := ⟨_, rfl⟩
      have hnum := HG.out.num H.length hlt
      rw [er] at hu hrl hnum
      obtain ⟨a1, b1', o1, c1', rfl, ⟨hlc1, hcb1⟩, ha1, HC1⟩ := hu.shape
      obtain rfl := ha1 (by omega)
      have HCK := Lib.hid (HI.out.2.2.cell hck)
      have HER := Lib.hid (And.intro er (And.intro hrl hnum))
      have hrm : row.length ≤ 5 ∧ 1 ≤ row.length := by omega
      clear hck hu ha1 er hrl hnum
      go_wp2_with (fail)
      have H0 : Hid (IntsO 3 wo.heap.size (wo.alloc (.cells #[] 3)).heap.size (wo.alloc (.cells #[] 3)) (.slice (some ⟨wo.heap.size, 0, none⟩) 0 0) [] ∧ Grew wo (wo.alloc (.cells #[] 3))) :=
        ⟨by simpa using IntsO.lit 3 wo.heap.size wo [] #[] rfl (Nat.le_refl _) (by decide), (Grew.refl wo).alloc _⟩
      go_loopg [7, 8] row.length (fun gk v i wi => ∃ xs g' c', v = .slice (some ⟨g', 0, none⟩) (List.length xs) c' ∧ i = .int .i64 ((List.length xs : Nat) : Int) ∧ List.length xs ≤ row.length ∧ row.length ≤ gk + List.length xs ∧
        Hid (IntsO 3 wo.heap.size wi.heap.size wi v xs ∧ xs = (row.take (List.length xs)).map (fun x => x + d) ∧ Grew wo wi))
      case atStart => exact ⟨[], _, _, rfl, rfl, Nat.zero_le _, Nat.le_refl _, H0.out.1, rfl, H0.out.2⟩
      case round =>
        obtain ⟨xs, g', c2, rfl, rfl, hx1, hx2, HX⟩ := hrel
        clear H0
        have hck' := HX.out.2.2.cell HCK.out
        by_cases hltx : xs.length < row.length
        · have hel := HX.out.2.2.cell (HI.out.2.2.cell (HC1.out xs.length hltx))
          obtain ⟨y, ey⟩ : ∃ y, row.getD xs.length 0 = y := ⟨_, rfl⟩
          have hy := HER.out.2.2 xs.length (by have := HER.out.2.1; omega)
          rw [ey] at hel hy
          have HEY := Lib.hid ey
          clear ey
          go_wp2_with (at_builtin; refine wpList_append_int rfl (.tmp 26) (.tmp 36) 27 rfl Tryd.underlying27 Tryd.infoI rfl rfl rfl HX.out.1 (by omega) HX.out.2.2.size ?_; intro g5 c5 w5 hO5 hW5 hS5)
          have HF := Lib.hid (And.intro hO5 hW5)
          clear hO5 hW5
          go_wp2
          go_roundg (gk - 1)
          case measure => omega
          case rel => exact ⟨xs ++ [y + d], g5, c5, by simp, by simp, by simp; omega, by simp; omega, HF.out.1, snoc_map 0 HX.out.2.1 hltx (by rw [HEY.out]), HF.out.2.grew HX.out.2.2 (Nat.le_refl _)⟩
        · go_wp2_with (at_builtin; refine wpList_append_row rfl (.tmp 38) (.tmp 40) 23 rfl (by decide) Tryd.underlying23 Tryd.infoIs rfl rfl rfl (HI.out.1.grew HX.out.2.2) HX.out.1 (by omega) (by have := HX.out.2.2.size; omega) hsw ?_; intro g5 c5 w5 hO5 hW5 hS5)
          have HF := Lib.hid (And.intro hO5 hW5)
          clear hO5 hW5
          go_wp2
          go_roundg (gn - 1)
          case measure => omega
          case rel => exact ⟨H ++ [xs], g5, c5, by simp, by simp, by simp; omega, by simp; omega, HF.out.1, snoc_map [] HI.out.2.1 hlt (by rw [HER.out.1, HX.out.2.1, List.take_of_length_le (by omega)]), HF.out.2.grew (HI.out.2.2.trans HX.out.2.2) (Nat.le_refl _)⟩
    · go_wp2
      go_ret
      refine ⟨_, rfl, ?_, HI.out.2.2⟩
      have := HI.out.2.1
      rw [List.take_of_length_le (by omega)] at this
      rw [raisedD, ← this]
      exact HI.out.1
theorem raisedBy_any (v : Value) (h : List (List Int)) (w : World) (hv : RowsV w v h) (hg : vGrid h = true) :
    Calls Tryd.prog 39 #[v, .int .i64 1] w (NewRows w (raisedL h)) := raisedD_any 1 (by decide) (by decide) v h w hv hg
end Go.Proofs.YthgafljbbkgldaaDoor
/- The contract of laws.equalRows. -/
namespace Go.Proofs.YthgafljbbkgldaaDoor
open Go.RowKit

set_option maxRecDepth 100000 in
set_option maxHeartbeats 1000000 in
theorem equalRows_any (v1 v2 : Value) (xs ys : List (List Int)) (w : World) (hv1 : RowsV w v1 xs) (hv2 : RowsV w v2 ys) :
    Calls Tryd.prog 19 #[v1, v2] w (QuietBool (decide (xs = ys)) w) := by
  obtain ⟨a, b, o, c, rfl, ⟨hlc, hcb⟩, ha, HC⟩ := hv1.shape
  obtain ⟨a2, b2, o2, c2, rfl, ⟨hlc2, hcb2⟩, ha2, HC2⟩ := hv2.shape
  have HA := Lib.hid ha
  have HA2 := Lib.hid ha2
  clear hv1 hv2 ha ha2
  by_cases hl : xs.length = ys.length
  · have hn : ((xs.length : Int) != (ys.length : Int)) = false := by simp [hl]
    have HL := Lib.hid hl
    clear hl
    go_enter Tryd.func19, Tryd.ntmps19
    go_wp2
    clear hn
    go_loopw [5] (fun i wr => ∃ k : Nat, k ≤ xs.length ∧ i = .int .i64 k ∧ Hid (xs.take k = ys.take k ∧ ∃ n, wr = w.drewN n)) (fun i _ => xs.length - (intOf i).toNat)
    case atStart => exact ⟨0, Nat.zero_le _, rfl, rfl, 0, rfl⟩
    case round =>
      obtain ⟨k, hk, rfl, HI⟩ := hrel
      have HW := Lib.hid (quiet_grew HI.out.2)
      by_cases hlt : k < xs.length
      · have hlt2 : k < ys.length := by have := HL.out; omega
        obtain rfl := HA.out (by omega)
        obtain rfl := HA2.out (by omega)
        obtain ⟨u1, hc1', hu1⟩ := HC.out k hlt
        obtain ⟨u2, hc2', hu2⟩ := HC2.out k hlt2
        have hc1 := HW.out.cell hc1'
        have hc2 := HW.out.cell hc2'
        obtain ⟨x, ex⟩ : ∃ x, xs.getD k [] = x := ⟨_, rfl⟩
        obtain ⟨y, ey⟩ : ∃ y, ys.getD k [] = y := ⟨_, rfl⟩
        rw [ex] at hu1
        rw [ey] at hu2
        have HK : Hid (∀ m, Calls Tryd.prog 50 #[u1, u2] (wr.drewN m) fun e w' => e = .returned (.bool (decide (x = y))) ∧ ∃ k, w' = (wr.drewN m).drewN k) := fun m => equalInts_any u1 u2 x y _ (hu1.grew (HW.out.drewN m)) (hu2.grew (HW.out.drewN m))
        obtain ⟨a3, b3, o3, c3, rfl, _, _, _⟩ := hu1.shape
        obtain ⟨a4, b4, o4, c4, rfl, _, _, _⟩ := hu2.shape
        have HE := Lib.hid (And.intro ex ey)
        have r1 : (k : Int) < xs.length := by omega
        have r2 : (k : Int) < ys.length := by omega
        have r3 : (0 : Int) ≤ k := by omega
        clear ex ey hu1 hu2 hc1' hc2'
        by_cases hxy : x = y
        · have HK2 := HK.out
          have e : decide (x = y) = true := by simp [hxy]
          rw [e] at HK2
          have HK3 := Lib.hid HK2
          have HXY := Lib.hid hxy
          clear hxy HK2 HK e
          go_wp2
          go_quiet ((go_at_call 50; exact Calls.quiet_of (HK3.out _)))
          go_wp2
          go_roundw
          case rel => exact ⟨k + 1, by omega, by go_num, take_eq_snoc [] hlt hlt2 HI.out.1 (by rw [HE.out.1, HE.out.2, HXY.out]), quiet_step HI.out.2 _⟩
          case measure => simp [intOf]; omega
        · have HK2 := HK.out
          have e : decide (x = y) = false := by simp [hxy]
          rw [e] at HK2
          have HK3 := Lib.hid HK2
          have HXY := Lib.hid hxy
          clear hxy HK2 HK e
          go_wp2
          go_quiet ((go_at_call 50; exact Calls.quiet_of (HK3.out _)))
          go_wp2
          go_ret
          refine ⟨ret_bool ?_, quiet_step HI.out.2 _⟩
          have : xs ≠ ys := fun e => HXY.out (by rw [← HE.out.1, ← HE.out.2, e])
          simp [this]
      · go_wp2
        go_ret
        refine ⟨ret_bool ?_, HI.out.2⟩
        have := HI.out.1
        rw [List.take_of_length_le (by omega), List.take_of_length_le (by have := HL.out; omega)] at this
        simp [this]
  · have hn : ((xs.length : Int) != (ys.length : Int)) = true := by simp; omega
    have HL := Lib.hid hl
    clear hl
    go_enter Tryd.func19, Tryd.ntmps19
    go_wp2
    go_ret
    refine ⟨ret_bool ?_, 0, rfl⟩
    have : xs ≠ ys := fun e => HL.out (by rw [e])
    simp [this]
end Go.Proofs.YthgafljbbkgldaaDoor
/- The law FnTopplesAreLeast returns true. -/
namespace Go.Proofs.YthgafljbbkgldaaDoor
open Go.RowKit

theorem cut_get (xs : List Int) (m I j : Nat) : ((xs.drop I).take m)[j]? = if j < m then xs[I + j]? else none := by
  rw [List.getElem?_take, List.getElem?_drop]
theorem shapeL_set (xs : List Int) (n m r c : Nat) (x : Int) (hr : r < n) (hc : c < m) : (shapeL xs m n).set r (((shapeL xs m n).getD r []).set c x) = shapeL (xs.set (r * m + c) x) m n := by
  have hm := Nat.mul_le_mul_right m (show r + 1 ≤ n from hr)
  apply List.ext_getElem?
  intro k
  rw [List.getElem?_set, shapeL_len]
  by_cases hk : k < n
  · have e1 : ∀ ys : List Int, (shapeL ys m n)[k]? = some ((ys.drop (k * m)).take m) := fun ys => by simp [shapeL, hk]
    rw [e1, e1]
    by_cases e : r = k
    · subst e
      rw [if_pos rfl, if_pos hr, shapeL_at _ _ _ _ hr]
      congr 1
      apply List.ext_getElem?
      intro j
      rw [cut_get, List.getElem?_set, List.getElem?_set, cut_get, List.length_take, List.length_drop]
      by_cases hj : j < m
      · by_cases e2 : c = j
        · subst e2
          simp only [hj, if_true]
          by_cases hl : r * m + c < xs.length
          · rw [if_pos (by omega), if_pos hl]
          · rw [if_neg (by omega), if_neg hl]
        · have e3 : ¬ r * m + c = r * m + j := by omega
          simp only [e2, e3, hj, if_true, if_false]
      · rw [if_neg (by omega), if_neg hj, if_neg hj]
    · rw [if_neg e]
      congr 1
      apply List.ext_getElem?
      intro j
      rw [cut_get, cut_get, List.getElem?_set]
      by_cases hj : j < m
      · rw [if_pos hj, if_pos hj, if_neg]
        intro e3
        rcases Nat.lt_or_gt_of_ne e with h1 | h1
        · have := Nat.mul_le_mul_right m (show r + 1 ≤ k from h1)
          rw [Nat.succ_mul] at this
          omega
        · have := Nat.mul_le_mul_right m (show k + 1 ≤ r from h1)
          rw [Nat.succ_mul] at this
          omega
      · rw [if_neg hj, if_neg hj]
  · rw [if_neg (by omega)]
    have e1 : ∀ ys : List Int, (shapeL ys m n)[k]? = none := fun ys => by simp [shapeL]; omega
    rw [e1, e1]
set_option maxRecDepth 100000 in
set_option maxHeartbeats 1000000 in
theorem atMost_any (v u : Value) (xs ys : List Int) (w : World) (hv : IntsV w v xs) (hu : IntsV w u ys) (hl : xs.length = ys.length) (hle : ∀ i, i < xs.length → xs.getD i 0 ≤ ys.getD i 0) :
    Calls Tryd.prog 40 #[v, u] w fun e w' => e = .returned (.bool true) ∧ Grew w w' := by
  obtain ⟨a, b, o, c, rfl, ⟨hlc, hcb⟩, ha, HC⟩ := hv.shape
  obtain ⟨a2, b2, o2, c2, rfl, ⟨hlc2, hcb2⟩, ha2, HC2⟩ := hu.shape
  obtain ⟨n, en⟩ : ∃ n, xs.length = n := ⟨_, rfl⟩
  have en2 : ys.length = n := by omega
  rw [en] at hle hlc ha HC ⊢
  rw [en2] at hlc2 ha2 HC2 ⊢
  have HA := Lib.hid (And.intro ha ha2)
  have HLE := Lib.hid hle
  clear hv hu ha ha2 hl hle en en2
  go_enter Tryd.func40, Tryd.ntmps40
  go_wp2
  go_loopw [5] (fun i wr => ∃ k : Nat, k ≤ n ∧ i = .int .i64 k ∧ Hid (Grew w wr)) (fun i _ => n - (intOf i).toNat)
  case atStart => exact ⟨0, Nat.zero_le _, rfl, Grew.refl _⟩
  case round =>
    obtain ⟨k, hk, rfl, HI⟩ := hrel
    by_cases hlt : k < n
    · obtain rfl := HA.out.1 (by omega)
      obtain rfl := HA.out.2 (by omega)
      have hc1 := HI.out.cell (HC.out k hlt)
      have hc2 := HI.out.cell (HC2.out k hlt)
      have hxy := HLE.out k hlt
      obtain ⟨x, ex⟩ : ∃ x, xs.getD k 0 = x := ⟨_, rfl⟩
      obtain ⟨y, ey⟩ : ∃ y, ys.getD k 0 = y := ⟨_, rfl⟩
      rw [ex] at hc1 hxy
      rw [ey] at hc2 hxy
      have hnx : ¬ y < x := by omega
      have HG : Hid (∀ W, Grew wr W → Grew w W) := Lib.hid fun W hW => HI.out.trans hW
      clear ex ey hk HI
      go_wp2
      go_quiet (fail)
      go_wp2
      go_roundw
      case rel => exact ⟨k + 1, by omega, by go_num, HG.out _ ((Grew.refl _).drewN _)⟩
      case measure => simp [intOf]; omega
    · obtain rfl : k = n := by omega
      go_wp2
      go_ret
      exact ⟨rfl, HI.out⟩

theorem times_flat {h : List (List Int)} (hs : vSand h = true) : (timesX h).flatten = timesL h.length (h.getD 0 []).length h.flatten := by
  rw [timesX, if_pos hs, shapeL_flat _ _ _ (sand_of hs).2.1.calm.1.tlen]
theorem times_no {h : List (List Int)} (hs : ¬ vSand h = true) : timesX h = [] := by rw [timesX, if_neg hs]
theorem times_rowOf (v : Value) (h : List (List Int)) (w : World) (hv : RowsV w v (timesX h)) : Calls Tryd.prog 21 #[v] w (FlatPost w (timesX h).flatten) := by
  refine rowOf_any v _ w hv ?_ ?_
  · by_cases hs : vSand h = true
    · rw [timesX, if_pos hs, shapeL_len]
      have := (sand_of hs).2.1.box.1.2
      omega
    · rw [times_no hs]; exact Nat.zero_le _
  · intro r hr
    by_cases hs : vSand h = true
    · obtain ⟨_, sd, _, _⟩ := sand_of hs
      rw [timesX, if_pos hs] at hr ⊢
      rw [shapeL_len] at hr
      rw [shapeL_row _ _ _ _ sd.calm.1.tlen hr]
      have := sd.box.2
      omega
    · rw [times_no hs] at hr
      exact absurd hr (by simp)
theorem times_bound {h : List (List Int)} : (timesX h).flatten.length ≤ 16 ∧ ∀ k, k < (timesX h).flatten.length → -1000 ≤ (timesX h).flatten.getD k 0 ∧ (timesX h).flatten.getD k 0 ≤ 1000 := by
  by_cases hs : vSand h = true
  · obtain ⟨_, sd, _, _⟩ := sand_of hs
    rw [times_flat hs, sd.calm.1.tlen]
    refine ⟨Nat.mul_le_mul sd.box.1.2 sd.box.2.2, fun k hk => ?_⟩
    have := (sd.calm.1.le sd.box k hk).2
    have := sd.phi
    omega
  · rw [times_no hs]
    exact ⟨Nat.zero_le _, fun k hk => absurd hk (by simp)⟩
theorem calm_iff {h : List (List Int)} (hs : vSand h = true) : decide (calmX h = h) = (sumTo (fun i => (timesX h).flatten.getD i 0) (timesX h).flatten.length == 0) := by
  obtain ⟨_, sd, num, hg⟩ := sand_of hs
  have G := Grid.of hg
  rw [times_flat hs, sd.calm.1.tlen, Bool.eq_iff_iff, decide_eq_true_eq, beq_iff_eq, times_zero sd, calmX_yes hs]
  have e := grid_shape G
  constructor
  · intro hc
    have := congrArg List.flatten hc
    rwa [shapeL_flat _ _ _ sd.calm_len] at this
  · intro hc
    rw [hc, e]
/-- One grain more: either no sand any more, or no cell topples less. -/
theorem least_facts {h : List (List Int)} (hs : vSand h = true) {n m : Nat} (en : h.length = n) (em : (h.getD 0 []).length = m) :
    (timesX (shapeL (h.flatten.set 0 (h.flatten.getD 0 0 + 1)) m n)).flatten.length = 0 ∨
    ((timesX h).flatten.length = (timesX (shapeL (h.flatten.set 0 (h.flatten.getD 0 0 + 1)) m n)).flatten.length ∧ ∀ i, i < (timesX h).flatten.length → (timesX h).flatten.getD i 0 ≤ (timesX (shapeL (h.flatten.set 0 (h.flatten.getD 0 0 + 1)) m n)).flatten.getD i 0) := by
  obtain ⟨_, sd, num, hg⟩ := sand_of hs
  have e1 := times_flat hs
  rw [en, em] at sd num e1
  have hl := sd.len
  have hsl : (h.flatten.set 0 (h.flatten.getD 0 0 + 1)).length = n * m := by rw [List.length_set]; exact hl
  have hb := sd.box
  have h0 : ((shapeL (h.flatten.set 0 (h.flatten.getD 0 0 + 1)) m n).getD 0 []).length = m := shapeL_row _ _ _ _ hsl hb.1.1
  by_cases hv : vSand (shapeL (h.flatten.set 0 (h.flatten.getD 0 0 + 1)) m n) = true
  · right
    have e2 := times_flat hv
    obtain ⟨_, sv, _, _⟩ := sand_of hv
    rw [shapeL_len, h0, shapeL_flat _ _ _ hsl] at e2 sv
    rw [e1, e2, sd.calm.1.tlen, sv.calm.1.tlen]
    refine ⟨rfl, times_mono sd sv fun j hj => ?_⟩
    rw [getD_set _ _ _ _ (by rw [hl]; omega)]
    split
    · subst_vars; omega
    · exact Int.le_refl _
  · left
    rw [times_no hv]
    rfl

set_option maxRecDepth 100000 in
set_option maxHeartbeats 8000000 in
theorem FnTopplesAreLeast_any (v : Value) (bs : List Int) (w : World) (hv : NumsV .u8 w v bs) (hb : ∀ i, i < bs.length → 0 ≤ bs.getD i 0 ∧ bs.getD i 0 ≤ 255) (hS : Steps w) :
    Calls Tryd.prog 10 #[v] w fun e w' => e = .returned (.bool true) ∧ Grew w w' := by
  have HD := Lib.hid (DrawTopplesOf_any v bs w hv hb)
  have HS := Lib.hid hS
  obtain ⟨a, b, o, c, rfl, ⟨hlc, hcb⟩, _, _⟩ := hv.shape
  clear hv hb hS
  by_cases hbig : 1048576 < bs.length
  · go_enter Tryd.func10, Tryd.ntmps10
    go_wp2
    go_ret
    exact ⟨rfl, Grew.refl _⟩
  · go_enter Tryd.func10, Tryd.ntmps10
    go_wp2_with (fail)
    refine HD.out.mono ?_
    rintro e w0 ⟨v0, H, rfl, hO0, hg0⟩
    obtain ⟨a0, c0, rfl⟩ := hO0.sh
    have H0 : Hid (Grew w w0 ∧ RowsV w0 (.slice a0 H.length c0) H) := Lib.hid ⟨hg0, hO0.toV⟩
    clear hO0 hg0 HD
    obtain ⟨T, eT⟩ : ∃ T, timesX H = T := ⟨_, rfl⟩
    have HT := Lib.hid eT
    obtain ⟨M, eM⟩ : ∃ M, calmX H = M := ⟨_, rfl⟩
    have HM := Lib.hid eM
    obtain ⟨tl, etl⟩ : ∃ tl, T.flatten = tl := ⟨_, rfl⟩
    have HTL := Lib.hid etl
    have HCI : Hid (∀ (v : Value) (W : World), RowsV W v H → Grew w W → Calls Tryd.prog 28 #[v] W (NewRows W T)) := Lib.hid fun v W hv hW => by
      have := TopplesOf_any v _ W hv (HS.out.grew hW)
      rwa [HT.out] at this
    have HCS : Hid (∀ (v : Value) (W : World), RowsV W v H → Grew w W → Calls Tryd.prog 29 #[v] W (NewRows W T)) := Lib.hid fun v W hv hW => by
      have := STopplesOf_any v _ W hv
      rwa [HT.out] at this
    have HCF : Hid (∀ (v : Value) (W : World), RowsV W v H → Grew w W → Calls Tryd.prog 18 #[v] W (NewRows W M)) := Lib.hid fun v W hv hW => by
      have := CalmFirst_any v _ W hv (HS.out.grew hW)
      rwa [HM.out] at this
    have HRT : Hid (∀ (v : Value) (W : World), RowsV W v T → Calls Tryd.prog 21 #[v] W (FlatPost W tl)) := Lib.hid fun v W hv => by
      have := times_rowOf v H W (by rw [HT.out]; exact hv)
      rwa [HT.out, HTL.out] at this
    have hbd := times_bound (h := H)
    rw [eT, etl] at hbd
    have HTT : Hid (∀ (v : Value) (W : World), IntsV W v tl → Calls Tryd.prog 26 #[v] W fun e w' => e = .returned (.int .i64 (sumTo (fun i => tl.getD i 0) tl.length)) ∧ W = w') := Lib.hid fun v W hv => totalOf_any v _ W hv (by omega) hbd.2
    have hl16 := hbd.1
    clear eT eM etl hbd
    go_wp2_with (fail)
    refine (HCI.out _ _ (H0.out.2) (H0.out.1)).mono ?_
    rintro e w1 ⟨v1, rfl, hO1, hg1⟩
    obtain ⟨a1, c1, rfl⟩ := hO1.sh
    have H1 : Hid (Grew w w1 ∧ RowsV w1 (.slice a0 H.length c0) H ∧ RowsV w1 (.slice a1 T.length c1) T) := Lib.hid ⟨H0.out.1.trans hg1, (H0.out.2).grew hg1, hO1.toV⟩
    clear hO1 hg1 H0
    go_wp2_with (fail)
    refine (HCS.out _ _ (H1.out.2.1) (H1.out.1)).mono ?_
    rintro e w2 ⟨v2, rfl, hO2, hg2⟩
    obtain ⟨a2, c2, rfl⟩ := hO2.sh
    have H2 : Hid (Grew w w2 ∧ RowsV w2 (.slice a0 H.length c0) H ∧ RowsV w2 (.slice a1 T.length c1) T ∧ RowsV w2 (.slice a2 T.length c2) T) := Lib.hid ⟨H1.out.1.trans hg2, (H1.out.2.1).grew hg2, (H1.out.2.2).grew hg2, hO2.toV⟩
    clear hO2 hg2 H1
    go_wp2_with (fail)
    refine (equalRows_any _ _ T T _ (H2.out.2.2.1) (H2.out.2.2.2)).mono ?_
    rw [decide_eq_true (rfl : T = T)]
    rintro e w3 ⟨rfl, hq3⟩
    have hg3 := quiet_grew hq3
    have H3 : Hid (Grew w w3 ∧ RowsV w3 (.slice a0 H.length c0) H) := Lib.hid ⟨H2.out.1.trans hg3, (H2.out.2.1).grew hg3⟩
    clear hq3 hg3 H2
    go_wp2_with (fail)
    refine (HCI.out _ _ (H3.out.2) (H3.out.1)).mono ?_
    rintro e w4 ⟨v4, rfl, hO4, hg4⟩
    obtain ⟨a4, c4, rfl⟩ := hO4.sh
    have H4 : Hid (Grew w w4 ∧ RowsV w4 (.slice a0 H.length c0) H ∧ RowsV w4 (.slice a4 T.length c4) T) := Lib.hid ⟨H3.out.1.trans hg4, (H3.out.2).grew hg4, hO4.toV⟩
    clear hO4 hg4 H3
    go_wp2_with (fail)
    refine (HRT.out _ _ (H4.out.2.2)).mono ?_
    rintro e w5 ⟨g5, c5, rfl, hO5, hg5⟩
    have H5 : Hid (Grew w w5 ∧ RowsV w5 (.slice a0 H.length c0) H ∧ IntsV w5 (.slice (some ⟨g5, 0, none⟩) tl.length c5) tl) := Lib.hid ⟨H4.out.1.trans hg5, (H4.out.2.1).grew hg5, hO5.toV⟩
    clear hO5 hg5 H4
    by_cases hz : tl.length = 0
    · have hzb : ((tl.length : Int) == 0) = true := by simp [hz]
      clear hz
      go_wp2
      go_ret
      exact ⟨rfl, H5.out.1⟩
    · have hzb : ((tl.length : Int) == 0) = false := beq_eq_false_iff_ne.2 (by omega)
      have hs : vSand H = true := by
        refine Classical.byContradiction fun hn => hz ?_
        rw [← HTL.out, ← HT.out, times_no hn]
        rfl
      have hci := calm_iff hs
      rw [HM.out, HT.out, HTL.out] at hci
      obtain ⟨_, sd, num, hg⟩ := sand_of hs
      have G := Grid.of hg
      obtain ⟨n, en⟩ : ∃ n, H.length = n := ⟨_, rfl⟩
      obtain ⟨m, em⟩ : ∃ m, (H.getD 0 []).length = m := ⟨_, rfl⟩
      have hlf := least_facts hs en em
      have hgs := grid_shape G
      rw [HT.out, HTL.out] at hlf
      rw [en, em] at sd num hgs
      have hHl := sd.len
      have hn1 := sd.box.1.1
      have hm1 := sd.box.2.1
      have hx := num 0 (Nat.mul_pos hn1 hm1)
      obtain ⟨hl, ehl⟩ : ∃ hl, H.flatten = hl := ⟨_, rfl⟩
      rw [ehl] at hlf hgs hHl hx
      obtain ⟨x, ex⟩ : ∃ x, hl.getD 0 0 = x := ⟨_, rfl⟩
      rw [ex] at hlf hx
      obtain ⟨M2, eM2⟩ : ∃ M2, shapeL (hl.set 0 (x + 1)) m n = M2 := ⟨_, rfl⟩
      rw [eM2] at hlf
      obtain ⟨U, eU⟩ : ∃ U, timesX M2 = U := ⟨_, rfl⟩
      rw [eU] at hlf
      obtain ⟨ul, eul⟩ : ∃ ul, U.flatten = ul := ⟨_, rfl⟩
      rw [eul] at hlf
      have HUI : Hid (∀ (v : Value) (W : World), RowsV W v M2 → Grew w W → Calls Tryd.prog 28 #[v] W (NewRows W U)) := Lib.hid fun v W hv hW => by
        have := TopplesOf_any v _ W hv (HS.out.grew hW)
        rwa [eU] at this
      have HUR : Hid (∀ (v : Value) (W : World), RowsV W v U → Calls Tryd.prog 21 #[v] W (FlatPost W ul)) := Lib.hid fun v W hv => by
        have := times_rowOf v M2 W (by rw [eU]; exact hv)
        rwa [eU, eul] at this
      have HRB : Hid (∀ (v : Value) (W : World), RowsV W v H → Calls Tryd.prog 39 #[v, .int .i64 0] W (NewRows W (shapeL hl m n))) := Lib.hid fun v W hv => by
        have := raisedD_any 0 (by decide) (by decide) v H W hv hg
        rwa [raisedD_zero, ← hgs] at this
      obtain ⟨cb, ecb⟩ : ∃ cb, decide (M = H) = cb := ⟨_, rfl⟩
      rw [ecb] at hci
      obtain ⟨tt, ett⟩ : ∃ t, sumTo (fun i => tl.getD i 0) tl.length = t := ⟨_, rfl⟩
      rw [ett] at HTT hci
      have HLF := Lib.hid hlf
      have HCB := Lib.hid ecb
      have HCI2 := Lib.hid hci
      have HSH := Lib.hid (And.intro hHl (And.intro ex eM2))
      have hrn : (0 : Int) < (n : Int) := by omega
      have hqm : (0 : Int) < (m : Int) := by omega
      obtain ⟨x0, x1⟩ := hx
      clear hz hs hci sd num hg G en em hlf hgs hHl ehl ex eM2 eU eul ecb ett
      go_wp2_with (fail)
      refine (HCF.out _ _ (H5.out.2.1) (H5.out.1)).mono ?_
      rintro e w6 ⟨v6, rfl, hO6, hg6⟩
      obtain ⟨a6, c6, rfl⟩ := hO6.sh
      have H6 : Hid (Grew w w6 ∧ RowsV w6 (.slice a0 H.length c0) H ∧ IntsV w6 (.slice (some ⟨g5, 0, none⟩) tl.length c5) tl ∧ RowsV w6 (.slice a6 M.length c6) M) := Lib.hid ⟨H5.out.1.trans hg6, (H5.out.2.1).grew hg6, (H5.out.2.2).grew hg6, hO6.toV⟩
      clear hO6 hg6 H5
      go_wp2_with (fail)
      refine (equalRows_any _ _ M H _ (H6.out.2.2.2) (H6.out.2.1)).mono ?_
      rw [HCB.out]
      rintro e w7 ⟨rfl, hq7⟩
      have hg7 := quiet_grew hq7
      have H7 : Hid (Grew w w7 ∧ RowsV w7 (.slice a0 H.length c0) H ∧ IntsV w7 (.slice (some ⟨g5, 0, none⟩) tl.length c5) tl) := Lib.hid ⟨H6.out.1.trans hg7, (H6.out.2.1).grew hg7, (H6.out.2.2.1).grew hg7⟩
      clear hq7 hg7 H6
      go_wp2_with (fail)
      refine (HRB.out _ _ (H7.out.2.1)).mono ?_
      rintro e wm ⟨vm, rfl, hOm, hgm⟩
      obtain ⟨gm, cm, rfl, q51, q52, q53, q54⟩ := hOm.pos (by rw [shapeL_len]; omega)
      rw [shapeL_len] at hOm q53 ⊢
      obtain ⟨u6, hcu6, hO6⟩ := hOm.at rfl (i := 0) (by rw [shapeL_len]; omega)
      have hl6 : ((shapeL hl m n).getD 0 []).length = m := shapeL_row _ _ _ _ HSH.out.1 (by omega)
      obtain ⟨g6, c6, rfl, q61, q62, q63, q64⟩ := hO6.pos (by omega)
      rw [hl6] at hO6 hcu6 q63
      obtain ⟨hel, hfr⟩ := hO6.at rfl (i := 0) (by omega)
      have hval : ((shapeL hl m n).getD 0 []).getD 0 0 = x := by rw [shapeL_at _ _ _ _ (by omega), cut_at _ _ _ _ (by omega), Nat.zero_mul, HSH.out.2.1]
      rw [hval] at hel
      have HN : Hid (∀ W, W = wm ∨ W = wm.drew → RowsV (W.setCell ⟨g6, 0, none⟩ (.int .i64 (x + 1))) (.slice (some ⟨gm, 0, none⟩) n cm) M2 ∧ Grew w7 (W.setCell ⟨g6, 0, none⟩ (.int .i64 (x + 1)))) := by
        refine Lib.hid fun W hW => ?_
        have k1 : Grew wm W := by rcases hW with rfl | rfl; exact Grew.refl _; exact (Grew.refl _).drew
        have hs := (hOm.grew k1).set (by decide) rfl (i := 0) (by rw [shapeL_len]; omega) (k1.cell hcu6) 0 (x + 1)
        rw [shapeL_set _ _ _ _ _ _ (by omega) (by omega), Nat.zero_mul, HSH.out.2.2] at hs
        have hwi : Within g6 (g6 + 1) W (W.setCell ⟨g6, 0, none⟩ (.int .i64 (x + 1))) := (Within.refl _ _ _).setCell (p := ⟨g6, 0, none⟩) (Nat.le_refl _) (Nat.lt_succ_self _) _
        exact ⟨hs.toV, Within.grew (hgm.trans k1) hwi q61⟩
      clear hOm hgm hO6 hl6 hval
      have H6 := Lib.hid (HN.out wm.drew (.inr rfl))
      obtain ⟨ws6, ews6⟩ : ∃ ws6, wm.drew.setCell ⟨g6, 0, none⟩ (.int .i64 (x + 1)) = ws6 := ⟨_, rfl⟩
      rw [ews6] at H6
      have Hm : Hid (Grew w ws6 ∧ IntsV ws6 (.slice (some ⟨g5, 0, none⟩) tl.length c5) tl ∧ RowsV ws6 (.slice (some ⟨gm, 0, none⟩) n cm) M2) := Lib.hid ⟨(H7.out.1).trans H6.out.2, (H7.out.2.2).grew H6.out.2, H6.out.1⟩
      clear HN H6 H7
      go_wp2_with (fail)
      go_region
      all_goals
        go_wp2_with (fail)
        try rw [ews6]
        clear ews6 hel hfr hcu6
        refine (HUI.out _ _ Hm.out.2.2 Hm.out.1).mono ?_
        rintro e wu ⟨vu, rfl, hOu, hgu⟩
        obtain ⟨au, cu, rfl⟩ := hOu.sh
        have Hu : Hid (Grew w wu ∧ IntsV wu (.slice (some ⟨g5, 0, none⟩) tl.length c5) tl ∧ RowsV wu (.slice au U.length cu) U) := Lib.hid ⟨Hm.out.1.trans hgu, Hm.out.2.1.grew hgu, hOu.toV⟩
        clear hOu hgu Hm
        go_wp2_with (fail)
        refine (HUR.out _ _ Hu.out.2.2).mono ?_
        rintro e wz ⟨gz, cz, rfl, hOz, hgz⟩
        have Hz : Hid (Grew w wz ∧ IntsV wz (.slice (some ⟨g5, 0, none⟩) tl.length c5) tl ∧ IntsV wz (.slice (some ⟨gz, 0, none⟩) ul.length cz) ul) := Lib.hid ⟨Hu.out.1.trans hgz, Hu.out.2.1.grew hgz, hOz.toV⟩
        clear hOz hgz Hu
        go_wp2_with (fail)
        refine (HTT.out _ _ Hz.out.2.1).mono ?_
        rintro e ws ⟨rfl, rfl⟩
        have hci := HCI2.out
        rcases HLF.out with hu | hu
        · have hub : ((ul.length : Int) == 0) = true := by simp [hu]
          clear hu
          cases cb
          all_goals
            have hcc := hci.symm
            clear hci
            go_wp2
            go_ret
            exact ⟨rfl, Hz.out.1⟩
        · have hub : ((ul.length : Int) == 0) = false := beq_eq_false_iff_ne.2 (by have := hu.1; simp only [beq_eq_false_iff_ne] at hzb; omega)
          have HUU := Lib.hid hu
          clear hu
          cases cb
          all_goals
            have hcc := hci.symm
            clear hci
            go_wp2_with (fail)
            refine (atMost_any _ _ tl ul _ Hz.out.2.1 Hz.out.2.2 HUU.out.1 HUU.out.2).mono ?_
            rintro e we ⟨rfl, hge⟩
            have He := Lib.hid (Hz.out.1.trans hge)
            clear hge
            go_wp2
            go_ret
            exact ⟨rfl, He.out⟩
end Go.Proofs.YthgafljbbkgldaaDoor
namespace Go.Proofs.YthgafljbbkgldaaDoor.pTopplesAreLeast
open Go.RowKit Go.ChangeShapes Go.WideShapes Go.ChangeAt

set_option maxRecDepth 100000 in
theorem lifted (os : Os) (started : os.Started) (H : Type) (enc : TypeId × Value → H) :
    ReturnsInHanded {} Tryd.checked os 10 .any (fun w args => (Rows.fnTopplesAreLeastSpec.pre enc Tryd.prog Tryd.f10 [] false w args ∧ laidMetH Tryd.prog laid1 w) ∧ sizedMet enc Tryd.prog Tryd.f10 (OpenSpec.ofChange Rows.fnTopplesAreLeastSpec) false w args)
      (Rows.fnTopplesAreLeastSpec.post enc Tryd.prog Tryd.f10 false true false false) := by
  refine returnsInHanded_of_change_and (C := Tryd.checked) (X := fun w _ => laidMetH Tryd.prog laid1 w) (fun _ _ _ hh h => h.of_heap hh) Tryd.own started (by kernel_rfl) Tryd.func10
    (ChangeSpec.witness_shaped (enc := enc) (C := Tryd.checked) (os := os) (X := fun w _ => laidMetH Tryd.prog laid1 w) false (World.doorLaid Tryd.prog 400 os) #[.slice none 0 0] 8 rfl (World.shaped_of_RefB (by kernel_rfl) (by kernel_rfl)) (by kernel_rfl) (by kernel_rfl) (by kernel_rfl) (door_met os _)) ?_
  intro W base args ds gs before hval0 hW _ _ hL _
  have hval : ∀ (j : Nat) t v, Tryd.f10.params[j]? = some t → args[j]? = some v → Value.okWide Tryd.prog W .any base t v := hval0
  have hW' := hW
  obtain ⟨p, q, hA0, hV, rfl, _, _⟩ := hW
  have hA : DataW.TrodAll enc Tryd.prog W 0 (fun _ => true) true Tryd.f10.params.toList args.toList ds p := hA0
  rw [Tryd.params10] at hA hval
  obtain ⟨v0, d0, rfl, rfl, h0⟩ := trodAll_one hA
  have hV' := hV
  obtain ⟨_, _, _, _, dv, _, rfl, _⟩ := trodVars_one hV
  obtain ⟨a0, len0, cap0, rfl⟩ := okWide_slice Tryd.underlying22 (hval 0 22 v0 rfl rfl)
  have k0 := h0
  have lt0 : ∀ x ∈ p, x.block < W.heap.size := by obtain ⟨m, hm⟩ := k0; exact DataW.trod_lt m _ _ _ hm
  obtain ⟨bs0, hn0, hb0⟩ := bytes_came h0
  have HS := steps_of_laid hL
  clear hA0 hval0
  refine (FnTopplesAreLeast_any _ bs0 W hn0 hb0 HS).mono fun e W' ⟨he, bel⟩ => ?_
  subst he
  exact ⟨_, rfl, _, _, _, [], _, q, hW', trodAll_mk1 (shut_bool Tryd.underlying4 _), (trodAll_mk1 (Below.trod Tryd.laidOut (by kernel_rfl) (of_decide_eq_true (by kernel_rfl)) k0 bel lt0)), Below.trodVars Tryd.laidOut bel (by kernel_rfl) hV', Below.frame bel _, fun h => by cases h⟩

theorem row_proved : Rows.FnTopplesAreLeastSaid :=
  OpenClaim.holds_of_wide 10 Tryd.f10 rfl rfl rfl rfl rfl rfl rfl ⟨rfl, rfl, rfl, rfl, rfl⟩ rfl rfl rfl rfl rfl (by kernel_rfl) Tryd.func10
    (show joinedFacts Tryd.prog 10 Tryd.f10 Rows.fnTopplesAreLeastSpec Rows.fnTopplesAreLeastRow = true by unfold joinedFacts; rw [Tryd.makeG, Tryd.liftsG, Tryd.enterG]; kernel_rfl)
    (of_decide_eq_true (by kernel_rfl)) (by unfold Func.isWrapper; first | (rw [if_pos (by decide +kernel)]; kernel_rfl) | (rw [if_neg (by decide +kernel)]; exact ⟨rfl, rfl⟩))
    (fun os started H enc _ => lifted os started H enc)

theorem proved : Rows.FnTopplesAreLeastCardSaid :=
  Claim7.holds_tied_plain_at .later [] [.data] true Rows.fnTopplesAreLeastCard.stood.harness Rows.fnTopplesAreLeastCard.stood.looks
    row_proved (fun _ h => by cases h) (by kernel_rfl) (fun _ h => by cases h) fnTopplesAreLeast_row_tie rfl ⟨rfl, rfl⟩ (show Tryd.prog.mainIs = some (Rows.fnTopplesAreLeastCard.stood.harness.1, Rows.fnTopplesAreLeastCard.stood.harness.2.toList) from Tryd.mainG) rfl
    (fun f fn hf hfn => by
      obtain rfl : f = 10 := Option.some.inj ((show Tryd.prog.funcNamed "loop.example/wateronheights/laws.FnTopplesAreLeast" = some 10 by kernel_rfl).symm.trans hf) |>.symm
      obtain rfl : fn = Tryd.f10 := (Option.some.inj (Tryd.func10.symm.trans hfn)).symm
      exact ⟨by kernel_rfl, fun j t ht => by
        rw [Tryd.params10] at ht
        have hm : t ∈ [22] := by simpa using Array.mem_of_getElem? ht
        have hall : ([22].all fun u => !Tryd.prog.wantsStandIn u) = true := by kernel_rfl
        exact (show Tryd.prog.wantsStandIn t = false by simpa using List.all_eq_true.1 hall t hm)⟩)
    (by kernel_rfl)
#print axioms proved
end Go.Proofs.YthgafljbbkgldaaDoor.pTopplesAreLeast
