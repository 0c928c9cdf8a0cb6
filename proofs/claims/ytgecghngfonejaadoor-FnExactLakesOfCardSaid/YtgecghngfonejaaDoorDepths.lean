/- The contracts of impl.DepthsOf and spec.DepthsOf. -/
import Derived.Test.YtgecghngfonejaaDoorFillByQueue
import Derived.Test.YtgecghngfonejaaDoorSByQueue
import Derived.Test.YtgecghngfonejaaDoorStepAppend
import Derived.Test.YtgecghngfonejaaDoorShapes2
namespace Go.Proofs.YtgecghngfonejaaDoor
open Go.RowKit

/-- How much higher the first k cells' water stands; of the others how high. -/
def partL (ws p : List Int) (k : Nat) : List Int := (List.range ws.length).map fun i => if i < k then ws.getD i 0 - p.getD i 0 else ws.getD i 0
def subL (ws p : List Int) : List Int := (List.range ws.length).map fun i => ws.getD i 0 - p.getD i 0
theorem partL_len (ws p : List Int) (k : Nat) : (partL ws p k).length = ws.length := by simp [partL]
theorem subL_len (ws p : List Int) : (subL ws p).length = ws.length := by simp [subL]
theorem partL_at (ws p : List Int) (k i : Nat) (h : i < ws.length) : (partL ws p k).getD i 0 = if i < k then ws.getD i 0 - p.getD i 0 else ws.getD i 0 := by simp [partL, h]
theorem subL_at (ws p : List Int) (i : Nat) (h : i < ws.length) : (subL ws p).getD i 0 = ws.getD i 0 - p.getD i 0 := by simp [subL, h]
theorem partL_zero (ws p : List Int) : partL ws p 0 = ws := ext_getD (partL_len _ _ _) rfl fun i hi => by rw [partL_at _ _ _ _ hi, if_neg (Nat.not_lt_zero _)]
theorem partL_all (ws p : List Int) (k : Nat) (h : ws.length ≤ k) : partL ws p k = subL ws p := ext_getD (partL_len _ _ _) (subL_len _ _) fun i hi => by rw [partL_at _ _ _ _ hi, if_pos (by omega), subL_at _ _ _ hi]
theorem partL_step (ws p : List Int) (k : Nat) (h : k < ws.length) : (partL ws p k).set k (ws.getD k 0 - p.getD k 0) = partL ws p (k + 1) :=
  ext_getD (by rw [List.length_set, partL_len]) (partL_len _ _ _) fun i hi => by
    rw [getD_set _ _ _ _ (by rw [partL_len]; exact h), partL_at _ _ _ _ hi, partL_at _ _ _ _ hi]
    by_cases e : i = k
    · subst e; rw [if_pos rfl, if_pos (by omega)]
    · rw [if_neg e]
      by_cases e2 : i < k
      · rw [if_pos e2, if_pos (by omega)]
      · rw [if_neg e2, if_neg (by omega)]
theorem cut_get (xs : List Int) (m I j : Nat) : ((xs.drop I).take m)[j]? = if j < m then xs[I + j]? else none := by
  rw [List.getElem?_take, List.getElem?_drop]
theorem shapeL_set (xs : List Int) (n m r c : Nat) (x : Int) (hr : r < n) (hc : c < m) : (shapeL xs m n).set r (((shapeL xs m n).getD r []).set c x) = shapeL (xs.set (r * m + c) x) m n := by
  have hm := Nat.mul_le_mul_right m (show r + 1 ≤ n from hr)
  apply List.ext_getElem?
  intro k
  rw [List.getElem?_set, shapeL_len]
  by_cases hk : k < n
  · have e1 : ∀ ys : List Int, (shapeL ys m n)[k]? = some ((ys.drop (k * m)).take m) := fun ys => by simp [shapeL, hk]
    rw [e1, e1]
    by_cases e : r = k
    · subst e
      rw [if_pos rfl, if_pos hr, shapeL_at _ _ _ _ hr]
      congr 1
      apply List.ext_getElem?
      intro j
      rw [cut_get, List.getElem?_set, List.getElem?_set, cut_get, List.length_take, List.length_drop]
      by_cases hj : j < m
      · by_cases e2 : c = j
        · subst e2
          simp only [hj, if_true]
          by_cases hl : r * m + c < xs.length
          · rw [if_pos (by omega), if_pos hl]
          · rw [if_neg (by omega), if_neg hl]
        · have e3 : ¬ r * m + c = r * m + j := by omega
          simp only [e2, e3, hj, if_true, if_false]
      · rw [if_neg (by omega), if_neg hj, if_neg hj]
    · rw [if_neg e]
      congr 1
      apply List.ext_getElem?
      intro j
      rw [cut_get, cut_get, List.getElem?_set]
      by_cases hj : j < m
      · rw [if_pos hj, if_pos hj, if_neg]
        intro e3
        rcases Nat.lt_or_gt_of_ne e with h1 | h1
        · have := Nat.mul_le_mul_right m (show r + 1 ≤ k from h1)
          rw [Nat.succ_mul] at this
          omega
        · have := Nat.mul_le_mul_right m (show k + 1 ≤ r from h1)
          rw [Nat.succ_mul] at this
          omega
      · rw [if_neg hj, if_neg hj]
  · rw [if_neg (by omega)]
    have e1 : ∀ ys : List Int, (shapeL ys m n)[k]? = none := fun ys => by simp [shapeL]; omega
    rw [e1, e1]

/-- How much higher water stands. -/
noncomputable def depthL (h : List (List Int)) : List (List Int) :=
  if vGrid h then shapeL (subL (levelL h.length (h.getD 0 []).length h.flatten) h.flatten) (h.getD 0 []).length h.length else []
theorem depthL_no {h : List (List Int)} (hg : vGrid h = false) : depthL h = [] := by unfold depthL; rw [hg]; rfl
theorem depthL_yes {h : List (List Int)} {n m : Nat} {w : List Int} (hg : vGrid h = true) (en : h.length = n) (em : (h.getD 0 []).length = m) (W : Level n m h.flatten w) : depthL h = shapeL (subL w h.flatten) m n := by
  unfold depthL
  rw [if_pos hg, en, em, W.eq]
theorem depthL_total (h : List (List Int)) : total (depthL h) ≤ 1000000 := by
  unfold depthL
  by_cases hg : vGrid h = true
  · rw [if_pos hg]; exact shape_grid_total hg _
  · rw [if_neg hg]; simp [total]
theorem Level.top {n m i : Nat} {p w : List Int} (W : Level n m p w) (hp : ∀ i, i < n * m → p.getD i 0 ≤ 12) (hi : i < n * m) : w.getD i 0 ≤ 12 := W.le (esc_top (L := 12) hp _ hi)

set_option maxRecDepth 100000 in
set_option maxHeartbeats 4000000 in
theorem DepthsOf_any (v : Value) (h : List (List Int)) (w : World) (hv : RowsV w v h) (hS : Steps w) :
    Calls Tryd.prog 19 #[v] w (NewRows w (depthL h)) := by
  have HK := ValidGrid_any v h w hv
  cases hg : vGrid h with
  | false =>
    rw [hg] at HK
    have HK2 := Lib.hid HK
    rw [depthL_no hg]
    obtain ⟨a, b, o, c, rfl, _, _, _⟩ := hv.shape
    clear hv hS HK hg
    go_enter Tryd.func19, Tryd.ntmps19
    go_wp2_with (fail)
    refine HK2.out.mono ?_
    rintro e w1 ⟨rfl, rfl⟩
    go_wp2
    go_ret
    exact ⟨_, rfl, RowsO.nil _ _ _ _ _, Grew.refl _⟩
  | true =>
    rw [hg] at HK
    have HK2 := Lib.hid HK
    have G := Grid.of hg
    obtain ⟨n, en⟩ : ∃ n, h.length = n := ⟨_, rfl⟩
    obtain ⟨m, em⟩ : ∃ m, (h.getD 0 []).length = m := ⟨_, rfl⟩
    obtain ⟨ws, W⟩ : ∃ ws, Level n m h.flatten ws := ⟨_, levelL_ok (by have := G.n5; omega) (by have := G.m5; omega) (fun i hi => grid_num G i (by rw [en, em]; exact hi))⟩
    have HF := FillByQueue_any v h w hv hS
    rw [fillL_yes hg en em W] at HF
    have HF2 := Lib.hid HF
    rw [depthL_yes hg en em W]
    have hn5 := G.n5
    have hn1 := G.n1
    have hm5 := G.m5
    have hm1 := G.m1
    rw [en] at hn5 hn1
    rw [em] at hm5 hm1
    obtain ⟨p, ep⟩ : ∃ p, h.flatten = p := ⟨_, rfl⟩
    have HCELL : Hid (∀ r, r < n → ∀ k, k < m → (h.getD r []).getD k 0 = p.getD (r * m + k) 0) := Lib.hid fun r hr k hk => by
      have hb : r * m + k < n * m := by
        have := Nat.mul_le_mul_right m (show r + 1 ≤ n from hr)
        rw [Nat.succ_mul] at this
        omega
      rw [← ep, flat_at (by rw [em] at G; exact G) (r * m + k) (by rw [en]; exact hb)]
      have e1 : (r * m + k) / m = r := by rw [Nat.mul_comm, Nat.mul_add_div hm1, Nat.div_eq_of_lt hk, Nat.add_zero]
      have e2 : (r * m + k) % m = k := by rw [Nat.mul_comm, Nat.mul_add_mod, Nat.mod_eq_of_lt hk]
      rw [e1, e2]
    have HROW : Hid (∀ r, r < n → (h.getD r []).length = m) := Lib.hid fun r hr => by rw [← em]; exact G.len r (by rw [en]; exact hr)
    have HB : Hid (∀ i, i < n * m → 0 ≤ p.getD i 0 ∧ p.getD i 0 ≤ 12 ∧ 0 ≤ ws.getD i 0 ∧ ws.getD i 0 ≤ 12) := Lib.hid fun i hi => by
      have hq := fun i (hi : i < n * m) => grid_num G i (by rw [en, em]; exact hi)
      have h1 := hq i hi
      have h2 := W.base hi
      have h3 := W.top (fun i hi => (hq i hi).2) hi
      rw [ep] at h1 h2
      omega
    have HL : Hid (ws.length = n * m) := Lib.hid W.len
    rw [ep]
    obtain ⟨a, b, o, c, rfl, ⟨hlc, hcb⟩, ha, HCR⟩ := hv.shape
    obtain rfl := ha (by omega)
    rw [en] at HK2 HF2 hlc HCR ⊢
    have hn0 : (0 : Int) < (n : Int) := by omega
    clear hv hS HK hg G ha en em ep W HF
    go_enter Tryd.func19, Tryd.ntmps19
    go_wp2_with (fail)
    refine HK2.out.mono ?_
    rintro e w0 ⟨rfl, rfl⟩
    go_wp2_with (fail)
    refine HF2.out.mono ?_
    rintro e w1 ⟨v1, rfl, hO1, hg1⟩
    obtain ⟨g1, c1, rfl, hb1, hb2, hc1, hc2⟩ := hO1.pos (by rw [shapeL_len]; omega)
    rw [shapeL_len] at hO1 hc1 ⊢
    have H1 := Lib.hid (And.intro hO1 hg1)
    clear hO1 hg1 HF2 HK2
    go_wp2
    go_loopw [15] (fun i wr => ∃ r : Nat, r ≤ n ∧ i = .int .i64 (r : Int) ∧ Hid (RowsO 26 3 w.heap.size w1.heap.size wr (.slice (some ⟨g1, 0, none⟩) n c1) (shapeL (partL ws p (r * m)) m n) ∧ Grew w wr ∧ w1.heap.size ≤ wr.heap.size)) (fun i _ => n - (intOf i).toNat)
    case atStart => exact ⟨0, Nat.zero_le _, rfl, by rw [Nat.zero_mul, partL_zero]; exact H1.out.1, H1.out.2, Nat.le_refl _⟩
    case round =>
      obtain ⟨r, hr1, rfl, HX⟩ := hrel
      clear H1
      by_cases hr : r < n
      · obtain ⟨u, hcu, hu⟩ := HCR.out r hr
        have hcu := HX.out.2.1.cell hcu
        obtain ⟨a2, b2, o2, c2, rfl, ⟨hlu, hcu2⟩, ha2, HC2⟩ := hu.shape
        rw [HROW.out r hr] at hcu hlu ha2
        obtain rfl := ha2 (by omega)
        clear hu
        go_wp2
        go_loopw [22] (fun j wi => ∃ k : Nat, k ≤ m ∧ j = .int .i64 (k : Int) ∧ Hid (RowsO 26 3 w.heap.size w1.heap.size wi (.slice (some ⟨g1, 0, none⟩) n c1) (shapeL (partL ws p (r * m + k)) m n) ∧ Grew w wi ∧ w1.heap.size ≤ wi.heap.size)) (fun j _ => m - (intOf j).toNat)
        case atStart => exact ⟨0, Nat.zero_le _, rfl, by rw [Nat.add_zero]; exact HX.out.1, HX.out.2⟩
        case round =>
          obtain ⟨k, hk1, rfl, HY⟩ := hrel
          clear HX hcu
          by_cases hk : k < m
          · have hxc := HY.out.2.1.cell (HC2.out k (by rw [HROW.out r hr]; exact hk))
            rw [HCELL.out r hr k hk] at hxc
            have hb : r * m + k < n * m := by
              have := Nat.mul_le_mul_right m (show r + 1 ≤ n from hr)
              rw [Nat.succ_mul] at this
              omega
            obtain ⟨u3, hcu3, hO3⟩ := HY.out.1.at rfl (i := r) (by rw [shapeL_len]; exact hr)
            have hl3 : ((shapeL (partL ws p (r * m + k)) m n).getD r []).length = m := by
              rw [shapeL_at _ _ _ _ hr]
              refine cut_len _ _ _ ?_
              rw [partL_len, HL.out]
              have := Nat.mul_le_mul_right m (show r + 1 ≤ n from hr)
              rw [Nat.succ_mul] at this
              exact this
            obtain ⟨g3, c3, rfl, q1, q2, q3, q4⟩ := hO3.pos (by omega)
            rw [hl3] at hO3 hcu3 q3
            obtain ⟨hel, hfr⟩ := hO3.at rfl (i := k) (by omega)
            have hval : ((shapeL (partL ws p (r * m + k)) m n).getD r []).getD k 0 = ws.getD (r * m + k) 0 := by
              rw [shapeL_at _ _ _ _ hr, cut_at _ _ _ _ hk, partL_at _ _ _ _ (by rw [HL.out]; exact hb), if_neg (by omega)]
            rw [hval] at hel
            have hx := HB.out _ hb
            have HN : Hid (RowsO 26 3 w.heap.size w1.heap.size (wr.setCell ⟨g3, k, none⟩ (.int .i64 (ws.getD (r * m + k) 0 - p.getD (r * m + k) 0))) (.slice (some ⟨g1, 0, none⟩) n c1) (shapeL (partL ws p (r * m + (k + 1))) m n) ∧ Grew w (wr.setCell ⟨g3, k, none⟩ (.int .i64 (ws.getD (r * m + k) 0 - p.getD (r * m + k) 0))) ∧ w1.heap.size ≤ (wr.setCell ⟨g3, k, none⟩ (.int .i64 (ws.getD (r * m + k) 0 - p.getD (r * m + k) 0))).heap.size) := by
              have hs := HY.out.1.set (by decide) rfl (i := r) (by rw [shapeL_len]; exact hr) hcu3 k (ws.getD (r * m + k) 0 - p.getD (r * m + k) 0)
              rw [shapeL_set _ _ _ _ _ _ hr hk, partL_step _ _ _ (by rw [HL.out]; exact hb)] at hs
              have hwi : Within g3 (g3 + 1) wr (wr.setCell ⟨g3, k, none⟩ (.int .i64 (ws.getD (r * m + k) 0 - p.getD (r * m + k) 0))) := (Within.refl _ _ _).setCell (p := ⟨g3, k, none⟩) (Nat.le_refl _) (Nat.lt_succ_self _) _
              exact Lib.hid ⟨hs, Within.grew HY.out.2.1 hwi q1, Nat.le_trans HY.out.2.2 hwi.size⟩
            obtain ⟨x, ex⟩ : ∃ x, ws.getD (r * m + k) 0 = x := ⟨_, rfl⟩
            obtain ⟨y, ey⟩ : ∃ y, p.getD (r * m + k) 0 = y := ⟨_, rfl⟩
            rw [ex] at hel hx HN
            rw [ey] at hxc hx HN
            obtain ⟨x1, x2, x3, x4⟩ := hx
            clear HY hO3 hl3 hval ex ey
            go_wp2
            go_roundw
            case rel => exact ⟨k + 1, by omega, by go_num, HN.out⟩
            case measure => simp [intOf]; omega
          · obtain rfl : k = m := by omega
            have HN : Hid (RowsO 26 3 w.heap.size w1.heap.size wr (.slice (some ⟨g1, 0, none⟩) n c1) (shapeL (partL ws p ((r + 1) * k)) k n) ∧ Grew w wr ∧ w1.heap.size ≤ wr.heap.size) := by
              rw [Nat.succ_mul]; exact HY
            clear HY
            go_wp2
            go_roundw
            case rel => exact ⟨r + 1, by omega, by go_num, HN.out⟩
            case measure => simp [intOf]; omega
      · obtain rfl : r = n := by omega
        have HN : Hid (RowsO 26 3 w.heap.size wr.heap.size wr (.slice (some ⟨g1, 0, none⟩) r c1) (shapeL (subL ws p) m r) ∧ Grew w wr) := by
          have := HX.out.1
          rw [partL_all _ _ _ (Nat.le_of_eq HL.out)] at this
          exact Lib.hid ⟨this.wide (Nat.le_refl _) HX.out.2.2, HX.out.2.1⟩
        clear HX
        go_wp2
        go_ret
        exact ⟨_, rfl, HN.out⟩

def uptoL (ws p : List Int) (k : Nat) : List Int := (List.range k).map fun i => ws.getD i 0 - p.getD i 0
theorem uptoL_len (ws p : List Int) (k : Nat) : (uptoL ws p k).length = k := by simp [uptoL]
theorem uptoL_succ (ws p : List Int) (k : Nat) : uptoL ws p (k + 1) = uptoL ws p k ++ [ws.getD k 0 - p.getD k 0] := by simp [uptoL, List.range_succ]
theorem uptoL_all (ws p : List Int) : uptoL ws p ws.length = subL ws p := rfl

end Go.Proofs.YtgecghngfonejaaDoor
