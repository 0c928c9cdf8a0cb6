/- The contracts of spec.sandOf, someSand and the draws of sand. -/
import Derived.Test.YthgafljbbkgldaaDoorSomeG
import Derived.Test.YthgafljbbkgldaaDoorSZero
namespace Go.Proofs.YthgafljbbkgldaaDoor
open Go.RowKit

/-- Every row has m numbers in 0 .. 9. -/
def RowsIn (m : Nat) (H : List (List Int)) : Prop := ∀ r, r < H.length → (H.getD r []).length = m ∧ ∀ x ∈ H.getD r [], 0 ≤ x ∧ x ≤ 9
theorem rowsIn_snoc {m : Nat} {H : List (List Int)} {xs : List Int} (h : RowsIn m H) (hl : xs.length = m) (hx : ∀ x ∈ xs, 0 ≤ x ∧ x ≤ 9) : RowsIn m (H ++ [xs]) := by
  intro r hr
  rw [List.length_append, List.length_singleton] at hr
  by_cases hlt : r < H.length
  · rw [getD_append_l _ _ _ _ hlt]; exact h r hlt
  · obtain rfl : r = H.length := by omega
    rw [getD_append_r]; exact ⟨hl, hx⟩
def SandOfPost (w0 w : World) (rb p n m : Nat) (e : Ending) (w' : World) : Prop :=
  ∃ v H q, e = .returned v ∧ RowsO 27 3 w.heap.size w'.heap.size w' v H ∧ (H.length = n ∧ RowsIn m H) ∧ Rdr w0 w' rb q ∧ q ≤ p + 100 ∧ Within rb (rb + 1) w w'
set_option maxRecDepth 100000 in
set_option maxHeartbeats 2000000 in
theorem sandOf_any (w0 w : World) (rb p N M : Nat) (hr : Rdr w0 w rb p) (hp : p ≤ 1000) (hN : 1 ≤ N ∧ N ≤ 5) (hM : 1 ≤ M ∧ M ≤ 4) :
    Calls Tryd.prog 55 #[.pointer (some ⟨rb, 0, none⟩), .int .i64 N, .int .i64 M] w (SandOfPost w0 w rb p N M) := by
  have hlt := hr.lt
  have HR := Lib.hid hr
  clear hr
  go_enter Tryd.func55, Tryd.ntmps55
  go_wp2_with (fail)
  refine (one_any w0 _ rb p (w.heap.size + 1) _ [3, 9, 5, 3] (HR.out.later ((Grew.refl _).alloc _)) (by omega) (IntsO.lit _ _ w [3, 9, 5, 3] _ rfl (by omega) (by decide)) (by decide) (by decide)).mono ?_
  rintro e w3 ⟨most, hmo, rfl, hr3, hw3⟩
  have hmo' : 2 ≤ most ∧ most ≤ 9 := by simp at hmo; omega
  have hs3 := hw3.size
  simp at hs3
  have HQ3 := Lib.hid (And.intro hr3 ((((Grew.refl w).alloc _).within _ _).trans hw3))
  clear hmo hr3 hw3
  go_wp2_with (fail)
  have h0 := RowsO.lit0 27 3 w.heap.size w3 (by omega)
  have H0 : Hid (RowsO 27 3 w.heap.size (w3.alloc (.cells #[] 27)).heap.size (w3.alloc (.cells #[] 27)) (.slice (some ⟨w3.heap.size, 0, none⟩) 0 0) [] ∧ RowsIn M [] ∧ Rdr w0 (w3.alloc (.cells #[] 27)) rb (p + 1) ∧ p + 1 ≤ p + 1 + 0 ∧ Within rb (rb + 1) w (w3.alloc (.cells #[] 27))) :=
    ⟨by simpa using h0, fun r hr => absurd hr (Nat.not_lt_zero _), HQ3.out.1.later ((Grew.refl _).alloc _), Nat.le_refl _, HQ3.out.2.alloc _⟩
  clear h0
  go_loopg [8] N (fun gk v wr => ∃ H g c q, v = .slice (some ⟨g, 0, none⟩) (List.length H) c ∧ List.length H ≤ N ∧ N ≤ gk + List.length H ∧
    Hid (RowsO 27 3 w.heap.size wr.heap.size wr v H ∧ RowsIn M H ∧ Rdr w0 wr rb q ∧ q ≤ p + 1 + 4 * List.length H ∧ Within rb (rb + 1) w wr))
  case atStart => exact ⟨[], _, _, _, rfl, Nat.zero_le _, Nat.le_refl _, H0⟩
  case round =>
    obtain ⟨H, g, c, q, rfl, hH1, hH2, HI⟩ := hrel
    clear H0 HQ3
    by_cases hlt2 : H.length < N
    · obtain ⟨wo, rfl⟩ : ∃ wo : World, wo = wr := ⟨_, rfl⟩
      obtain ⟨gn, rfl⟩ : ∃ gn : Nat, gn = gk := ⟨_, rfl⟩
      have hsw : w.heap.size ≤ wo.heap.size := HI.out.2.2.2.2.size
      go_wp2_with (fail)
      have h0 := IntsO.lit 3 wo.heap.size wo [] #[] rfl (Nat.le_refl _) (by decide)
      have H0 : Hid (IntsO 3 wo.heap.size (wo.alloc (.cells #[] 3)).heap.size (wo.alloc (.cells #[] 3)) (.slice (some ⟨wo.heap.size, 0, none⟩) 0 0) [] ∧ (∀ x ∈ ([] : List Int), 0 ≤ x ∧ x ≤ 9) ∧ Rdr w0 (wo.alloc (.cells #[] 3)) rb q ∧ q ≤ q + 0 ∧ Within rb (rb + 1) wo (wo.alloc (.cells #[] 3))) :=
        ⟨by simpa using h0, fun x hx => by simp at hx, HI.out.2.2.1.later ((Grew.refl _).alloc _), Nat.le_refl _, (Within.refl _ _ _).alloc _⟩
      clear h0
      go_loopg [9] M (fun gk v wi => ∃ xs g' c' q', v = .slice (some ⟨g', 0, none⟩) (List.length xs) c' ∧ List.length xs ≤ M ∧ M ≤ gk + List.length xs ∧
        Hid (IntsO 3 wo.heap.size wi.heap.size wi v xs ∧ (∀ x ∈ xs, 0 ≤ x ∧ x ≤ 9) ∧ Rdr w0 wi rb q' ∧ q' ≤ q + List.length xs ∧ Within rb (rb + 1) wo wi))
      case atStart => exact ⟨[], _, _, _, rfl, Nat.zero_le _, Nat.le_refl _, H0⟩
      case round =>
        obtain ⟨xs, g', c', q', rfl, hx1, hx2, HX⟩ := hrel
        clear H0
        by_cases hltx : xs.length < M
        · have hqb : q' ≤ 100000 := by have := HI.out.2.2.2.1; have := HX.out.2.2.2.1; omega
          go_wp2_with (fail)
          refine (pick_any w0 _ rb q' _ HX.out.2.2.1 hqb (by omega)).mono ?_
          rintro e w4 ⟨x, rfl, hx0, hxm, hr4, hw4⟩
          have hx12 : x ≤ 9 := by omega
          have hs4 : wo.heap.size ≤ w4.heap.size := Nat.le_trans HX.out.2.2.2.2.size hw4.size
          have HO := Lib.hid (HX.out.1.within hw4 (.inr (by omega)))
          have HW := Lib.hid (And.intro hr4 (HX.out.2.2.2.2.trans hw4))
          have hsx := hw4.size
          clear hr4 hw4 hxm
          go_wp2_with (at_builtin; refine wpList_append_int rfl (.tmp 23) (.tmp 28) 27 rfl Tryd.underlying27 Tryd.infoInt rfl rfl rfl HO.out (by omega) (by omega) ?_; intro g5 c5 w5 hO5 hW5 hS5)
          have HF := Lib.hid (And.intro hO5 hW5)
          clear hO5 hW5
          go_wp2
          go_roundg (gk - 1)
          case measure => omega
          case rel => exact ⟨xs ++ [x], g5, c5, q' + 1, by simp, by simp; omega, by simp; omega, HF.out.1, by
            intro z hz
            rcases List.mem_append.1 hz with h | h
            · exact HX.out.2.1 z h
            · simp at h; omega, HW.out.1.within HF.out.2 (by omega), by have := HX.out.2.2.2.1; simp; omega, HW.out.2.after HF.out.2 (Nat.le_refl _)⟩
        · go_wp2_with (at_builtin; refine wpList_append_row rfl (.tmp 30) (.tmp 32) 23 rfl (by decide) Tryd.underlying23 Tryd.infoInts rfl rfl rfl (HI.out.1.within HX.out.2.2.2.2 (.inr (by omega))) HX.out.1 (by omega) (by have := HX.out.2.2.2.2.size; omega) hsw ?_; intro g5 c5 w5 hO5 hW5 hS5)
          have HF := Lib.hid (And.intro hO5 hW5)
          clear hO5 hW5
          go_wp2
          go_roundg (gn - 1)
          case measure => omega
          case rel => exact ⟨H ++ [xs], g5, c5, q', by simp, by simp; omega, by simp; omega, HF.out.1, rowsIn_snoc HI.out.2.1 (by omega) HX.out.2.1,
            HX.out.2.2.1.within HF.out.2 (by omega), by have := HI.out.2.2.2.1; have := HX.out.2.2.2.1; simp; omega, (HI.out.2.2.2.2.trans HX.out.2.2.2.2).after HF.out.2 (Nat.le_refl _)⟩
    · obtain rfl : N = H.length := by omega
      have HQ : Hid (q ≤ p + 100) := Lib.hid (by have := HI.out.2.2.2.1; omega)
      go_wp2
      go_ret
      exact ⟨_, H, q, rfl, HI.out.1, ⟨rfl, HI.out.2.1⟩, HI.out.2.2.1, HQ.out, HI.out.2.2.2.2⟩
theorem rowsIn_sand {m : Nat} {H : List (List Int)} (hn : 1 ≤ H.length ∧ H.length ≤ 4) (hm : 1 ≤ m ∧ m ≤ 4) (h : RowsIn m H) : vSand H = true := by
  unfold vSand vRows
  rw [Bool.and_eq_true, Bool.and_eq_true, decide_eq_true_eq, decide_eq_true_eq, (h 0 (by omega)).1]
  refine ⟨hn, all_of_get [] fun r hr => ?_⟩
  rw [Bool.and_eq_true, decide_eq_true_eq]
  refine ⟨(h r hr).1, ?_⟩
  unfold vNums
  rw [Bool.and_eq_true, Bool.and_eq_true, decide_eq_true_eq, decide_eq_true_eq, (h r hr).1, List.all_eq_true]
  refine ⟨⟨hm.1, by omega⟩, fun y hy => ?_⟩
  have := (h r hr).2 y hy
  simp [okN]
  omega
theorem rep_flat (n m : Nat) (y : Int) : (List.replicate n (List.replicate m y)).flatten = List.replicate (n * m) y := by
  rw [← shapeL_rep, shapeL_flat _ _ _ (by simp)]
theorem getD_rep (n r : Nat) (d z : List Int) (h : r < n) : (List.replicate n z).getD r d = z := by simp [List.getD_eq_getElem?_getD, h]
/-- What someSand leaves. -/
def SomeSandPost (w0 w : World) (rb p : Nat) (e : Ending) (w' : World) : Prop := ∃ v H q, e = .returned v ∧ RowsO 27 3 w.heap.size w'.heap.size w' v H ∧ Rdr w0 w' rb q ∧ q ≤ p + 200 ∧ Within rb (rb + 1) w w' ∧ (1 ≤ H.length ∧ H.length ≤ 5) ∧ 1 ≤ (H.getD 0 []).length ∧ (H.getD 0 []).length ≤ 4

/-- One number of the first row is put. -/
theorem sand_set {w0 w w7 w5 : World} {rb p q g4 c4 N M gr cr : Nat} {H4 : List (List Int)} {x : Int} (hO : RowsO 27 3 w.heap.size w7.heap.size w7 (.slice (some ⟨g4, 0, none⟩) N c4) H4) (hW : Within rb (rb + 1) w w7) (hl : 0 < H4.length) (hcu : w7.cell? ⟨g4, 0, none⟩ = some (.slice (some ⟨gr, 0, none⟩) M cr)) (hlo : w.heap.size ≤ gr)
    (hr5 : Rdr w0 w5 rb q) {o : Obj} (hw5 : Within rb (rb + 1) (w7.alloc o).drew w5) (hlt : rb < w.heap.size) (hq : q ≤ p + 200) (hN : 1 ≤ H4.length ∧ H4.length ≤ 4) (hM : 1 ≤ (H4.getD 0 []).length ∧ (H4.getD 0 []).length ≤ 4) :
    SomeSandPost w0 w rb p (.returned (.slice (some ⟨g4, 0, none⟩) N c4)) (w5.setCell ⟨gr, 0, none⟩ (.int .i64 x)) := by
  have hs := hW.size
  have hg : Grew w7 (w7.alloc o).drew := ((Grew.refl _).alloc _).drew
  have h1 := (hO.grew hg).within hw5 (.inr (by omega))
  have hc := hw5.cell (hg.cell hcu) (.inr (by have := World.block_lt_of_cell? _ _ hcu; obtain ⟨g9, c9, e9, h9, _⟩ := hO.pos hl; simp only [Value.slice.injEq, Option.some.injEq, Addr.mk.injEq] at e9; show rb + 1 ≤ g4; omega))
  have h2 := h1.set (by decide) rfl hl hc 0 x
  have hws := one_within w5 gr 0 (.int .i64 x)
  have hz : w7.heap.size ≤ (w5.setCell ⟨gr, 0, none⟩ (.int .i64 x)).heap.size := by
    have a1 := hg.size
    have a2 := hw5.size
    have a3 := hws.size
    omega
  exact ⟨_, _, q, rfl, h2.wide (Nat.le_refl _) hz, hr5.within hws (by omega), hq, (hW.trans ((hg.within _ _).trans hw5)).after hws hlo, by rw [List.length_set]; omega, by
    have e : ((H4.set 0 ((H4.getD 0 []).set 0 x)).getD 0 []) = (H4.getD 0 []).set 0 x := by
      rw [List.getD_eq_getElem?_getD, List.getElem?_set_self hl, Option.getD_some]
    rw [e, List.length_set]
    exact hM⟩
set_option maxRecDepth 100000 in
set_option maxHeartbeats 4000000 in
theorem someSand_any (w0 w : World) (rb p : Nat) (hr : Rdr w0 w rb p) (hp : p ≤ 600) :
    Calls Tryd.prog 46 #[.pointer (some ⟨rb, 0, none⟩)] w (SomeSandPost w0 w rb p) := by
  have hlt := hr.lt
  have HR := Lib.hid hr
  clear hr
  go_enter Tryd.func46, Tryd.ntmps46
  go_wp2_with (fail)
  refine (one_any w0 _ rb p (w.heap.size + 1) _ [3, 2, 4, 3, 1] (HR.out.later ((Grew.refl _).alloc _)) (by omega) (IntsO.lit _ _ w [3, 2, 4, 3, 1] _ rfl (by omega) (by decide)) (by decide) (by decide)).mono ?_
  rintro e w1 ⟨n, hn, rfl, hr1, hw1⟩
  have hn' : 1 ≤ n ∧ n ≤ 4 := by simp at hn; omega
  have hs1 := hw1.size
  simp at hs1
  have HQ1 := Lib.hid (And.intro hr1 ((((Grew.refl w).alloc _).within _ _).trans hw1))
  clear hn hr1 hw1
  go_wp2_with (fail)
  refine (one_any w0 _ rb (p + 1) (w1.heap.size + 1) _ [3, 2, 4, 3, 1] (HQ1.out.1.later ((Grew.refl _).alloc _)) (by omega) (IntsO.lit _ _ w1 [3, 2, 4, 3, 1] _ rfl (by omega) (by decide)) (by decide) (by decide)).mono ?_
  rintro e w2 ⟨m, hm, rfl, hr2, hw2⟩
  have hm' : 1 ≤ m ∧ m ≤ 4 := by simp at hm; omega
  have hs2 := hw2.size
  simp at hs2
  have HQ2 := Lib.hid (And.intro hr2 (HQ1.out.2.trans ((((Grew.refl w1).alloc _).within _ _).trans hw2)))
  clear hm hr2 hw2 HQ1
  obtain ⟨N, rfl⟩ := Int.eq_ofNat_of_zero_le (show 0 ≤ n by omega)
  obtain ⟨M, rfl⟩ := Int.eq_ofNat_of_zero_le (show 0 ≤ m by omega)
  have hN : 1 ≤ N ∧ N ≤ 4 := by omega
  have hM : 1 ≤ M ∧ M ≤ 4 := by omega
  clear hn' hm'
  go_wp2_with (fail)
  refine (sandOf_any w0 _ rb (p + 2) N M HQ2.out.1 (by omega) ⟨hN.1, by omega⟩ hM).mono ?_
  rintro e w3 ⟨v3, H, q, rfl, hO3, ⟨hHl, hin⟩, hr3, hq3, hw3⟩
  obtain ⟨g3, c3, rfl, hg3a, hg3b, _, _⟩ := hO3.pos (by omega)
  rw [hHl] at hO3 ⊢
  have hs3 := hw3.size
  have H3 : Hid (RowsO 27 3 w.heap.size w3.heap.size w3 (.slice (some ⟨g3, 0, none⟩) N c3) H ∧ H.length = N ∧ RowsIn M H ∧ Rdr w0 w3 rb q ∧ Within rb (rb + 1) w w3) := ⟨hO3.wide (by omega) (Nat.le_refl _), hHl, hin, hr3, HQ2.out.2.trans hw3⟩
  have HQ3 : Hid (q ≤ p + 2 + 100) := Lib.hid hq3
  clear hO3 hHl hin hr3 hq3 hw3 HQ2
  go_wp2_with (fail)
  refine (pick_any w0 _ rb q _ H3.out.2.2.2.1 (by have := HQ3.out; omega) (by omega)).mono ?_
  rintro e w4 ⟨y, rfl, hy0, hym, hr4, hw4⟩
  have hs4 := hw4.size
  have H4' : Hid (RowsO 27 3 w.heap.size w4.heap.size w4 (.slice (some ⟨g3, 0, none⟩) N c3) H ∧ H.length = N ∧ RowsIn M H ∧ Rdr w0 w4 rb (q + 1) ∧ Within rb (rb + 1) w w4) := ⟨(H3.out.1.within hw4 (.inr (by omega))).wide (Nat.le_refl _) hs4, H3.out.2.1, H3.out.2.2.1, hr4, H3.out.2.2.2.2.trans hw4⟩
  clear hr4 hw4 hym H3
  by_cases hy : y = 0
  · subst hy
    clear hy0
    have hsand := rowsIn_sand (m := M) (by rw [H4'.out.2.1]; exact hN) hM H4'.out.2.2.1
    have hsv := sandV_of H4'.out.1.toV hsand
    have hnum := (sand_of hsand).2.2.1
    have hrow0 := (H4'.out.2.2.1 0 (by rw [H4'.out.2.1]; omega)).1
    rw [H4'.out.2.1, hrow0] at hsv hnum
    obtain ⟨u, hcu, hu⟩ := H4'.out.1.at rfl (i := 0) (by rw [H4'.out.2.1]; omega)
    obtain ⟨a9, b9, o9, c9, eu, _, _, _⟩ := hu.toV.shape
    rw [hrow0] at eu
    subst eu
    have HAC : Hid (∀ vb W, Grew w4 W → RowsV W vb (List.replicate N (List.replicate M 6)) → Calls Tryd.prog 58 #[.slice (some ⟨g3, 0, none⟩) N c3, vb] W (NewRows W (shapeL (calmL N M (plusL H.flatten (List.replicate (N * M) 6))) M N))) := Lib.hid fun vb W hW hb =>
      addCalm_any _ vb H (List.replicate N (List.replicate M 6)) N M _ _ W (hsv.rows.grew hW) hb hsv.shp ⟨by simp; omega, by simp; omega, hM.1, by omega, fun r hr => by rw [getD_rep _ _ _ _ (by simpa using hr)]; simp⟩ H4'.out.2.1 (by simp) rfl (rep_flat N M 6) hsv.sandy.len (by simp) (fun j hj => by
        have := hnum j hj
        have h6 : (List.replicate (N * M) (6 : Int)).getD j 0 = 6 := by simp [List.getD_eq_getElem?_getD, hj]
        rw [h6]
        omega) hsv.sandy.box
    have hcsh : Hid ((shapeL (calmL N M (plusL H.flatten (List.replicate (N * M) 6))) M N).length = N ∧ ((shapeL (calmL N M (plusL H.flatten (List.replicate (N * M) 6))) M N).getD 0 []).length = M) := by
      have hsd : Sandy N M (plusL H.flatten (List.replicate (N * M) 6)) := ⟨hsv.sandy.box, plusL_len hsv.sandy.len (by simp), fun j hj => by
        have := hnum j hj
        have h6 : (List.replicate (N * M) (6 : Int)).getD j 0 = 6 := by simp [List.getD_eq_getElem?_getD, hj]
        rw [plusL_get hsv.sandy.len (by simp) j hj, h6]
        omega⟩
      exact Lib.hid ⟨shapeL_len _ _ _, shapeL_row _ _ _ _ hsd.calm_len hN.1⟩
    obtain ⟨H4, eH4⟩ : ∃ H4, shapeL (calmL N M (plusL H.flatten (List.replicate (N * M) 6))) M N = H4 := ⟨_, rfl⟩
    rw [eH4] at HAC hcsh
    have HCSH := hcsh
    have b1 : (0 : Int) < N := by omega
    have hN0 : 0 < N := hN.1
    clear hsand hsv hnum hrow0 hu eH4 hcsh
    go_wp2_with (fail)
    refine (filled_any N M 6 _ (by omega) (by omega)).mono ?_
    rintro e w5 ⟨v5, rfl, hO5, hg5⟩
    have HA5 := Lib.hid (HAC.out v5 w5 hg5 hO5.toV)
    have HG5 := Lib.hid hg5
    obtain ⟨a5, c5, rfl⟩ := hO5.sh
    rw [List.length_replicate] at HA5 ⊢
    clear hO5 hg5 hcu
    go_wp2_with (fail)
    refine HA5.out.mono ?_
    rintro e w6 ⟨v6, rfl, hO6, hg6⟩
    obtain ⟨g4, c4, rfl, hg4a, hg4b, _, _⟩ := hO6.pos (by rw [HCSH.out.1]; omega)
    rw [HCSH.out.1] at hO6 ⊢
    have hsz5 := HG5.out.size
    have hsz6 := hg6.size
    have HT : Hid (RowsO 27 3 w.heap.size w6.heap.size w6 (.slice (some ⟨g4, 0, none⟩) N c4) H4 ∧ H4.length = N ∧ (H4.getD 0 []).length = M ∧ Rdr w0 w6 rb (q + 1) ∧ Within rb (rb + 1) w w6) :=
      ⟨hO6.wide (by omega) (Nat.le_refl _), HCSH.out.1, HCSH.out.2, H4'.out.2.2.2.1.later (HG5.out.trans hg6), H4'.out.2.2.2.2.trans ((HG5.out.trans hg6).within _ _)⟩
    obtain ⟨q4, eq4⟩ : ∃ q4, q + 1 = q4 := ⟨_, rfl⟩
    rw [eq4] at HT
    have HQ4 : Hid (q4 ≤ p + 150) := Lib.hid (by have := HQ3.out; omega)
    clear hO6 hg6 HA5 HAC HCSH H4' HQ3 eq4 HG5
    have hs6 := HT.out.2.2.2.2.size
    go_wp2_with (fail)
    refine (pick_any w0 _ rb q4 _ HT.out.2.2.2.1 (by have := HQ4.out; omega) (by omega)).mono ?_
    rintro e w7 ⟨z, rfl, hz0, hzm, hr7, hw7⟩
    have hs7 := hw7.size
    have H7 : Hid (RowsO 27 3 w.heap.size w7.heap.size w7 (.slice (some ⟨g4, 0, none⟩) N c4) H4 ∧ H4.length = N ∧ (H4.getD 0 []).length = M ∧ Rdr w0 w7 rb (q4 + 1) ∧ Within rb (rb + 1) w w7) :=
      ⟨(HT.out.1.within hw7 (.inr (by omega))).wide (Nat.le_refl _) hs7, HT.out.2.1, HT.out.2.2.1, hr7, HT.out.2.2.2.2.trans hw7⟩
    clear hr7 hw7 hzm HT
    by_cases h0 : z = 0
    · subst h0
      clear hz0
      obtain ⟨u, hcu, hu⟩ := H7.out.1.at rfl (i := 0) (by rw [H7.out.2.1]; omega)
      have hrow := H7.out.2.2.1
      obtain ⟨row, er⟩ : ∃ row, H4.getD 0 [] = row := ⟨_, rfl⟩
      rw [er] at hu hrow
      obtain ⟨gr, cr, rfl, hlo, hhi, hlc', hcc'⟩ := hu.pos (by omega)
      obtain ⟨hel, hfr⟩ := hu.at rfl (i := 0) (by omega)
      have HE := Lib.hid er
      rw [hrow] at hcu
      have hN0 : 0 < N := hN.1
      have hg7 : g4 < w7.heap.size := by omega
      have hM0 : 0 < M := hM.1
      have b1 : (0 : Int) < N := by omega
      have b2 : (0 : Int) < M := by omega
      have HCU := Lib.hid hcu
      clear er hrow hu
      go_wp2_with (fail)
      have HKK := Lib.hid (one_any w0 (w7.alloc (.cells #[.int .i64 (-1), .int .i64 10] 3)).drew rb (q4 + 1) (w7.heap.size + 1) (.slice (some ⟨w7.heap.size, 0, none⟩) 2 2) [-1, 10] (H7.out.2.2.2.1.later (((Grew.refl _).alloc _).drew)) (by have := HQ4.out; omega) ((IntsO.lit _ _ w7 [-1, 10] _ rfl (by omega) (by decide)).grew ((Grew.refl _).drew)) (by decide) (by decide))
      have HC5 : Hid (∀ w5, Within rb (rb + 1) (w7.alloc (.cells #[.int .i64 (-1), .int .i64 10] 3)).drew w5 → w5.cell? ⟨g4, 0, none⟩ = some (.slice (some ⟨gr, 0, none⟩) M cr) ∧ (∃ z, w5.cell? ⟨gr, 0, none⟩ = some (.int .i64 z)) ∧ w5.frozen? ⟨gr, 0, none⟩ = false) := fun w5 hw5 =>
        ⟨hw5.cell (((Grew.refl w7).alloc _).drew.cell hcu) (.inr (by show rb + 1 ≤ g4; omega)), ⟨_, hw5.cell (((Grew.refl w7).alloc _).drew.cell hel) (.inr (by show rb + 1 ≤ gr; omega))⟩,
          hw5.frozen (((Grew.refl w7).alloc _).drew.cell hel) ((Below.frozen (((Grew.refl w7).alloc (.cells #[.int .i64 (-1), .int .i64 10] 3)).drew) (World.block_lt_of_cell? _ _ hel)).trans hfr) (.inr (by show rb + 1 ≤ gr; omega))⟩
      go_region_with (first | (go_at_call 69; refine HKK.out.mono ?_; rintro e w5 ⟨x, hx, rfl, hr5, hw5⟩; obtain ⟨hcu5, ⟨z, hel5⟩, hfr5⟩ := HC5.out w5 hw5; have HX := Lib.hid hx; have HRW := Lib.hid (And.intro hr5 hw5); clear hx hr5 hw5))
      all_goals
        clear hcu hel hfr hcu5 hel5 hfr5
        go_wp2
        go_ret
        exact sand_set H7.out.1 H7.out.2.2.2.2 (by rw [H7.out.2.1]; omega) HCU.out hlo HRW.out.1 HRW.out.2 hlt (by have := HQ4.out; omega) (by rw [H7.out.2.1]; exact hN) (by rw [H7.out.2.2.1]; exact hM)
    · have h0' : (z == 0) = false := beq_eq_false_iff_ne.2 h0
      by_cases h1 : z = 1
      · subst h1
        clear hz0 h0 h0'
        have hu2 := IntsO.lit 3 w7.heap.size w7 [1] #[.int .i64 1] rfl (Nat.le_refl _) (by decide)
        have HO3 := Lib.hid (And.intro (H7.out.1.grew ((Grew.refl w7).alloc (.cells #[.int .i64 1] 3))) hu2)
        have h11 : ((1 : Int) == 0) = false := rfl
        clear hu2
        go_wp2_with (at_builtin; refine wpList_append_row rfl (.tmp 37) (.tmp 39) 23 rfl (by decide) Tryd.underlying23 Tryd.infoInts rfl rfl (by simp) HO3.out.1 HO3.out.2 (by rw [H7.out.2.1]; omega) (by simp; omega) (by omega) ?_; intro g5 c5 w5 hO5 hW5 hS5)
        have HF := Lib.hid (And.intro hO5 hW5)
        clear hO5 hW5
        go_wp2
        go_ret
        exact ⟨_, H4 ++ [[1]], q4 + 1, rfl, HF.out.1, (H7.out.2.2.2.1.later ((Grew.refl _).alloc _)).within HF.out.2 (by omega), by have := HQ4.out; omega, (H7.out.2.2.2.2.trans (((Grew.refl w7).alloc _).within _ _)).after HF.out.2 (Nat.le_refl _), by rw [List.length_append, H7.out.2.1]; simp; omega, by rw [getD_append_l _ _ _ _ (by rw [H7.out.2.1]; omega), H7.out.2.2.1]; exact hM⟩
      · have h1' : (z == 1) = false := beq_eq_false_iff_ne.2 h1
        clear h0 h1
        go_wp2
        go_ret
        exact ⟨_, H4, q4 + 1, rfl, H7.out.1, H7.out.2.2.2.1, by have := HQ4.out; omega, H7.out.2.2.2.2, by rw [H7.out.2.1]; omega, by rw [H7.out.2.2.1]; exact hM⟩
  · have hy' : (y == 0) = false := beq_eq_false_iff_ne.2 hy
    obtain ⟨w6, ew6⟩ : ∃ w6 : World, w6 = w4 := ⟨_, rfl⟩
    obtain ⟨H4, eH4⟩ : ∃ H4 : List (List Int), H4 = H := ⟨_, rfl⟩
    have HT : Hid (RowsO 27 3 w.heap.size w6.heap.size w6 (.slice (some ⟨g3, 0, none⟩) N c3) H4 ∧ H4.length = N ∧ (H4.getD 0 []).length = M ∧ Rdr w0 w6 rb (q + 1) ∧ Within rb (rb + 1) w w6) := by
      subst ew6 eH4
      exact Lib.hid ⟨H4'.out.1, H4'.out.2.1, (H4'.out.2.2.1 0 (by rw [H4'.out.2.1]; omega)).1, H4'.out.2.2.2.1, H4'.out.2.2.2.2⟩
    obtain ⟨g4, rfl⟩ : ∃ g4 : Nat, g4 = g3 := ⟨_, rfl⟩
    obtain ⟨c4, rfl⟩ : ∃ c4 : Nat, c4 = c3 := ⟨_, rfl⟩
    obtain ⟨q4, eq4⟩ : ∃ q4, q + 1 = q4 := ⟨_, rfl⟩
    rw [eq4] at HT
    have HQ4 : Hid (q4 ≤ p + 150) := Lib.hid (by have := HQ3.out; omega)
    rw [← ew6]
    clear H4' HQ3 eq4 hy hy0 eH4
    subst ew6
    have hs6 := HT.out.2.2.2.2.size
    go_wp2_with (fail)
    refine (pick_any w0 _ rb q4 _ HT.out.2.2.2.1 (by have := HQ4.out; omega) (by omega)).mono ?_
    rintro e w7 ⟨z, rfl, hz0, hzm, hr7, hw7⟩
    have hs7 := hw7.size
    have H7 : Hid (RowsO 27 3 w.heap.size w7.heap.size w7 (.slice (some ⟨g4, 0, none⟩) N c4) H4 ∧ H4.length = N ∧ (H4.getD 0 []).length = M ∧ Rdr w0 w7 rb (q4 + 1) ∧ Within rb (rb + 1) w w7) :=
      ⟨(HT.out.1.within hw7 (.inr (by omega))).wide (Nat.le_refl _) hs7, HT.out.2.1, HT.out.2.2.1, hr7, HT.out.2.2.2.2.trans hw7⟩
    clear hr7 hw7 hzm HT
    by_cases h0 : z = 0
    · subst h0
      clear hz0
      obtain ⟨u, hcu, hu⟩ := H7.out.1.at rfl (i := 0) (by rw [H7.out.2.1]; omega)
      have hrow := H7.out.2.2.1
      obtain ⟨row, er⟩ : ∃ row, H4.getD 0 [] = row := ⟨_, rfl⟩
      rw [er] at hu hrow
      obtain ⟨gr, cr, rfl, hlo, hhi, hlc', hcc'⟩ := hu.pos (by omega)
      obtain ⟨hel, hfr⟩ := hu.at rfl (i := 0) (by omega)
      have HE := Lib.hid er
      rw [hrow] at hcu
      have hN0 : 0 < N := hN.1
      have hg7 : g4 < w7.heap.size := by omega
      have hM0 : 0 < M := hM.1
      have b1 : (0 : Int) < N := by omega
      have b2 : (0 : Int) < M := by omega
      have HCU := Lib.hid hcu
      clear er hrow hu
      go_wp2_with (fail)
      have HKK := Lib.hid (one_any w0 (w7.alloc (.cells #[.int .i64 (-1), .int .i64 10] 3)).drew rb (q4 + 1) (w7.heap.size + 1) (.slice (some ⟨w7.heap.size, 0, none⟩) 2 2) [-1, 10] (H7.out.2.2.2.1.later (((Grew.refl _).alloc _).drew)) (by have := HQ4.out; omega) ((IntsO.lit _ _ w7 [-1, 10] _ rfl (by omega) (by decide)).grew ((Grew.refl _).drew)) (by decide) (by decide))
      have HC5 : Hid (∀ w5, Within rb (rb + 1) (w7.alloc (.cells #[.int .i64 (-1), .int .i64 10] 3)).drew w5 → w5.cell? ⟨g4, 0, none⟩ = some (.slice (some ⟨gr, 0, none⟩) M cr) ∧ (∃ z, w5.cell? ⟨gr, 0, none⟩ = some (.int .i64 z)) ∧ w5.frozen? ⟨gr, 0, none⟩ = false) := fun w5 hw5 =>
        ⟨hw5.cell (((Grew.refl w7).alloc _).drew.cell hcu) (.inr (by show rb + 1 ≤ g4; omega)), ⟨_, hw5.cell (((Grew.refl w7).alloc _).drew.cell hel) (.inr (by show rb + 1 ≤ gr; omega))⟩,
          hw5.frozen (((Grew.refl w7).alloc _).drew.cell hel) ((Below.frozen (((Grew.refl w7).alloc (.cells #[.int .i64 (-1), .int .i64 10] 3)).drew) (World.block_lt_of_cell? _ _ hel)).trans hfr) (.inr (by show rb + 1 ≤ gr; omega))⟩
      go_region_with (first | (go_at_call 69; refine HKK.out.mono ?_; rintro e w5 ⟨x, hx, rfl, hr5, hw5⟩; obtain ⟨hcu5, ⟨z, hel5⟩, hfr5⟩ := HC5.out w5 hw5; have HX := Lib.hid hx; have HRW := Lib.hid (And.intro hr5 hw5); clear hx hr5 hw5))
      all_goals
        clear hcu hel hfr hcu5 hel5 hfr5
        go_wp2
        go_ret
        exact sand_set H7.out.1 H7.out.2.2.2.2 (by rw [H7.out.2.1]; omega) HCU.out hlo HRW.out.1 HRW.out.2 hlt (by have := HQ4.out; omega) (by rw [H7.out.2.1]; exact hN) (by rw [H7.out.2.2.1]; exact hM)
    · have h0' : (z == 0) = false := beq_eq_false_iff_ne.2 h0
      by_cases h1 : z = 1
      · subst h1
        clear hz0 h0 h0'
        have hu2 := IntsO.lit 3 w7.heap.size w7 [1] #[.int .i64 1] rfl (Nat.le_refl _) (by decide)
        have HO3 := Lib.hid (And.intro (H7.out.1.grew ((Grew.refl w7).alloc (.cells #[.int .i64 1] 3))) hu2)
        have h11 : ((1 : Int) == 0) = false := rfl
        clear hu2
        go_wp2_with (at_builtin; refine wpList_append_row rfl (.tmp 37) (.tmp 39) 23 rfl (by decide) Tryd.underlying23 Tryd.infoInts rfl rfl (by simp) HO3.out.1 HO3.out.2 (by rw [H7.out.2.1]; omega) (by simp; omega) (by omega) ?_; intro g5 c5 w5 hO5 hW5 hS5)
        have HF := Lib.hid (And.intro hO5 hW5)
        clear hO5 hW5
        go_wp2
        go_ret
        exact ⟨_, H4 ++ [[1]], q4 + 1, rfl, HF.out.1, (H7.out.2.2.2.1.later ((Grew.refl _).alloc _)).within HF.out.2 (by omega), by have := HQ4.out; omega, (H7.out.2.2.2.2.trans (((Grew.refl w7).alloc _).within _ _)).after HF.out.2 (Nat.le_refl _), by rw [List.length_append, H7.out.2.1]; simp; omega, by rw [getD_append_l _ _ _ _ (by rw [H7.out.2.1]; omega), H7.out.2.2.1]; exact hM⟩
      · have h1' : (z == 1) = false := beq_eq_false_iff_ne.2 h1
        clear h0 h1
        go_wp2
        go_ret
        exact ⟨_, H4, q4 + 1, rfl, H7.out.1, H7.out.2.2.2.1, by have := HQ4.out; omega, H7.out.2.2.2.2, by rw [H7.out.2.1]; omega, by rw [H7.out.2.2.1]; exact hM⟩

/-- Drawn sand in new memory. -/
def DrawnSand (w : World) (e : Ending) (w' : World) : Prop := ∃ v H, e = .returned v ∧ RowsO 27 3 w.heap.size w'.heap.size w' v H ∧ Grew w w'


set_option maxHeartbeats 1000000 in
theorem DrawCalmFirst_any (v : Value) (bs : List Int) (w : World) (hv : NumsV .u8 w v bs) (hb : ∀ i, i < bs.length → 0 ≤ bs.getD i 0 ∧ bs.getD i 0 ≤ 255) :
    Calls Tryd.prog 17 #[v] w (DrawnSand w) := by
  have HN := Lib.hid (newReader_any v bs w hv hb)
  clear hv hb
  go_enter Tryd.func17, Tryd.ntmps17
  go_wp2_with (fail)
  refine HN.out.mono ?_
  rintro e w1 ⟨rfl, hr⟩
  have HR := Lib.hid hr
  clear hr
  go_wp2_with (fail)
  refine (someSand_any w w1 w.heap.size 0 HR.out (by omega)).mono ?_
  rintro e w2 ⟨v2, H, q, rfl, hO, hr2, hq, hw2, _, _⟩
  have HF : Hid (DrawnSand w (.returned v2) w2) := ⟨v2, H, rfl, hO.wide HR.out.grew.size (Nat.le_refl _), hr2.grew⟩
  obtain ⟨a3, c3, rfl⟩ := hO.sh
  clear hO hr2 hw2
  go_wp2
  go_ret
  exact HF.out

set_option maxHeartbeats 1000000 in
theorem DrawCalmLast_any (v : Value) (bs : List Int) (w : World) (hv : NumsV .u8 w v bs) (hb : ∀ i, i < bs.length → 0 ≤ bs.getD i 0 ∧ bs.getD i 0 ≤ 255) :
    Calls Tryd.prog 24 #[v] w (DrawnSand w) := by
  have HN := Lib.hid (newReader_any v bs w hv hb)
  clear hv hb
  go_enter Tryd.func24, Tryd.ntmps24
  go_wp2_with (fail)
  refine HN.out.mono ?_
  rintro e w1 ⟨rfl, hr⟩
  have HR := Lib.hid hr
  clear hr
  go_wp2_with (fail)
  refine (someSand_any w w1 w.heap.size 0 HR.out (by omega)).mono ?_
  rintro e w2 ⟨v2, H, q, rfl, hO, hr2, hq, hw2, _, _⟩
  have HF : Hid (DrawnSand w (.returned v2) w2) := ⟨v2, H, rfl, hO.wide HR.out.grew.size (Nat.le_refl _), hr2.grew⟩
  obtain ⟨a3, c3, rfl⟩ := hO.sh
  clear hO hr2 hw2
  go_wp2
  go_ret
  exact HF.out

set_option maxHeartbeats 1000000 in
theorem DrawTopplesOf_any (v : Value) (bs : List Int) (w : World) (hv : NumsV .u8 w v bs) (hb : ∀ i, i < bs.length → 0 ≤ bs.getD i 0 ∧ bs.getD i 0 ≤ 255) :
    Calls Tryd.prog 27 #[v] w (DrawnSand w) := by
  have HN := Lib.hid (newReader_any v bs w hv hb)
  clear hv hb
  go_enter Tryd.func27, Tryd.ntmps27
  go_wp2_with (fail)
  refine HN.out.mono ?_
  rintro e w1 ⟨rfl, hr⟩
  have HR := Lib.hid hr
  clear hr
  go_wp2_with (fail)
  refine (someSand_any w w1 w.heap.size 0 HR.out (by omega)).mono ?_
  rintro e w2 ⟨v2, H, q, rfl, hO, hr2, hq, hw2, _, _⟩
  have HF : Hid (DrawnSand w (.returned v2) w2) := ⟨v2, H, rfl, hO.wide HR.out.grew.size (Nat.le_refl _), hr2.grew⟩
  obtain ⟨a3, c3, rfl⟩ := hO.sh
  clear hO hr2 hw2
  go_wp2
  go_ret
  exact HF.out

set_option maxHeartbeats 1000000 in
theorem DrawBurns_any (v : Value) (bs : List Int) (w : World) (hv : NumsV .u8 w v bs) (hb : ∀ i, i < bs.length → 0 ≤ bs.getD i 0 ∧ bs.getD i 0 ≤ 255) :
    Calls Tryd.prog 33 #[v] w (DrawnSand w) := by
  have HN := Lib.hid (newReader_any v bs w hv hb)
  clear hv hb
  go_enter Tryd.func33, Tryd.ntmps33
  go_wp2_with (fail)
  refine HN.out.mono ?_
  rintro e w1 ⟨rfl, hr⟩
  have HR := Lib.hid hr
  clear hr
  go_wp2_with (fail)
  refine (someSand_any w w1 w.heap.size 0 HR.out (by omega)).mono ?_
  rintro e w2 ⟨v2, H, q, rfl, hO, hr2, hq, hw2, _, _⟩
  have HF : Hid (DrawnSand w (.returned v2) w2) := ⟨v2, H, rfl, hO.wide HR.out.grew.size (Nat.le_refl _), hr2.grew⟩
  obtain ⟨a3, c3, rfl⟩ := hO.sh
  clear hO hr2 hw2
  go_wp2
  go_ret
  exact HF.out

def DrawnSands (w : World) (e : Ending) (w' : World) : Prop := ∃ v u H K, e = .returned (.tuple #[v, u]) ∧ RowsO 27 3 w.heap.size w'.heap.size w' v H ∧ RowsO 27 3 w.heap.size w'.heap.size w' u K ∧ Grew w w'
set_option maxRecDepth 100000 in
set_option maxHeartbeats 2000000 in
theorem DrawAddSand_any (v : Value) (bs : List Int) (w : World) (hv : NumsV .u8 w v bs) (hb : ∀ i, i < bs.length → 0 ≤ bs.getD i 0 ∧ bs.getD i 0 ≤ 255) :
    Calls Tryd.prog 30 #[v] w (DrawnSands w) := by
  have HN := Lib.hid (newReader_any v bs w hv hb)
  clear hv hb
  go_enter Tryd.func30, Tryd.ntmps30
  go_wp2_with (fail)
  refine HN.out.mono ?_
  rintro e w1 ⟨rfl, hr⟩
  have HR := Lib.hid hr
  have hl1 := hr.lt
  clear hr
  go_wp2_with (fail)
  refine (someSand_any w w1 w.heap.size 0 HR.out (by omega)).mono ?_
  rintro e w2 ⟨v2, H, q, rfl, hO, hr2, hq, hw2, hn, hm⟩
  have HS := Lib.hid (And.intro hO (And.intro hr2 hw2))
  have hs2 := hw2.size
  obtain ⟨g2, c2, rfl, hg2a, hg2b, _, _⟩ := hO.pos (by omega)
  clear hO hr2 hw2
  go_wp2_with (fail)
  refine (pick_any w _ w.heap.size q _ HS.out.2.1 (by omega) (by omega)).mono ?_
  rintro e w3 ⟨y, rfl, hy0, hym, hr3, hw3⟩
  have hs3 := hw3.size
  have H3 : Hid (RowsO 27 3 w1.heap.size w3.heap.size w3 (.slice (some ⟨g2, 0, none⟩) H.length c2) H ∧ Rdr w w3 w.heap.size (q + 1)) := ⟨(HS.out.1.within hw3 (.inr (by omega))).wide (Nat.le_refl _) hs3, hr3⟩
  clear hr3 hw3 hym HS
  by_cases hy : y = 0
  · subst hy
    clear hy0
    go_wp2_with (fail)
    refine (someSand_any w w3 w.heap.size (q + 1) H3.out.2 (by omega)).mono ?_
    rintro e w4 ⟨v4, K, q4, rfl, hO4, hr4, hq4, hw4, _, _⟩
    have hs4 := hw4.size
    have HF : Hid (RowsO 27 3 w.heap.size w4.heap.size w4 (.slice (some ⟨g2, 0, none⟩) H.length c2) H ∧ RowsO 27 3 w.heap.size w4.heap.size w4 v4 K ∧ Grew w w4) :=
      ⟨(H3.out.1.within hw4 (.inr (by omega))).wide (by omega) hs4, hO4.wide (by omega) (Nat.le_refl _), hr4.grew⟩
    obtain ⟨a4, c4, rfl⟩ := hO4.sh
    clear hO4 hr4 hw4
    go_wp2
    go_ret2
    exact ⟨_, _, H, K, rfl, HF.out⟩
  · have hy' : (y == 0) = false := beq_eq_false_iff_ne.2 hy
    obtain ⟨u, hcu, hu⟩ := H3.out.1.at rfl (i := 0) (by omega)
    obtain ⟨a9, b9, o9, c9, eu, _, _, _⟩ := hu.toV.shape
    subst eu
    have hSO := Lib.hid fun (W : World) (hr : Rdr w W w.heap.size (q + 1)) => sandOf_any w W w.heap.size (q + 1) H.length (H.getD 0 []).length hr (by omega) hn hm
    obtain ⟨M, eM⟩ : ∃ M, (H.getD 0 []).length = M := ⟨_, rfl⟩
    rw [eM] at hcu hSO hm
    have HSO := hSO
    have b1 : (0 : Int) < H.length := by omega
    have hN0 : 0 < H.length := hn.1
    clear hu eM hSO
    go_wp2_with (fail)
    refine (HSO.out _ H3.out.2).mono ?_
    rintro e w4 ⟨v4, K, q4, rfl, hO4, -, hr4, hq4, hw4⟩
    have hs4 := hw4.size
    have HF : Hid (RowsO 27 3 w.heap.size w4.heap.size w4 (.slice (some ⟨g2, 0, none⟩) H.length c2) H ∧ RowsO 27 3 w.heap.size w4.heap.size w4 v4 K ∧ Grew w w4) :=
      ⟨(H3.out.1.within hw4 (.inr (by omega))).wide (by omega) hs4, hO4.wide (by omega) (Nat.le_refl _), hr4.grew⟩
    obtain ⟨a4, c4, rfl⟩ := hO4.sh
    clear hO4 hr4 hw4 hcu
    go_wp2
    go_ret2
    exact ⟨_, _, H, K, rfl, HF.out⟩
set_option maxRecDepth 100000 in
set_option maxHeartbeats 2000000 in
theorem DrawZeroSand_any (v : Value) (bs : List Int) (w : World) (hv : NumsV .u8 w v bs) (hb : ∀ i, i < bs.length → 0 ≤ bs.getD i 0 ∧ bs.getD i 0 ≤ 255) :
    Calls Tryd.prog 36 #[v] w fun e w' => ∃ r c : Int, e = .returned (.tuple #[.int .i64 r, .int .i64 c]) ∧ (-1 ≤ r ∧ r ≤ 5) ∧ (-1 ≤ c ∧ c ≤ 5) ∧ Grew w w' := by
  have HN := Lib.hid (newReader_any v bs w hv hb)
  clear hv hb
  go_enter Tryd.func36, Tryd.ntmps36
  go_wp2_with (fail)
  refine HN.out.mono ?_
  rintro e w1 ⟨rfl, hr⟩
  have HR := Lib.hid hr
  have hl1 := hr.lt
  clear hr
  go_wp2_with (fail)
  refine (one_any w _ w.heap.size 0 (w1.heap.size + 1) _ [3, 2, 4, 1, 0, 5] (HR.out.later ((Grew.refl _).alloc _)) (by omega) (IntsO.lit _ _ w1 [3, 2, 4, 1, 0, 5] _ rfl (by omega) (by decide)) (by decide) (by decide)).mono ?_
  rintro e w2 ⟨n, hn, rfl, hr2, hw2⟩
  have hn' : -1 ≤ n ∧ n ≤ 5 := by simp at hn; omega
  have hs2 := hw2.size
  simp at hs2
  have HR2 := Lib.hid hr2
  clear hn hr2 hw2
  go_wp2_with (fail)
  refine (one_any w _ w.heap.size (0 + 1) (w2.heap.size + 1) _ [3, 2, 4, 1, 3, -1] (HR2.out.later ((Grew.refl _).alloc _)) (by omega) (IntsO.lit _ _ w2 [3, 2, 4, 1, 3, -1] _ rfl (by omega) (by decide)) (by decide) (by decide)).mono ?_
  rintro e w3 ⟨m, hm, rfl, hr3, hw3⟩
  have hm' : -1 ≤ m ∧ m ≤ 5 := by simp at hm; omega
  have HG := Lib.hid hr3.grew
  clear hm hr3 hw3
  go_wp2
  go_ret2
  exact ⟨n, m, rfl, hn', hm', HG.out⟩
end Go.Proofs.YthgafljbbkgldaaDoor
