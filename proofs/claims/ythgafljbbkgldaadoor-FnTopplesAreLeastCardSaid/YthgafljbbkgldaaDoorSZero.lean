/- The contracts of spec.filled and spec.ZeroSand. -/
import Derived.Test.YthgafljbbkgldaaDoorSSandJ
namespace Go.Proofs.YthgafljbbkgldaaDoor
open Go.RowKit

theorem shapeL_rep (n m : Nat) (y : Int) : shapeL (List.replicate (n * m) y) m n = List.replicate n (List.replicate m y) := by
  apply List.ext_getElem
  · rw [shapeL_len, List.length_replicate]
  · intro r h1 h2
    rw [List.length_replicate] at h2
    have := shapeL_at (List.replicate (n * m) y) m n r h2
    rw [List.getD_eq_getElem?_getD, List.getElem?_eq_getElem h1, Option.getD_some] at this
    rw [this, List.getElem_replicate, List.drop_replicate, List.take_replicate]
    congr 1
    have := Nat.mul_le_mul_right m (show r + 1 ≤ n from h2)
    rw [Nat.succ_mul] at this
    omega
set_option maxRecDepth 100000 in
set_option maxHeartbeats 2000000 in
theorem filled_any (n m : Nat) (y : Int) (w : World) (hn : n ≤ 5) (hm : m ≤ 5) :
    Calls Tryd.prog 72 #[.int .i64 n, .int .i64 m, .int .i64 y] w (NewRows w (List.replicate n (List.replicate m y))) := by
  go_enter Tryd.func72, Tryd.ntmps72
  go_wp2_with (fail)
  have H0 : Hid (RowsO 27 3 w.heap.size (w.alloc (.cells #[] 27)).heap.size (w.alloc (.cells #[] 27)) (.slice (some ⟨w.heap.size, 0, none⟩) 0 0) [] ∧ Grew w (w.alloc (.cells #[] 27))) :=
    ⟨by simpa using RowsO.lit0 27 3 w.heap.size w (Nat.le_refl _), (Grew.refl w).alloc _⟩
  go_loopg [7, 8] n (fun gk v i wr => ∃ (k g c' : Nat), v = .slice (some ⟨g, 0, none⟩) k c' ∧ i = .int .i64 (k : Int) ∧ k ≤ n ∧ n ≤ gk + k ∧ Hid (RowsO 27 3 w.heap.size wr.heap.size wr v (List.replicate k (List.replicate m y)) ∧ Grew w wr))
  case atStart => exact ⟨0, _, _, rfl, rfl, Nat.zero_le _, Nat.le_refl _, H0.out⟩
  case round =>
    obtain ⟨k, g, c', rfl, rfl, hk1, hk2, HI⟩ := hrel
    clear H0
    by_cases hlt : k < n
    · obtain ⟨wo, rfl⟩ : ∃ wo : World, wo = wr := ⟨_, rfl⟩
      obtain ⟨gn, rfl⟩ : ∃ gn : Nat, gn = gk := ⟨_, rfl⟩
      have hsw := HI.out.2.size
      have hki : (k : Int) < n := by omega
      go_wp2_with (fail)
      have H0 : Hid (IntsO 3 wo.heap.size (wo.alloc (.cells #[] 3)).heap.size (wo.alloc (.cells #[] 3)) (.slice (some ⟨wo.heap.size, 0, none⟩) 0 0) [] ∧ Grew wo (wo.alloc (.cells #[] 3))) :=
        ⟨by simpa using IntsO.lit 3 wo.heap.size wo [] #[] rfl (Nat.le_refl _) (by decide), (Grew.refl wo).alloc _⟩
      go_loopg [9, 10] m (fun gk v i wi => ∃ (j g' c' : Nat), v = .slice (some ⟨g', 0, none⟩) j c' ∧ i = .int .i64 (j : Int) ∧ j ≤ m ∧ m ≤ gk + j ∧ Hid (IntsO 3 wo.heap.size wi.heap.size wi v (List.replicate j y) ∧ Grew wo wi))
      case atStart => exact ⟨0, _, _, rfl, rfl, Nat.zero_le _, Nat.le_refl _, H0.out⟩
      case round =>
        obtain ⟨j, g', c2, rfl, rfl, hj1, hj2, HX⟩ := hrel
        clear H0
        by_cases hltx : j < m
        · have hji : (j : Int) < m := by omega
          go_wp2_with (at_builtin; refine wpList_append_int rfl (.tmp 23) (.tmp 25) 27 rfl Tryd.underlying27 Tryd.infoI rfl rfl (by simp) HX.out.1 (by simp; omega) HX.out.2.size ?_; intro g5 c5 w5 hO5 hW5 hS5)
          have HF : Hid (IntsO 3 wo.heap.size w5.heap.size w5 (.slice (some ⟨g5, 0, none⟩) (j + 1) c5) (List.replicate (j + 1) y) ∧ Grew wo w5) := by
            rw [List.replicate_succ']
            simp only [List.length_replicate] at hO5
            exact ⟨hO5, hW5.grew HX.out.2 (Nat.le_refl _)⟩
          clear hO5 hW5
          go_wp2
          go_roundg (gk - 1)
          case measure => omega
          case rel => exact ⟨j + 1, g5, c5, by simp, by go_num, by omega, by omega, HF.out⟩
        · obtain rfl : j = m := by omega
          have hn' : ¬ (j : Int) < j := by omega
          go_wp2_with (at_builtin; refine wpList_append_row rfl (.tmp 27) (.tmp 29) 23 rfl (by decide) Tryd.underlying23 Tryd.infoIs rfl rfl (by simp) (HI.out.1.grew HX.out.2) HX.out.1 (by simp; omega) (by have := HX.out.2.size; omega) hsw ?_; intro g5 c5 w5 hO5 hW5 hS5)
          have HF : Hid (RowsO 27 3 w.heap.size w5.heap.size w5 (.slice (some ⟨g5, 0, none⟩) (k + 1) c5) (List.replicate (k + 1) (List.replicate j y)) ∧ Grew w w5) := by
            rw [List.replicate_succ']
            simp only [List.length_replicate] at hO5
            exact ⟨hO5, hW5.grew (HI.out.2.trans HX.out.2) (Nat.le_refl _)⟩
          clear hO5 hW5
          go_wp2
          go_roundg (gn - 1)
          case measure => omega
          case rel => exact ⟨k + 1, g5, c5, by simp, by go_num, by omega, by omega, HF.out⟩
    · obtain rfl : k = n := by omega
      go_wp2
      go_ret
      exact ⟨_, rfl, HI.out⟩

set_option maxRecDepth 100000 in
set_option maxHeartbeats 8000000 in
theorem SZeroSand_any (r c : Int) (w : World) (hr : -9223372036854775808 ≤ r ∧ r ≤ 9223372036854775807) (hc : -9223372036854775808 ≤ c ∧ c ≤ 9223372036854775807) :
    Calls Tryd.prog 38 #[.int .i64 r, .int .i64 c] w (NewRows w (zeroX r c)) := by
  by_cases hok : 1 ≤ r ∧ r ≤ 4 ∧ 1 ≤ c ∧ c ≤ 4
  · obtain ⟨n, rfl⟩ := Int.eq_ofNat_of_zero_le (show 0 ≤ r by omega)
    obtain ⟨m, rfl⟩ := Int.eq_ofNat_of_zero_le (show 0 ≤ c by omega)
    have hb : Box n m := ⟨⟨by omega, by omega⟩, by omega, by omega⟩
    have HB := Lib.hid hb
    have HE : Hid (shapeL (zeroL n m) m n = zeroX n m) := Lib.hid (by rw [zeroX, if_pos hok]; simp)
    have HR1 : Hid (inR (n : Int) 1 4 = true) := Lib.hid (by simp [inR]; omega)
    have HR2 : Hid (inR (m : Int) 1 4 = true) := Lib.hid (by simp [inR]; omega)
    obtain ⟨N, eN⟩ : ∃ N, n * m = N := ⟨_, rfl⟩
    have hN16 : N ≤ 16 := by rw [← eN]; exact Nat.mul_le_mul hb.1.2 hb.2.2
    have HN := Lib.hid eN
    have hrl : List.zipWith (· - ·) (List.replicate N 6) (calmL n m (List.replicate N 6)) = restL n m := by rw [restL, eN]
    have hsx := six_sandy hb
    have hsh := shapeL_rep n m 6
    have hcl := hsx.1.calm_len
    have hcn := hsx.1.calm_num
    rw [eN] at hsx hsh hcl hcn
    have hsxN : ∀ j, j < N → (List.replicate N (6 : Int)).getD j 0 = 6 := fun j hj => by simp [List.getD_eq_getElem?_getD, hj]
    have hxl : (List.replicate N (6 : Int)).length = N := by simp
    obtain ⟨x, ex⟩ : ∃ x, List.replicate N (6 : Int) = x := ⟨_, rfl⟩
    rw [ex] at hsx hsh hcl hcn hrl hsxN hxl
    obtain ⟨y, ey⟩ : ∃ y, calmL n m x = y := ⟨_, rfl⟩
    rw [ey] at hcl hcn hrl
    have HX := Lib.hid (And.intro hsx (And.intro hsh (And.intro hsxN (And.intro hxl (And.intro hcl (And.intro hcn (And.intro hrl ey)))))))
    have hm1 := hb.2.1
    have hm4 := hb.2.2
    have hn4 := hb.1.2
    clear hok hb eN hr hc hsx hsh hcl hcn hrl hsxN hxl ex ey
    go_enter Tryd.func38, Tryd.ntmps38
    go_wp2_with (fail)
    refine (inRange_any _ _ _ _).mono ?_
    rw [HR1.out]
    rintro e w1 ⟨rfl, rfl⟩
    go_wp2_with (fail)
    refine (inRange_any _ _ _ _).mono ?_
    rw [HR2.out]
    rintro e w1 ⟨rfl, rfl⟩
    go_wp2_with (fail)
    refine (filled_any n m 6 _ (by omega) (by omega)).mono ?_
    rw [← HX.out.2.1]
    rintro e w1 ⟨v1, rfl, hO1, hg1⟩
    have H1 := Lib.hid (And.intro (shape_sandV HX.out.1.1 hO1.toV) hg1)
    have HST := Lib.hid (settle_any v1 _ n m x false w1 H1.out.1)
    unfold SettPost at HST
    rw [HN.out, HX.out.2.2.2.2.2.2.2] at HST
    have HFL : Hid (∀ W, Grew w1 W → Calls Tryd.prog 67 #[v1] W (FlatPost W x)) := fun W hW => by
      have G := H1.out.1.shp
      have := sflat_any v1 _ W (H1.out.1.rows.grew hW) (Nat.le_trans G.n5 (by decide)) (fun r hr => by have := G.len r hr; have := G.m1; have := G.m5; omega)
      rw [H1.out.1.flat] at this
      exact this
    obtain ⟨a1, c1, rfl⟩ := hO1.sh
    clear hO1 hg1
    go_wp2_with (fail)
    refine HST.out.mono ?_
    rintro e w2 ⟨gA, cA, gT, cT, rfl, hOA, hOT, hg2⟩
    have H2 := Lib.hid (And.intro hOA (And.intro hg2 (H1.out.2.trans hg2)))
    clear hOA hOT hg2
    go_wp2_with (fail)
    refine (HFL.out _ H2.out.2.1).mono ?_
    rintro e w3 ⟨gB, cB, rfl, hOB, hg3⟩
    rw [HX.out.2.2.2.1] at hOB ⊢
    have H3 := Lib.hid (And.intro (H2.out.1.grew hg3) (And.intro hOB (And.intro (H2.out.2.2.trans hg3) (And.intro hOB.blk H2.out.1.blk))))
    have HZ2 := Lib.hid H2.out.2.2.size
    clear hOB hg3
    go_wp2_with (fail)
    go_loopg [9] N (fun gk kv wr => ∃ j : Nat, kv = .int .i64 j ∧ j ≤ N ∧ N ≤ gk + j ∧ Hid (IntsO 3 w2.heap.size w3.heap.size wr (.slice (some ⟨gB, 0, none⟩) N cB) (lessK x y j) ∧ Within gB (gB + 1) w3 wr))
    case atStart => exact ⟨0, rfl, Nat.zero_le _, Nat.le_refl _, H3.out.2.1, Within.refl _ _ _⟩
    case round =>
      obtain ⟨j, rfl, hj, hgj, HI⟩ := hrel
      have hxl := HX.out.2.2.2.1
      have hyl := HX.out.2.2.2.2.1
      by_cases hlt : j < N
      · have hxa := (HI.out.1.at rfl (i := j) (by rw [lessK_len hxl hyl j hj]; exact hlt))
        have hxa1 := hxa.1
        have hxa2 := hxa.2
        rw [lessK_at hxl hyl j hlt, HX.out.2.2.1 j hlt] at hxa1
        have hyb := HI.out.2.cell (H3.out.1.at rfl (i := j) (by rw [hyl]; exact hlt)).1 (by have := H3.out.2.2.2; show gA < gB ∨ gB + 1 ≤ gA; omega)
        have hn9 := HX.out.2.2.2.2.2.1 j hlt
        have hsc := lessK_succ hxl hyl j hlt
        rw [HX.out.2.2.1 j hlt] at hsc
        have HO := (HI.out.1.grew (Grew.refl _).drew).set rfl j (6 - y.getD j 0)
        rw [← hsc] at HO
        have HO2 := Lib.hid (And.intro (HO.wide (Nat.le_refl _) (Nat.le_refl _)) (HI.out.2.drew.setCell (p := ⟨gB, j, none⟩) (Nat.le_refl _) (Nat.lt_succ_self _) (.int .i64 (6 - y.getD j 0))))
        obtain ⟨yj, eyj⟩ : ∃ t, y.getD j 0 = t := ⟨_, rfl⟩
        rw [eyj] at hyb hn9 HO2
        have q1 : IntKind.i64.wrap (6 - yj) = 6 - yj := by rw [IntKind.wrap_i64]; omega
        have hji : (j : Int) < N := by omega
        clear hxa HO eyj hsc hxl hyl
        go_wp2
        go_still_tail 12, (by kernel_rfl)
        change wpList _ _ _ _ _ wr.drew
        have hz3 : wr.drew.frozen? ⟨gB, j, none⟩ = false := hxa2
        have hz4 : wr.drew.cell? ⟨gB, j, none⟩ = some (.int .i64 6) := hxa1
        obtain ⟨W3, hW3⟩ : ∃ W3, wr.drew = W3 := ⟨_, rfl⟩
        rw [hW3] at hz3 hz4 HO2 ⊢
        clear hW3 hxa1 hxa2 hyb
        go_wp2
        go_roundg (gk - 1)
        case measure => omega
        case rel => exact ⟨j + 1, by go_num, by omega, by omega, HO2.out⟩
      · obtain rfl : j = N := by omega
        have hG : Grew w wr := Within.grew H3.out.2.2.1 HI.out.2 (by have := H3.out.2.2.2.1; have := HZ2.out; omega)
        have hO3 := HI.out.1
        rw [lessK_all hxl hyl, HX.out.2.2.2.2.2.2.1] at hO3
        have hrs := rest_sandy HB.out
        have HIR : Hid (Calls Tryd.prog 53 #[.slice (some ⟨gB, 0, none⟩) j cB, .int .i64 m] wr (NewRows wr (shapeL (restL n m) m n))) := shaped_any _ (restL n m) n m wr hO3.toV hrs.1.len (by omega) hm1 (by omega)
        have HG := Lib.hid hG
        have HRS := Lib.hid hrs
        clear hO3 hG hrs hxl hyl
        go_wp2_with (fail)
        refine HIR.out.mono ?_
        rintro e w4 ⟨v4, rfl, hO4, hg4⟩
        have HT := Lib.hid (settle_any v4 _ n m _ false w4 (shape_sandV HRS.out.1 hO4.toV))
        unfold SettPost at HT
        rw [HN.out] at HT
        obtain ⟨a4, c4, rfl⟩ := hO4.sh
        have HG4 := Lib.hid (HG.out.trans hg4)
        clear hO4 hg4
        go_wp2_with (fail)
        refine HT.out.mono ?_
        rintro e w5 ⟨g5, c5, g6, c6, rfl, h5, h6, hg5⟩
        have HS : Hid (Calls Tryd.prog 53 #[.slice (some ⟨g5, 0, none⟩) j c5, .int .i64 m] w5 (NewRows w5 (shapeL (zeroL n m) m n))) := shaped_any _ (zeroL n m) n m w5 h5.toV HRS.out.1.calm_len (by omega) hm1 (by omega)
        have HG5 := Lib.hid (HG4.out.trans hg5)
        clear h5 h6 hg5
        go_wp2_with (fail)
        refine HS.out.mono ?_
        rintro e w7 ⟨v7, rfl, hO7, hg7⟩
        obtain ⟨a7, c7, rfl⟩ := hO7.sh
        have HF := Lib.hid (And.intro (hO7.wide HG5.out.size (Nat.le_refl _)) (HG5.out.trans hg7))
        clear hO7 hg7
        go_wp2
        go_ret
        rw [← HE.out]
        exact ⟨_, rfl, HF.out.1, HF.out.2⟩
  · have HE : Hid (zeroX r c = []) := Lib.hid (by rw [zeroX, if_neg hok])
    by_cases h1 : inR r 1 4 = true
    · have h2 : inR c 1 4 = false := by
        cases hq : inR c 1 4 with
        | false => rfl
        | true => simp only [inR, Bool.and_eq_true, decide_eq_true_eq] at h1 hq; omega
      have H12 := Lib.hid (And.intro h1 h2)
      clear hok h1 h2
      go_enter Tryd.func38, Tryd.ntmps38
      go_wp2_with (fail)
      refine (inRange_any _ _ _ _).mono ?_
      rw [H12.out.1]
      rintro e w1 ⟨rfl, rfl⟩
      go_wp2_with (fail)
      refine (inRange_any _ _ _ _).mono ?_
      rw [H12.out.2]
      rintro e w1 ⟨rfl, rfl⟩
      go_wp2
      go_ret
      rw [HE.out]
      exact ⟨_, rfl, RowsO.nil _ _ _ _ _, Grew.refl _⟩
    · have h2 : inR r 1 4 = false := by simpa using h1
      have H12 := Lib.hid h2
      clear hok h1 h2
      go_enter Tryd.func38, Tryd.ntmps38
      go_wp2_with (fail)
      refine (inRange_any _ _ _ _).mono ?_
      rw [H12.out]
      rintro e w1 ⟨rfl, rfl⟩
      go_wp2
      go_ret
      rw [HE.out]
      exact ⟨_, rfl, RowsO.nil _ _ _ _ _, Grew.refl _⟩
end Go.Proofs.YthgafljbbkgldaaDoor
