/- The law FnHigherFillsHigher returns true. -/
import Derived.Test.YtgecghngfonejaaDoorDepths
import Derived.Test.YtgecghngfonejaaDoorAtMost
import Derived.Test.YtgecghngfonejaaDoorRaised
import Derived.Test.YtgecghngfonejaaDoorSpillOf
import Derived.Test.YtgecghngfonejaaDoorSSpillOf
import Derived.Test.YtgecghngfonejaaDoorDraws2
import Derived.StillTailTactics
namespace Go.Proofs.YtgecghngfonejaaDoor
open Go.RowKit

theorem spill_sign {h : List (List Int)} {i : Int} (hc : vCell h i = true) : 0 ≤ spillL h i := by
  obtain ⟨hg, _, h2, _⟩ := vCell_yes hc
  have G := Grid.of hg
  have W := grid_level hg
  unfold spillL
  rw [if_pos hc]
  exact Int.le_trans (grid_num G _ h2).1 (W.base h2)
/-- Ground that is one higher at one cell. -/
theorem bump_facts {h : List (List Int)} {n m I : Nat} (hg : vGrid h = true) (en : h.length = n) (em : (h.getD 0 []).length = m) (hI : I < n * m) (hr : vGrid (shapeL (h.flatten.set I (h.flatten.getD I 0 + 1)) m n) = true) :
    ∃ ws zs, ws.length = n * m ∧ zs.length = n * m ∧ fillL h = shapeL ws m n ∧ fillL (shapeL (h.flatten.set I (h.flatten.getD I 0 + 1)) m n) = shapeL zs m n ∧ (∀ i, i < n * m → ws.getD i 0 ≤ zs.getD i 0) ∧ (∀ i, i < n * m → zs.getD i 0 ≤ ws.getD i 0 + 1) ∧ vGrid (fillL h) = true := by
  have G := Grid.of hg
  have W := grid_level hg
  obtain ⟨A, _, _⟩ := fill_grid hg
  have hpl := flat_grid_len G
  rw [en, em] at W
  rw [em, en] at hpl
  have R := Grid.of hr
  have Z := grid_level hr
  have hql : (h.flatten.set I (h.flatten.getD I 0 + 1)).length = n * m := by rw [List.length_set]; exact hpl
  have hn1 := G.n1
  rw [en] at hn1
  have e1 : ((shapeL (h.flatten.set I (h.flatten.getD I 0 + 1)) m n).getD 0 []).length = m := shapeL_row _ _ _ _ hql hn1
  rw [shapeL_len, e1, shapeL_flat _ _ _ hql] at Z
  have hset : ∀ j, (h.flatten.set I (h.flatten.getD I 0 + 1)).getD j 0 = if j = I then h.flatten.getD I 0 + 1 else h.flatten.getD j 0 := fun j => getD_set _ _ _ _ (by rw [hpl]; exact hI)
  refine ⟨_, _, W.len, Z.len, fillL_yes hg en em W, fillL_yes hr (shapeL_len _ _ _) e1 (by rw [shapeL_flat _ _ _ hql]; exact Z), fun i hi => W.mono Z (fun j hj => ?_) hi, fun i hi => W.mono1 Z (fun j hj => ?_) hi, A.to⟩
  · rw [hset]
    by_cases e : j = I
    · subst e; rw [if_pos rfl]; omega
    · rw [if_neg e]; exact Int.le_refl _
  · rw [hset]
    by_cases e : j = I
    · subst e; rw [if_pos rfl]; exact Int.le_refl _
    · rw [if_neg e]; omega
theorem raise_shape (ws : List Int) (n m : Nat) : raisedL (shapeL ws m n) = shapeL (ws.map fun x => x + 1) m n := by rw [raisedL, shapeL_map]
theorem shape_small2 (xs : List Int) (n m : Nat) (hl : xs.length = n * m) (hn : n ≤ 5) (hm1 : 1 ≤ m) (hm : m ≤ 5) : (shapeL xs m n).length ≤ 1000 ∧ ∀ r, r < (shapeL xs m n).length → 1 ≤ ((shapeL xs m n).getD r []).length ∧ ((shapeL xs m n).getD r []).length ≤ 1000 :=
  ⟨by rw [shapeL_len]; omega, fun r hr => by rw [shapeL_len] at hr; rw [shapeL_row _ _ _ _ hl hr]; omega⟩
theorem rowOf_shape (v : Value) (xs : List Int) (n m N : Nat) (w : World) (hv : RowsV w v (shapeL xs m n)) (hl : xs.length = N) (eN : n * m = N) (hn : n ≤ 5) (hm1 : 1 ≤ m) (hm : m ≤ 5) : Calls Tryd.prog 18 #[v] w (FlatPost w xs) := by
  have hl' : xs.length = n * m := by rw [hl, eN]
  have := rowOf_any v (shapeL xs m n) w hv (shape_small2 xs n m hl' hn hm1 hm).1 (shape_small2 xs n m hl' hn hm1 hm).2
  rwa [shapeL_flat _ _ _ hl'] at this

set_option maxRecDepth 100000 in
set_option maxHeartbeats 4000000 in
theorem FnHigherFillsHigher_any (v : Value) (bs : List Int) (w : World) (hv : NumsV .u8 w v bs) (hb : ∀ i, i < bs.length → 0 ≤ bs.getD i 0 ∧ bs.getD i 0 ≤ 255) (hS : Steps w) :
    Calls Tryd.prog 7 #[v] w fun e w' => e = .returned (.bool true) ∧ Grew w w' := by
  have HD := Lib.hid (DrawSpillOf_any v bs w hv hb)
  have HS := Lib.hid hS
  obtain ⟨a, b, o, c, rfl, ⟨hlc, hcb⟩, _, _⟩ := hv.shape
  clear hv hb hS
  by_cases hbig : 1048576 < bs.length
  · go_enter Tryd.func7, Tryd.ntmps7
    go_wp2
    go_ret
    exact ⟨rfl, Grew.refl _⟩
  · go_enter Tryd.func7, Tryd.ntmps7
    go_wp2_with (fail)
    refine HD.out.mono ?_
    rintro e w1 ⟨v1, H, i, rfl, hO, hd, hg1⟩
    have HV := Lib.hid (And.intro hO.toV hg1)
    obtain ⟨a1, b1, o1, c1, rfl, ⟨hl1, hcc1⟩, ha1, HC1⟩ := hO.toV.shape
    obtain ⟨z, ez⟩ : ∃ z, spillL H i = z := ⟨_, rfl⟩
    clear hO hd hg1 HD
    go_wp2_with (fail)
    refine (SpillOf_any _ H i _ HV.out.1 (HS.out.grew HV.out.2)).mono ?_
    rw [ez]
    rintro e w2 ⟨rfl, hg2⟩
    have H2 := Lib.hid hg2
    clear hg2
    go_wp2_with (fail)
    refine (SSpillOf_any _ H i _ (HV.out.1.grew H2.out)).mono ?_
    rw [ez]
    rintro e w3 ⟨rfl, hg3⟩
    have H3 := Lib.hid (H2.out.trans hg3)
    clear hg3
    go_wp2_with (fail)
    refine (SpillOf_any _ H i _ (HV.out.1.grew H3.out) (HS.out.grew (HV.out.2.trans H3.out))).mono ?_
    rw [ez]
    rintro e w4 ⟨rfl, hg4⟩
    have H4 := Lib.hid (H3.out.trans hg4)
    clear hg4
    cases hc : vCell H i with
    | false =>
      obtain rfl : z = -1 := by rw [← ez, spillL_no hc]
      clear ez hc
      go_wp2
      go_ret
      exact ⟨rfl, HV.out.2.trans H4.out⟩
    | true =>
      have hz0 := spill_sign hc
      rw [ez] at hz0
      have hz : ¬ z < 0 := by omega
      obtain ⟨hvg, hi0, hiN, _⟩ := vCell_yes hc
      obtain ⟨I, rfl⟩ := Int.eq_ofNat_of_zero_le hi0
      rw [Int.toNat_natCast] at hiN
      have G := Grid.of hvg
      obtain ⟨n, en⟩ : ∃ n, H.length = n := ⟨_, rfl⟩
      obtain ⟨m, em⟩ : ∃ m, (H.getD 0 []).length = m := ⟨_, rfl⟩
      obtain ⟨N, eN⟩ : ∃ N, n * m = N := ⟨_, rfl⟩
      have hn1 := G.n1
      have hn5 := G.n5
      have hm1 := G.m1
      have hm5 := G.m5
      have hsh := shape_flatten G
      have hpl := flat_grid_len G
      have hnum := grid_num G I hiN
      have HRB := Lib.hid fun W (hW : Grew w4 W) => raisedD_any 0 (by decide) (by decide) _ H W (HV.out.1.grew (H4.out.trans hW)) hvg
      have hBF := bump_facts hvg en em (by rw [en, em] at hiN; exact hiN)
      rw [em, en] at hsh
      rw [en, em] at hpl hiN
      rw [eN] at hpl hiN hBF
      rw [en] at hn1 hn5
      rw [em] at hm1 hm5
      have hFH := fun W (hW : Grew w4 W) => FillByQueue_any _ H W (HV.out.1.grew (H4.out.trans hW)) (HS.out.grew (HV.out.2.trans (H4.out.trans hW)))
      obtain ⟨p, ep⟩ : ∃ p, H.flatten = p := ⟨_, rfl⟩
      rw [ep] at hsh hpl hnum hBF
      obtain ⟨x, ex⟩ : ∃ x, p.getD I 0 = x := ⟨_, rfl⟩
      rw [ex] at hnum hBF
      obtain ⟨u0, hcu0, hu0⟩ := HC1.out 0 (by omega)
      rw [Nat.add_zero] at hcu0
      obtain ⟨a0, b0, o0, c0, rfl, _, _, _⟩ := hu0.shape
      rw [em] at hcu0
      obtain rfl := ha1 (by omega)
      rw [en] at HRB hFH hl1 ⊢
      have HFH := Lib.hid hFH
      have HBF := Lib.hid hBF
      have HSH := Lib.hid (And.intro hsh (And.intro hpl (And.intro ex eN)))
      obtain ⟨r, hr⟩ : ∃ r, I / m = r := ⟨_, rfl⟩
      obtain ⟨q, hq⟩ : ∃ q, I % m = q := ⟨_, rfl⟩
      have hrn : r < n := by rw [← hr]; exact div_lt_of _ _ I (by rw [eN]; exact hiN)
      have hqm : q < m := by rw [← hq]; exact Nat.mod_lt I hm1
      have hrq : r * m + q = I := by rw [← hr, ← hq, Nat.mul_comm]; exact Nat.div_add_mod I m
      have hN25 : N ≤ 25 := by rw [← eN]; exact Nat.mul_le_mul hn5 hm5
      have t1 : (I : Int).tdiv m = (r : Int) := by rw [← hr]; exact (Int.ofNat_tdiv _ _).symm
      have t2 : (I : Int).tmod m = (q : Int) := by rw [← hq]; exact (Int.ofNat_tmod _ _).symm
      have t3 : (I : Int) / m = (r : Int) := by rw [← hr]; rfl
      have t4 : (I : Int) % m = (q : Int) := by rw [← hq]; rfl
      have hm0 : ((m : Int) == 0) = false := beq_eq_false_iff_ne.2 (by omega)
      have hn0 : (0 : Int) < (n : Int) := by omega
      have HCU := Lib.hid (H4.out.cell hcu0)
      have HGW := Lib.hid (HV.out.2.trans H4.out)
      have HST := Lib.hid (HS.out.grew HGW.out)
      have HRQ := Lib.hid hrq
      obtain ⟨x0, x1⟩ := hnum
      clear ez hc hz0 hvg hi0 G en em eN hsh hpl hBF hFH ep ex HC1 hcu0 hu0 ha1 hr hq hrq HV H4 H3 H2 HS
      go_wp2_with (fail)
      refine (HRB.out _ (Grew.refl _)).mono ?_
      rw [raisedD_zero]
      rintro e w5 ⟨v5, rfl, hO5, hg5⟩
      rw [← HSH.out.1] at hO5
      obtain ⟨g5, c5, rfl, q51, q52, q53, q54⟩ := hO5.pos (by rw [shapeL_len]; exact hn1)
      rw [shapeL_len] at hO5 q53 ⊢
      have hcu5 := hg5.cell HCU.out
      obtain ⟨u6, hcu6, hO6⟩ := hO5.at rfl (i := r) (by rw [shapeL_len]; exact hrn)
      have hl6 : ((shapeL p m n).getD r []).length = m := shapeL_row _ _ _ _ (by rw [HSH.out.2.1, HSH.out.2.2.2]) hrn
      obtain ⟨g6, c6, rfl, q61, q62, q63, q64⟩ := hO6.pos (by omega)
      rw [hl6] at hO6 hcu6 q63
      obtain ⟨hel, hfr⟩ := hO6.at rfl (i := q) (by omega)
      have hval : ((shapeL p m n).getD r []).getD q 0 = x := by rw [shapeL_at _ _ _ _ hrn, cut_at _ _ _ _ hqm, HRQ.out, HSH.out.2.2.1]
      rw [hval] at hel
      have HN : Hid (∀ W, W = w5 ∨ W = w5.drew → RowsO 26 3 w4.heap.size w5.heap.size (W.setCell ⟨g6, q, none⟩ (.int .i64 (x + 1))) (.slice (some ⟨g5, 0, none⟩) n c5) (shapeL (p.set I (x + 1)) m n) ∧ Grew w4 (W.setCell ⟨g6, q, none⟩ (.int .i64 (x + 1)))) := by
        refine Lib.hid fun W hW => ?_
        have k1 : Grew w5 W := by rcases hW with rfl | rfl; exact Grew.refl _; exact (Grew.refl _).drew
        have hs := (hO5.grew k1).set (by decide) rfl (i := r) (by rw [shapeL_len]; exact hrn) (k1.cell hcu6) q (x + 1)
        rw [shapeL_set _ _ _ _ _ _ hrn hqm, HRQ.out] at hs
        have hwi : Within g6 (g6 + 1) W (W.setCell ⟨g6, q, none⟩ (.int .i64 (x + 1))) := (Within.refl _ _ _).setCell (p := ⟨g6, q, none⟩) (Nat.le_refl _) (Nat.lt_succ_self _) _
        exact ⟨hs, Within.grew (hg5.trans k1) hwi q61⟩
      clear hO5 hg5 hO6 hl6 hval
      have H6 := Lib.hid (HN.out w5.drew (.inr rfl))
      obtain ⟨ws6, ews6⟩ : ∃ ws6, w5.drew.setCell ⟨g6, q, none⟩ (.int .i64 (x + 1)) = ws6 := ⟨_, rfl⟩
      rw [ews6] at H6
      have hri : (r : Int) < (n : Int) := by omega
      have hqi : (q : Int) < (m : Int) := by omega
      have hr0 : (0 : Int) ≤ (r : Int) := by omega
      have hq0 : (0 : Int) ≤ (q : Int) := by omega
      clear HN
      go_wp2_with (fail)
      go_region
      all_goals
        go_wp2_with (fail)
        try rw [ews6]
        clear ews6 hel hfr hcu6 hcu5
        refine (HFH.out _ H6.out.2).mono ?_
        rintro e w7 ⟨v7, rfl, hO7, hg7⟩
        obtain ⟨a7, c7, rfl⟩ := hO7.sh
        have H7 := Lib.hid (And.intro hO7.toV hg7)
        have H7M := Lib.hid ((H6.out.1.grew hg7).toV)
        clear hO7 hg7
        go_wp2_with (fail)
        refine (FillByQueue_any _ _ _ H7M.out (HST.out.grew (H6.out.2.trans H7.out.2))).mono ?_
        obtain ⟨M, eM⟩ : ∃ M, shapeL (p.set I (x + 1)) m n = M := ⟨_, rfl⟩
        have HB := Lib.hid HBF.out
        rw [eM] at HB ⊢
        rintro e w8 ⟨v8, rfl, hO8, hg8⟩
        obtain ⟨a8, c8, rfl⟩ := hO8.sh
        have H8 := Lib.hid (And.intro hO8.toV (And.intro (H7.out.1.grew hg8) (HGW.out.trans (H6.out.2.trans (H7.out.2.trans hg8)))))
        clear hO8 hg8 eM
        cases hvm : vGrid M with
        | false =>
          have hl : (fillL M).length = 0 := by rw [fillL_no hvm]; rfl
          rw [hl]
          clear hvm hl
          go_wp2
          go_ret
          exact ⟨rfl, H8.out.2.2⟩
        | true =>
          obtain ⟨ws, zs, w1, z1, k1, k2, k3, k4, k5⟩ := HB.out hvm
          have HRZ : Hid (∀ X, Grew w8 X → Calls Tryd.prog 18 #[.slice a7 (fillL H).length c7] X (FlatPost X ws)) := Lib.hid fun X hX => by
            have := H8.out.2.1.grew hX
            have e := k1
            rw [k1] at this ⊢
            exact rowOf_shape _ ws n m N X this w1 HSH.out.2.2.2 hn5 hm1 hm5
          have HRG : Hid (∀ X, Grew w8 X → Calls Tryd.prog 18 #[.slice a8 (fillL M).length c8] X (FlatPost X zs)) := Lib.hid fun X hX => by
            have := H8.out.1.grew hX
            rw [k2] at this ⊢
            exact rowOf_shape _ zs n m N X this z1 HSH.out.2.2.2 hn5 hm1 hm5
          have HRA : Hid (∀ X, Grew w8 X → Calls Tryd.prog 33 #[.slice a7 (fillL H).length c7, .int .i64 1] X (NewRows X (shapeL (ws.map fun x => x + 1) m n))) := Lib.hid fun X hX => by
            have := raisedBy_any _ _ X (H8.out.2.1.grew hX) k5
            rw [← raise_shape, ← k1]
            exact this
          have HRU : Hid (∀ v X, RowsV X v (shapeL (ws.map fun x => x + 1) m n) → Calls Tryd.prog 18 #[v] X (FlatPost X (ws.map fun x => x + 1))) := Lib.hid fun v X hX =>
            rowOf_shape v _ n m N X hX (by rw [List.length_map]; exact w1) HSH.out.2.2.2 hn5 hm1 hm5
          obtain ⟨us, eus⟩ : ∃ us, (ws.map fun x => x + 1) = us := ⟨_, rfl⟩
          have hul : us.length = N := by rw [← eus, List.length_map]; exact w1
          have hua : ∀ i, i < N → us.getD i 0 = ws.getD i 0 + 1 := fun i hi => by rw [← eus]; simp [w1, hi]
          obtain ⟨U, eU⟩ : ∃ U, shapeL us m n = U := ⟨_, rfl⟩
          rw [eus, eU] at HRA HRU
          have hne : (fillL M).length = n := by rw [k2, shapeL_len]
          have HK := Lib.hid (And.intro w1 (And.intro z1 (And.intro hul (And.intro k3 (And.intro k4 hua)))))
          rw [hne] at HRG ⊢
          obtain ⟨F, eF⟩ : ∃ F, (fillL H).length = F := ⟨_, rfl⟩
          rw [eF] at HRZ HRA ⊢
          have ht : ((n : Int) == 0) = false := beq_eq_false_iff_ne.2 (by omega)
          clear hvm w1 z1 k1 k2 k3 k4 k5 eus hul hua eU hne eF HB HBF HSH
          go_wp2_with (fail)
          refine (HRZ.out _ (Grew.refl _)).mono ?_
          rintro e w9 ⟨g9, c9, rfl, hO9, hg9⟩
          rw [HK.out.1] at hO9 ⊢
          have H9 := Lib.hid (And.intro hO9.toV hg9)
          clear hO9 hg9
          go_wp2_with (fail)
          refine (HRG.out _ H9.out.2).mono ?_
          rintro e w10 ⟨g10, c10, rfl, hO10, hg10⟩
          rw [HK.out.2.1] at hO10 ⊢
          have H10 := Lib.hid (And.intro hO10.toV (And.intro (H9.out.1.grew hg10) (H9.out.2.trans hg10)))
          clear hO10 hg10
          go_wp2_with (fail)
          refine (atMost_any _ _ ws zs _ H10.out.2.1 H10.out.1 (by rw [HK.out.1, HK.out.2.1]) (fun i hi => HK.out.2.2.2.1 i (by rw [HK.out.1] at hi; omega))).mono ?_
          rintro e w11 ⟨rfl, hg11⟩
          have H11 := Lib.hid (H10.out.2.2.trans hg11)
          clear hg11
          go_wp2_with (fail)
          refine (HRG.out _ H11.out).mono ?_
          rintro e w12 ⟨g12, c12, rfl, hO12, hg12⟩
          rw [HK.out.2.1] at hO12 ⊢
          have H12 := Lib.hid (And.intro hO12.toV (H11.out.trans hg12))
          clear hO12 hg12
          go_wp2_with (fail)
          refine (HRA.out _ H12.out.2).mono ?_
          rintro e w13 ⟨v13, rfl, hO13, hg13⟩
          obtain ⟨a13, c13, rfl⟩ := hO13.sh
          have H13 := Lib.hid (And.intro hO13.toV (And.intro (H12.out.1.grew hg13) (H12.out.2.trans hg13)))
          clear hO13 hg13
          go_wp2_with (fail)
          refine (HRU.out _ _ H13.out.1).mono ?_
          rintro e w14 ⟨g14, c14, rfl, hO14, hg14⟩
          rw [HK.out.2.2.1] at hO14 ⊢
          have H14 := Lib.hid (And.intro hO14.toV (And.intro (H13.out.2.1.grew hg14) (H13.out.2.2.trans hg14)))
          clear hO14 hg14
          go_wp2_with (fail)
          refine (atMost_any _ _ zs us _ H14.out.2.1 H14.out.1 (by rw [HK.out.2.1, HK.out.2.2.1]) (fun i hi => by rw [HK.out.2.1] at hi; rw [HK.out.2.2.2.2.2 i (by omega)]; exact HK.out.2.2.2.2.1 i (by omega))).mono ?_
          rintro e w15 ⟨rfl, hg15⟩
          have H15 := Lib.hid (H14.out.2.2.trans hg15)
          clear hg15
          go_wp2
          go_ret
          exact ⟨rfl, H8.out.2.2.trans H15.out⟩
end Go.Proofs.YtgecghngfonejaaDoor
