/- The law FnEarthCost returns true. -/
import Derived.Test.YtlifjhhjkcmneaaSMoves
import Derived.Test.YtlifjhhjkcmneaaDrawE
import Derived.Test.YtlifjhhjkcmneaaBackw
import Derived.Test.YtlifjhhjkcmneaaEqualInts
namespace Go.Proofs.Ytlifjhhjkcmneaa
open Go.RowKit

theorem mul_in (x y c d : Int) (hx : 0 ≤ x ∧ x ≤ c) (hy : 0 ≤ y ∧ y ≤ d) : 0 ≤ x * y ∧ x * y ≤ c * d := by
  constructor
  · exact Int.mul_nonneg hx.1 hy.1
  · exact Int.mul_le_mul hx.2 hy.2 hy.1 (by omega)
theorem sum_rows (f : List Int → Int) (M : List (List Int)) : (M.map f).sum = sumTo (fun k => f (M.getD k [])) M.length := by
  have key : ∀ k, k ≤ M.length → ((M.take k).map f).sum = sumTo (fun k => f (M.getD k [])) k := fun k hk => by
    induction k with
    | zero => rfl
    | succ k ih =>
      rw [List.take_succ_eq_append_getElem (by omega), List.map_append, List.sum_append, ih (by omega), sumTo]
      simp [show k < M.length by omega]
  have := key M.length (Nat.le_refl _)
  rwa [List.take_of_length_le (Nat.le_refl _)] at this
theorem earthX_yes {p q : List Int} (h : ¬ earthX p q < 0) : mvOk p q = true := by
  unfold earthX at h
  cases hm : mvOk p q with
  | true => rfl
  | false => rw [hm, if_neg (by simp)] at h; exact absurd (by decide) h
theorem mvOk_symm {p q : List Int} (h : mvOk p q = true) : mvOk q p = true := by
  obtain ⟨a, b, c, d⟩ := mvOk_iff.1 h
  exact mvOk_iff.2 ⟨b, a, c.symm, d.symm⟩
theorem surL_neg {p q : List Int} (h : p.length = q.length) (i : Nat) (hi : i < p.length) : at0 (surL q p) i = - at0 (surL p q) i := by
  simp only [at0]
  rw [surL_at q p i (by omega), surL_at p q i hi]; omega
theorem earthX_symm {p q : List Int} (h : mvOk p q = true) : earthX q p = earthX p q := by
  have hl := (mvOk_iff.1 h).2.2.1
  unfold earthX
  rw [if_pos h, if_pos (mvOk_symm h), ← hl, earthT_congr (r := fun i => - at0 (surL p q) i) fun i hi => surL_neg hl i hi, earthT_neg]
theorem psum_rev (p : List Int) : psum p.reverse = psum p := by
  unfold psum
  rw [List.length_reverse, ← sumTo_back (fun i => p.getD i 0)]
  exact sumTo_congr fun i hi => by
    rw [List.getD_eq_getElem?_getD, List.getElem?_reverse hi, ← List.getD_eq_getElem?_getD]
theorem vProf_rev {p : List Int} (h : vProf p = true) : vProf p.reverse = true := by
  obtain ⟨h1, h9, hb⟩ := (vProf_iff p).1 h
  refine (vProf_iff _).2 ⟨by simpa using h1, by simpa using h9, fun i hi => ?_⟩
  rw [List.length_reverse] at hi
  rw [List.getD_eq_getElem?_getD, List.getElem?_reverse hi, ← List.getD_eq_getElem?_getD]
  exact hb _ (by omega)
theorem earthX_third {p q r : List Int} (h1 : mvOk p q = true) (h2 : mvOk p r = true) (h3 : mvOk r q = true) : earthX p q ≤ earthX p r + earthX r q := by
  have hl := (mvOk_iff.1 h2).2.2.1
  unfold earthX
  rw [if_pos h1, if_pos h2, if_pos h3, ← hl, earthT_congr (r := fun i => at0 (surL p r) i + at0 (surL r q) i) fun i hi => ?_]
  · exact earthT_add _ _ _
  · simp only [at0]
    rw [surL_at p q i hi, surL_at p r i hi, surL_at r q i (by omega)]; omega
theorem earthX_zero {p q : List Int} (h : mvOk p q = true) : earthX p q = 0 ↔ p = q := by
  have hl := (mvOk_iff.1 h).2.2.1
  have hz := (sur_of h).zero
  rw [surL_len] at hz
  unfold earthX
  rw [if_pos h, earthT_zero hz]
  constructor
  · intro h0
    refine ext_at hl fun i hi => ?_
    have := h0 i hi
    simp only [at0] at this
    rw [surL_at p q i hi] at this
    omega
  · rintro rfl i hi
    simp only [at0]
    rw [surL_at p p i hi]; omega
theorem movesX_cost {p q : List Int} (h : mvOk p q = true) : sumTo (fun k => moveCost ((movesX p q).getD k [])) (movesX p q).length = earthX p q := by
  have h9 := (prof_len (mvOk_iff.1 h).1).2
  rw [← sum_rows]
  unfold movesX earthX
  rw [if_pos h, if_pos h, moves_cost 9 (sur_of h) (by have := nz_le (surL p q); rw [surL_len] at this; omega), surL_len]
theorem movesX_ok {p q : List Int} (h : mvOk p q = true) (k : Nat) (hk : k < (movesX p q).length) : MoveOk p.length ((movesX p q).getD k []) := by
  have : (movesX p q).getD k [] ∈ movesX p q := by
    rw [List.getD_eq_getElem?_getD, List.getElem?_eq_getElem hk]
    exact List.getElem_mem hk
  have e : movesX p q = movesL 9 (surL p q) := by unfold movesX; rw [if_pos h]
  rw [e] at this ⊢
  have := moves_ok 9 (sur_of h) _ this
  rwa [surL_len] at this
theorem movesX_len {p q : List Int} : (movesX p q).length ≤ 9 := by
  unfold movesX
  split
  · have : ∀ (f : Nat) (s : List Int), (movesL f s).length ≤ f := fun f => by
      induction f with
      | zero => intro s; exact Nat.le_refl _
      | succ f ih => intro s; rw [movesL]; split
                     · have := ih (moved s); simp; omega
                     · exact Nat.zero_le _
    exact this 9 _
  · exact Nat.zero_le _
theorem mcost_is (a b : Nat) (e : Int) : moveCost [(a : Int), (b : Int), e] = e * max ((b : Int) - a) ((a : Int) - b) := by
  show e * iab ((b : Int) - a) = _
  rw [show iab ((b : Int) - a) = max ((b : Int) - a) ((a : Int) - b) by unfold iab; omega]

set_option maxRecDepth 100000 in
set_option maxHeartbeats 4000000 in
theorem FnEarthCost_any (v : Value) (bs : List Int) (w : World) (hv : NumsV .u8 w v bs) (hb : ∀ i, i < bs.length → 0 ≤ bs.getD i 0 ∧ bs.getD i 0 ≤ 255) :
    Calls Try.prog 7 #[v] w fun e w' => e = .returned (.bool true) ∧ Grew w w' := by
  have HD := Lib.hid (DrawEarthCost_any v bs w hv hb)
  obtain ⟨a, b, o, c, rfl, ⟨hlc, hcb⟩, _, _⟩ := hv.shape
  clear hv hb
  by_cases hbig : 1048576 < bs.length
  · go_enter Try.func7, Try.ntmps7
    go_wp2
    go_ret
    exact ⟨rfl, Grew.refl _⟩
  · go_enter Try.func7, Try.ntmps7
    go_wp2_with (fail)
    refine HD.out.mono ?_
    rintro e w1 ⟨v1, u1, p, q, rfl, hvp, hvq, h9, hlq, hg1⟩
    have HV := Lib.hid (And.intro hvp (And.intro hvq hg1))
    have HLQ := Lib.hid hlq
    obtain ⟨a3, b3, o3, c3, rfl, _, _, _⟩ := hvp.shape
    obtain ⟨a4, b4, o4, c4, rfl, _, _, _⟩ := hvq.shape
    clear hvp hvq hg1 HD hlq
    obtain ⟨O, eO⟩ : ∃ O, earthX p q = O := ⟨_, rfl⟩
    have HO := Lib.hid eO
    clear eO
    go_wp2_with (fail)
    refine (EarthCost_any _ _ p q _ HV.out.1 HV.out.2.1).mono ?_
    rw [HO.out]
    rintro e w2 ⟨rfl, hg2⟩
    have H2 := Lib.hid hg2
    clear hg2
    have enn : (O != O) = false := by simp
    go_wp2_with (fail)
    refine (SEarthCost_any _ _ p q _ (HV.out.1.grew H2.out) (HV.out.2.1.grew H2.out)).mono ?_
    rw [HO.out]
    rintro e w3 ⟨rfl, hg3⟩
    have H3 := Lib.hid (H2.out.trans hg3)
    clear hg3
    by_cases hneg : O < 0
    · go_wp2_with (fail)
      refine (SEarthCost_any _ _ p q _ (HV.out.1.grew H3.out) (HV.out.2.1.grew H3.out)).mono ?_
      rw [HO.out]
      rintro e w4 ⟨rfl, hg4⟩
      have H4 := Lib.hid (H3.out.trans hg4)
      clear hg4
      go_wp2
      go_ret
      exact ⟨ret_bool (by simp), HV.out.2.2.trans H4.out⟩
    · have hok := earthX_yes (p := p) (q := q) (by rw [HO.out]; exact hneg)
      have hbd : O ≤ 1000000 := by
        rw [← HO.out]; unfold earthX; rw [if_pos hok]
        have hs := sur_of hok
        unfold earthT
        have hlp := (prof_len (mvOk_iff.1 hok).1).2
        have := (sumTo_bd (f := fun k => iab (sumTo (at0 (surL p q)) k)) 0 1000 (k := p.length) fun i hi => by
          have := sur_pre_bd hs i (by rw [surL_len]; omega)
          unfold iab; omega).2
        omega
      have HOK := Lib.hid hok
      obtain ⟨M, eM⟩ : ∃ M, movesX p q = M := ⟨_, rfl⟩
      have hM9 := movesX_len (p := p) (q := q)
      have hcost := movesX_cost hok
      have hrow := fun k hk => movesX_ok hok k hk
      rw [eM] at hM9 hcost hrow
      rw [HO.out] at hcost
      have HM := Lib.hid (And.intro eM (And.intro hcost hrow))
      clear hok eM hcost hrow
      go_wp2_with (fail)
      refine (EarthMoves_any _ _ p q _ (HV.out.1.grew H3.out) (HV.out.2.1.grew H3.out)).mono ?_
      rw [HM.out.1]
      rintro e w4 ⟨v4, rfl, hO4, hg4⟩
      have H4 := Lib.hid (And.intro hO4.toV (H3.out.trans hg4))
      clear hO4 hg4
      obtain ⟨a5, b5, o5, c5, rfl, ⟨hlc5, hcb5⟩, ha5, HC5⟩ := H4.out.1.shape
      have HA5 := Lib.hid ha5
      clear ha5
      go_wp2
      go_loopw [7, 8] (fun t i wr => ∃ (k : Nat) (n : Int), k ≤ M.length ∧ i = .int .i64 k ∧ t = .int .i64 n ∧ 0 ≤ n ∧ n ≤ 200 * (k : Int) ∧ Hid (n = sumTo (fun k => moveCost (M.getD k [])) k ∧ ∃ q, wr = w4.drewN q)) (fun _ i _ => M.length - (intOf i).toNat)
      case atStart => exact ⟨0, 0, Nat.zero_le _, rfl, rfl, by omega, by omega, rfl, 0, rfl⟩
      case round =>
        obtain ⟨k, n, hk, rfl, rfl, hn0, hn1, HI⟩ := hrel
        by_cases hlt : k < M.length
        · obtain rfl := HA5.out (by omega)
          have hg := quiet_grew HI.out.2
          obtain ⟨ur, hcu, hu⟩ := HC5.out k hlt
          obtain ⟨A, B, E, er, hA, hB, hAB, hE1, hE2⟩ := HM.out.2.2 k hlt
          rw [er] at hu
          obtain ⟨ar, br, orr, cr, rfl, ⟨hlr, hcr⟩, har, HCR⟩ := (hu.grew hg).shape
          obtain rfl := har (by simp)
          have hcu' := hg.cell hcu
          have hc0 := HCR.out 0 (by simp)
          have hc1 := HCR.out 1 (by simp)
          have hc2 := HCR.out 2 (by simp)
          simp only [List.length_cons, List.length_nil, Nat.zero_add, Nat.add_zero, List.getD_cons_zero, List.getD_cons_succ] at hcu' hc0 hc1 hc2
          have hmb := mul_in E (max ((B : Int) - A) ((A : Int) - B)) 12 9 (by omega) (by omega)
          have hst : sumTo (fun k => moveCost (M.getD k [])) (k + 1) = n + E * max ((B : Int) - A) ((A : Int) - B) := by rw [sumTo, ← HI.out.1, er, mcost_is]
          have HST := Lib.hid hst
          have w1 : IntKind.i64.wrap ((B : Int) - A) = (B : Int) - A := wrap_small' _ (by omega) (by omega)
          have w2 : IntKind.i64.wrap ((A : Int) - B) = (A : Int) - B := wrap_small' _ (by omega) (by omega)
          have w3 : IntKind.i64.wrap (E * max ((B : Int) - A) ((A : Int) - B)) = E * max ((B : Int) - A) ((A : Int) - B) := wrap_small' _ (by omega) (by omega)
          have w4' : IntKind.i64.wrap (n + E * max ((B : Int) - A) ((A : Int) - B)) = n + E * max ((B : Int) - A) ((A : Int) - B) := wrap_small' _ (by omega) (by omega)
          have r1 : (k : Int) < M.length := by omega
          have r2 : (0 : Int) ≤ k := by omega
          obtain ⟨mb0, mb1⟩ := hmb
          clear hst er hu har hcu hg
          go_wp2
          go_quiet (fail)
          go_wp2
          go_roundw
          case rel => exact ⟨k + 1, n + E * max ((B : Int) - A) ((A : Int) - B), by omega, by go_num, rfl, by omega, by omega, HST.out.symm, quiet_step HI.out.2 _⟩
          case measure => simp [intOf]; omega
        · obtain rfl : k = M.length := by omega
          have hnO : n = O := by rw [HI.out.1]; exact HM.out.2.1
          have HG := Lib.hid (H4.out.2.trans (quiet_grew HI.out.2))
          have hmr : mvOk p p.reverse = true := mvOk_iff.2 ⟨(mvOk_iff.1 HOK.out).1, vProf_rev (mvOk_iff.1 HOK.out).1, by simp, (psum_rev p).symm⟩
          have hrq : mvOk p.reverse q = true := mvOk_iff.2 ⟨vProf_rev (mvOk_iff.1 HOK.out).1, (mvOk_iff.1 HOK.out).2.1, by rw [List.length_reverse]; exact (mvOk_iff.1 HOK.out).2.2.1, by rw [psum_rev]; exact (mvOk_iff.1 HOK.out).2.2.2⟩
          have h3 := earthX_third HOK.out hmr hrq
          rw [HO.out] at h3
          have hsy := earthX_symm HOK.out
          rw [HO.out] at hsy
          have hze := earthX_zero HOK.out
          rw [HO.out] at hze
          have bd : ∀ {p q : List Int}, mvOk p q = true → 0 ≤ earthX p q ∧ earthX p q ≤ 1000000 := fun {p q} hok => by
            unfold earthX; rw [if_pos hok]
            refine ⟨earthT_nonneg _ _, ?_⟩
            have hs := sur_of hok
            unfold earthT
            have hlp := (prof_len (mvOk_iff.1 hok).1).2
            have := (sumTo_bd (f := fun k => iab (sumTo (at0 (surL p q)) k)) 0 1000 (k := p.length) fun i hi => by
              have := sur_pre_bd hs i (by rw [surL_len]; omega)
              unfold iab; omega).2
            omega
          have bd1 := bd hmr
          have bd2 := bd hrq
          obtain ⟨R, eR⟩ : ∃ R, p.reverse = R := ⟨_, rfl⟩
          rw [eR] at h3 bd1 bd2
          obtain ⟨X1, eX1⟩ : ∃ X1, earthX p R = X1 := ⟨_, rfl⟩
          obtain ⟨X2, eX2⟩ : ∃ X2, earthX R q = X2 := ⟨_, rfl⟩
          rw [eX1, eX2] at h3
          rw [eX1] at bd1
          rw [eX2] at bd2
          have HX := Lib.hid (And.intro eX1 (And.intro eX2 (And.intro hsy eR)))
          have hRl : R.length = p.length := by rw [← eR]; simp
          have HRL := Lib.hid hRl
          subst hnO
          obtain ⟨B1, eB1⟩ : ∃ B1, decide (p = q) = B1 := ⟨_, rfl⟩
          have hb1 : (n == 0) = B1 := by
            rw [← eB1]
            by_cases h0 : n = 0
            · rw [h0, decide_eq_true (hze.1 h0)]; rfl
            · rw [decide_eq_false fun e => h0 (hze.2 e)]; simp [h0]
          have HB1 := Lib.hid eB1
          have hge : X1 + X2 ≥ n := h3
          have e1 : IntKind.i64.wrap (X1 + X2) = X1 + X2 := IntWalk.i64_in _ (by omega)
          have enn2 : (n == n) = true := by simp
          have dge : decide (n ≤ X1 + X2) = true := by simpa using hge
          clear hmr hrq h3 hsy hze bd eR eX1 eX2 eB1 hRl hge
          go_wp2_with (fail)
          refine (backwards_any _ p _ (HV.out.1.grew HG.out) (by omega)).mono ?_
          rw [HX.out.2.2.2]
          rintro e w5 ⟨v5, rfl, hO5, hg5⟩
          have H5 := Lib.hid (And.intro hO5.toV (HG.out.trans hg5))
          obtain ⟨a6, c6, rfl⟩ := hO5.sh
          clear hO5 hg5
          go_wp2_with (fail)
          refine (EarthCost_any _ _ q p _ (HV.out.2.1.grew H5.out.2) (HV.out.1.grew H5.out.2)).mono ?_
          rw [HX.out.2.2.1]
          rintro e w6 ⟨rfl, hg6⟩
          have H6 := Lib.hid (And.intro (H5.out.1.grew hg6) (H5.out.2.trans hg6))
          clear hg6
          go_wp2_with (fail)
          refine (EarthCost_any _ _ p R _ (HV.out.1.grew H6.out.2) H6.out.1).mono ?_
          rw [HX.out.1]
          rintro e w7 ⟨rfl, hg7⟩
          have H7 := Lib.hid (And.intro (H6.out.1.grew hg7) (H6.out.2.trans hg7))
          clear hg7
          go_wp2_with (fail)
          refine (EarthCost_any _ _ R q _ H7.out.1 (HV.out.2.1.grew H7.out.2)).mono ?_
          rw [HX.out.2.1]
          rintro e w8 ⟨rfl, hg8⟩
          have H8 := Lib.hid (H7.out.2.trans hg8)
          clear hg8
          go_wp2_with (fail)
          refine (equalInts_any _ _ p q _ (HV.out.1.grew H8.out) (HV.out.2.1.grew H8.out)).mono ?_
          rw [HB1.out]
          rintro e w9 ⟨rfl, hq⟩
          have H9 := Lib.hid (H8.out.trans (quiet_grew hq))
          clear hq
          go_wp2
          go_ret
          exact ⟨ret_bool (by simp), HV.out.2.2.trans H9.out⟩
end Go.Proofs.Ytlifjhhjkcmneaa
