/- The contract of spec.WayOf. -/
import Derived.Test.YtdhokofcgfolnaaDoorWayOf
import Derived.Test.YtdhokofcgfolnaaDoorSClimbB
import Derived.Test.YtdhokofcgfolnaaDoorSFewest
namespace Go.Proofs.YtdhokofcgfolnaaDoor
open Go.RowKit

theorem nextB_iff {ar : Nat → List Int} {p : List Int} {K N i x : Nat} : nextB ar p K N i (x : Int) = true ↔ climbC p i x + costT ar p upF K N x = costT ar p upF K N i ∧ lastCh ar p K N x = lastCh ar p K N i - 1 := by
  unfold nextB upF climbC
  rw [Int.toNat_natCast, Bool.and_eq_true, decide_eq_true_eq, decide_eq_true_eq]

theorem wayL_total (h : List (List Int)) (i k : Int) : (wayL h i k).length ≤ 1000000 := by
  cases hp : vEnds h i k with
  | false => unfold wayL; rw [if_neg (by rw [hp]; simp)]; simp
  | true =>
    have hcc := hp
    unfold vEnds at hcc
    simp only [Bool.and_eq_true] at hcc
    obtain ⟨hg, _, _⟩ := vCell_facts hcc.1
    have hN := cells_le hg
    obtain ⟨r, h1, h2, _⟩ := lastCh_spec (ar := aroundL h.length (h.getD 0 []).length) (p := h.flatten) (e := k.toNat) (fun i x hx => around_nonneg hx) i.toNat (h.length * (h.getD 0 []).length)
    unfold wayL
    rw [if_pos hp, wayT_len, h1, Int.toNat_natCast]
    omega

set_option maxRecDepth 100000 in
set_option maxHeartbeats 2000000 in
theorem SWayOf_any (v : Value) (h : List (List Int)) (i k : Int) (w : World) (hv : RowsV w v h) :
    Calls Tryd.prog 34 #[v, .int .i64 i, .int .i64 k] w (OwnI w (wayL h i k)) := by
  have HK := Lib.hid (sValidGrid_any v h w hv)
  cases hg : vGrid h with
  | false =>
    have HK1 := HK.out
    rw [hg] at HK1
    have HK2 := Lib.hid HK1
    rw [wayL_no (by rw [vCell_no hg]; rfl)]
    obtain ⟨a, b, o, c, rfl, _, _, _⟩ := hv.shape
    clear HK1 HK hg hv
    go_enter Tryd.func34, Tryd.ntmps34
    go_wp2_with (fail)
    refine HK2.out.mono ?_
    rintro e w' ⟨rfl, hG⟩
    have HG := Lib.hid hG
    clear hG
    go_wp2
    go_ret
    exact ⟨none, 0, rfl, ⟨World.ownsRow_nil _ _ _ _, fun g e => by simp [Value.ownBlock] at e⟩, HG.out⟩
  | true =>
    have HK1 := HK.out
    rw [hg] at HK1
    have HK2 := Lib.hid HK1
    have HI := Lib.hid (inR_cell (i := i) hg)
    have HJ := Lib.hid (inR_cell (i := k) hg)
    have G := Grid.of hg
    obtain ⟨n, en⟩ : ∃ n, h.length = n := ⟨_, rfl⟩
    obtain ⟨m, em⟩ : ∃ m, (h.getD 0 []).length = m := ⟨_, rfl⟩
    obtain ⟨N, eN⟩ : ∃ N, n * m = N := ⟨_, rfl⟩
    have HN := Lib.hid (fun (W : World) (hW : Grew w W) => cells_any _ h W (hv.grew hW) G.n1 (by have := G.n5; omega) (by have := G.m5; omega))
    have hp := cells_le hg
    rw [en, em, eN] at HI HJ HN hp
    have hcon := fun W => inRange_any i 0 ((N : Int) - 1) W
    rw [HI.out] at hcon
    have hdon := fun W => inRange_any k 0 ((N : Int) - 1) W
    rw [HJ.out] at hdon
    cases hc : vCell h i with
    | false =>
      rw [hc] at hcon
      have HCON := Lib.hid hcon
      rw [wayL_no (by rw [hc]; rfl)]
      obtain ⟨a, b, o, c, rfl, _, _, _⟩ := hv.shape
      clear hc hcon hdon HK1 HK hg hv HI HJ G en em eN
      go_enter Tryd.func34, Tryd.ntmps34
      go_wp2_with (fail)
      refine HK2.out.mono ?_
      rintro e w1 ⟨rfl, hG⟩
      have HG := Lib.hid hG
      clear hG
      go_wp2_with (fail)
      refine (HN.out _ HG.out).mono ?_
      rintro e w2 ⟨rfl, rfl⟩
      go_wp2_with (fail)
      refine (HCON.out _).mono ?_
      rintro e w3 ⟨rfl, rfl⟩
      go_wp2
      go_ret
      exact ⟨none, 0, rfl, ⟨World.ownsRow_nil _ _ _ _, fun g e => by simp [Value.ownBlock] at e⟩, HG.out⟩
    | true =>
      rw [hc] at hcon
      have HCON := Lib.hid hcon
      cases hd : vCell h k with
      | false =>
        rw [hd] at hdon
        have HDON := Lib.hid hdon
        rw [wayL_no (by rw [hc, hd]; rfl)]
        obtain ⟨a, b, o, c, rfl, _, _, _⟩ := hv.shape
        clear hc hd hcon hdon HK1 HK hg hv HI HJ G en em eN
        go_enter Tryd.func34, Tryd.ntmps34
        go_wp2_with (fail)
        refine HK2.out.mono ?_
        rintro e w1 ⟨rfl, hG⟩
        have HG := Lib.hid hG
        clear hG
        go_wp2_with (fail)
        refine (HN.out _ HG.out).mono ?_
        rintro e w2 ⟨rfl, rfl⟩
        go_wp2_with (fail)
        refine (HCON.out _).mono ?_
        rintro e w3 ⟨rfl, rfl⟩
        go_wp2_with (fail)
        refine (HN.out _ HG.out).mono ?_
        rintro e w2 ⟨rfl, rfl⟩
        go_wp2_with (fail)
        refine (HDON.out _).mono ?_
        rintro e w3 ⟨rfl, rfl⟩
        go_wp2
        go_ret
        exact ⟨none, 0, rfl, ⟨World.ownsRow_nil _ _ _ _, fun g e => by simp [Value.ownBlock] at e⟩, HG.out⟩
      | true =>
        rw [hd] at hdon
        have HDON := Lib.hid hdon
        obtain ⟨_, h0, hI, _⟩ := vCell_yes hc
        obtain ⟨_, k0, hK, _⟩ := vCell_yes hd
        obtain ⟨I, rfl⟩ := Int.eq_ofNat_of_zero_le h0
        obtain ⟨K, rfl⟩ := Int.eq_ofNat_of_zero_le k0
        rw [Int.toNat_natCast] at hI hK
        have hIN : I < N := by rw [← eN, ← en, ← em]; exact hI
        have hKN : K < N := by rw [← eN, ← en, ← em]; exact hK
        have hn5 := G.n5
        have hm5 := G.m5
        rw [en] at hn5
        rw [em] at hm5
        have hN25 : N ≤ 25 := by rw [← eN]; exact Nat.mul_le_mul hn5 hm5
        have hpn : ∀ i, i < N → 0 ≤ h.flatten.getD i 0 ∧ h.flatten.getD i 0 ≤ 12 := fun i hi => grid_num G i (by rw [en, em, eN]; exact hi)
        have hNb := around_range G en em eN
        have h00 : ∀ i x, x ∈ aroundL n m i → 0 ≤ x := fun i x hx => around_nonneg hx
        have hpos : ∀ i, i < N → 0 ≤ costT (aroundL n m) h.flatten upF K N i := fun i hi => by
          have := (climbN_walk hn5 hm5 (fun i hi => hpn i (by rw [← eN]; exact hi)) (i := i) (k := K) (by omega) (by omega)).1
          rwa [climbN, eN] at this
        have hcell : ∀ j : Nat, j < N → vCell h j = true := fun j hj => by rw [← inR_cell hg, en, em, eN, inR, Bool.and_eq_true, decide_eq_true_eq, decide_eq_true_eq]; omega
        obtain ⟨r, hA⟩ := wayAt (p := h.flatten) (K := K) hNb h00 hIN (hpos I hIN)
        have hWL := wayL_yes en em eN hc hd hA.few
        have hAN : ∀ t, t ≤ r → WayAt (aroundL n m) h.flatten K N (iterN (aroundL n m) h.flatten K N I t) (r - t) := fun t => by
          induction t with
          | zero => exact fun _ => hA
          | succ t ih =>
            intro ht
            have := ih (by omega)
            rw [show r - t = (r - (t + 1)) + 1 by omega] at this
            obtain ⟨_, _, _, _, _, h5⟩ := this.next hNb h00 hpos
            exact h5
        obtain ⟨C, eC⟩ : ∃ C : Nat → Int, C = costT (aroundL n m) h.flatten upF K N := ⟨_, rfl⟩
        obtain ⟨F, eF⟩ : ∃ F : Nat → Int, F = lastCh (aroundL n m) h.flatten K N := ⟨_, rfl⟩
        obtain ⟨D, eD⟩ : ∃ D : Nat → Nat → Int, D = climbC h.flatten := ⟨_, rfl⟩
        obtain ⟨T, eT⟩ : ∃ T : Nat → Nat, T = iterN (aroundL n m) h.flatten K N I := ⟨_, rfl⟩
        obtain ⟨Z, eZ⟩ : ∃ Z : Nat → List Int, Z = wayT (aroundL n m) h.flatten K N I := ⟨_, rfl⟩
        have HF : Hid (∀ (j : Nat), j < N → ∀ W, Grew w W → Calls Tryd.prog 59 #[v, .int .i64 j, .int .i64 K] W fun e w' => e = .returned (.int .i64 (F j)) ∧ Grew W w') := Lib.hid fun j hj W hW => by
          rw [eF]; exact fewest_any v h n m N j K W (hv.grew hW) hg en em eN hj hKN (hcell j hj) hd
        have HCB : Hid (∀ (j : Nat), j < N → ∀ W, Grew w W → Calls Tryd.prog 17 #[v, .int .i64 j, .int .i64 K] W fun e w' => e = .returned (.int .i64 (C j)) ∧ Grew W w') := Lib.hid fun j hj W hW => by
          have := SClimbBetween_any v h j K W (hv.grew hW)
          rw [wayV_yes en em eN (hcell j hj) hd] at this
          rw [eC]; exact this
        have HCL : Hid (∀ (i j : Nat), i < N → j < N → ∀ W, Grew w W → Calls Tryd.prog 68 #[v, .int .i64 i, .int .i64 j] W fun e w' => e = .returned (.int .i64 (D i j)) ∧ Grew W w') := Lib.hid fun i j hi hj W hW => by
          rw [eD]; exact (climb_any v h n m N i j W (hv.grew hW) hg en em eN hi hj).mono fun e w' h => ⟨h.1, quiet_grew h.2⟩
        have HAR : Hid (∀ (j : Nat), j < N → ∀ W, Grew w W → Calls Tryd.prog 67 #[v, .int .i64 j] W (OwnI W (aroundL n m j))) := Lib.hid fun j hj W hW => by
          have := around_any v h j W (hv.grew hW) hg (by rw [en, em, eN]; exact hj)
          rwa [en, em] at this
        have HT : Hid (∀ t, t ≤ r → T t < N ∧ (t < r → T t ≠ K) ∧ (t = r → T t = K)) := Lib.hid fun t ht => by
          have h1 := hAN t ht
          have h2 := h1.zero_iff
          rw [eT]
          exact ⟨h1.lt, fun g e => by have := h2.2 e; omega, fun g => h2.1 (by omega)⟩
        have HB : Hid (∀ t, t < r → ∃ s, s < (aroundL n m (T t)).length ∧ (aroundL n m (T t)).getD s 0 = ((T (t + 1) : Nat) : Int) ∧ (D (T t) (T (t + 1)) + C (T (t + 1)) = C (T t) ∧ F (T (t + 1)) = F (T t) - 1) ∧ ∀ q, q < s → ∃ x : Nat, (aroundL n m (T t)).getD q 0 = (x : Int) ∧ x < N ∧ ¬ (D (T t) x + C x = C (T t) ∧ F x = F (T t) - 1)) := Lib.hid fun t ht => by
          have h1 := hAN t (by omega)
          rw [show r - t = (r - (t + 1)) + 1 by omega] at h1
          obtain ⟨s, h2, h3, h4, h5, h6⟩ := h1.next hNb h00 hpos
          have hlt := h1.lt
          subst eC eF eD eT
          rw [h5] at h3
          refine ⟨s, h2, h5, nextB_iff.1 h3, fun q hq => ?_⟩
          have hm : (aroundL n m (iterN (aroundL n m) h.flatten K N I t)).getD q 0 ∈ aroundL n m (iterN (aroundL n m) h.flatten K N I t) := by
            have hql : q < (aroundL n m (iterN (aroundL n m) h.flatten K N I t)).length := by omega
            have e1 : (aroundL n m (iterN (aroundL n m) h.flatten K N I t)).getD q 0 = (aroundL n m (iterN (aroundL n m) h.flatten K N I t))[q] := by simp [hql]
            rw [e1]; exact List.getElem_mem hql
          have hr := hNb _ _ hlt hm
          obtain ⟨x, ex⟩ := Int.eq_ofNat_of_zero_le hr.1
          have h7 := h4 q hq
          rw [ex] at h7 hr ⊢
          exact ⟨x, rfl, by omega, fun g => by rw [nextB_iff.2 g] at h7; cases h7⟩
        have HBD : Hid (∀ i j : Nat, i < N → j < N → (0 ≤ D i j ∧ D i j ≤ 12) ∧ (0 ≤ C j ∧ C j ≤ 400) ∧ 0 ≤ F j ∧ F j ≤ 25) := Lib.hid fun i j hi hj => by
          subst eC eF eD
          have h1 := hpn i hi
          have h2 := hpn j hj
          obtain ⟨q, hq⟩ := wayAt (p := h.flatten) (K := K) hNb h00 hj (hpos j hj)
          have h3 := hq.few
          have h4 := hq.le
          refine ⟨by unfold climbC; omega, ⟨hpos j hj, by have := (costT_up upF_rule hNb hpn (e := K) N j hj).2; omega⟩, by omega, by omega⟩
        have HZ : Hid ((∀ t, Z (t + 1) = Z t ++ [((T (t + 1) : Nat) : Int)]) ∧ (∀ t, (Z t).length = t + 1) ∧ Z 0 = [(I : Int)] ∧ wayL h I K = Z r) := Lib.hid (by
          subst eT eZ
          exact ⟨fun t => wayT_succ I t, fun t => wayT_len I t, wayT_zero I, hWL⟩)
        have HT0 : Hid (T 0 = I) := Lib.hid (by rw [eT]; rfl)
        have hrN := hA.le
        have HAL : Hid (∀ j, j < N → (aroundL n m j).length ≤ 4) := Lib.hid fun j hj => (around_facts hn5 hm5 (by rw [eN]; exact hj)).2.2
        obtain ⟨AR, eAR⟩ : ∃ AR : Nat → List Int, AR = aroundL n m := ⟨_, rfl⟩
        rw [← eAR] at HAR HB HAL
        obtain ⟨a, b, o, c, rfl, _, _, _⟩ := hv.shape
        clear hc hd hcon hdon HK1 HK hg hv HI HJ G h0 k0 hI hK en em eN hn5 hm5 hpn hNb h00 hpos hcell hA hWL hAN eC eF eD eT eZ eAR
        go_enter Tryd.func34, Tryd.ntmps34
        go_wp2_with (fail)
        refine HK2.out.mono ?_
        rintro e w1 ⟨rfl, hG⟩
        have HG := Lib.hid hG
        clear hG
        go_wp2_with (fail)
        refine (HN.out _ HG.out).mono ?_
        rintro e w2 ⟨rfl, rfl⟩
        go_wp2_with (fail)
        refine (HCON.out _).mono ?_
        rintro e w3 ⟨rfl, rfl⟩
        go_wp2_with (fail)
        refine (HN.out _ HG.out).mono ?_
        rintro e w2 ⟨rfl, rfl⟩
        go_wp2_with (fail)
        refine (HDON.out _).mono ?_
        rintro e w3 ⟨rfl, rfl⟩
        go_wp2
        go_loopg [7, 8] r (fun gk v i wr => ∃ t g c, v = .slice (some ⟨g, 0, none⟩) (t + 1) c ∧ i = .int .i64 ((T t : Nat) : Int) ∧ t ≤ r ∧ r ≤ gk + t ∧
          Hid (IntsO 3 w.heap.size wr.heap.size wr v (Z t) ∧ Grew w wr))
        case atStart =>
          refine ⟨0, _, 1, rfl, by rw [HT0.out], Nat.zero_le _, Nat.le_refl _, Lib.hid ⟨?_, HG.out.alloc _⟩⟩
          rw [HZ.out.2.2.1]
          exact (IntsO.lit 3 w.heap.size w1 [(I : Int)] #[.int .i64 (I : Int)] rfl HG.out.size (by simp [maxLen])).wide (Nat.le_refl _) (by simp)
        case round =>
          obtain ⟨t, g, c', rfl, rfl, ht, hgk, HI⟩ := hrel
          obtain ⟨ht1, ht2, ht3⟩ := HT.out t ht
          by_cases hlt : t < r
          · have hne : ((T t : Nat) : Int) ≠ (K : Int) := fun e => ht2 hlt (by omega)
            obtain ⟨s, hs1, hs2, hs3, hs4⟩ := HB.out t hlt
            have hn1 := (HT.out (t + 1) (by omega)).1
            have HT1 : Hid (∃ y, T (t + 1) = y) := Lib.hid ⟨_, rfl⟩
            have HZ1 := Lib.hid (And.intro (HZ.out.1 t) (HZ.out.2.1 t))
            have hA4 := HAL.out _ ht1
            have HF0 := Lib.hid (HF.out _ ht1)
            have HCB0 := Lib.hid (HCB.out _ ht1)
            have HAR0 := Lib.hid (HAR.out _ ht1)
            have hb0 := HBD.out _ _ ht1 ht1
            obtain ⟨y, ey⟩ : ∃ y, T (t + 1) = y := ⟨_, rfl⟩
            rw [ey] at hs2 hs3 hn1 HZ1
            obtain ⟨x0, ex0⟩ : ∃ x0, T t = x0 := ⟨_, rfl⟩
            rw [ex0] at hs1 hs2 hs3 hs4 ht1 hne hA4 HF0 HCB0 HAR0 hb0 ⊢
            obtain ⟨A, eA⟩ : ∃ A, AR x0 = A := ⟨_, rfl⟩
            rw [eA] at hs1 hs2 hs4 hA4 HAR0
            have HEY := Lib.hid ey
            have HS2 := Lib.hid hs2
            have HS3 := Lib.hid hs3
            have HS4 := Lib.hid hs4
            obtain ⟨X, eX⟩ : ∃ X, Z t = X := ⟨_, rfl⟩
            rw [eX] at HZ1 HI
            clear ey ex0 eA hs2 hs3 hs4 ht2 ht3 eX HT1
            go_wp2_with (fail)
            refine (HF0.out wr HI.out.2).mono ?_
            rintro e w3 ⟨rfl, hg3⟩
            have H3 : Hid (IntsO 3 w.heap.size w3.heap.size w3 (.slice (some ⟨g, 0, none⟩) (t + 1) c') X ∧ Grew w w3) := Lib.hid ⟨(HI.out.1.grew hg3).wide (Nat.le_refl _) hg3.size, HI.out.2.trans hg3⟩
            clear hg3 HI
            go_wp2_with (fail)
            refine (HCB0.out w3 H3.out.2).mono ?_
            rintro e w4 ⟨rfl, hg4⟩
            have H4 : Hid (IntsO 3 w.heap.size w4.heap.size w4 (.slice (some ⟨g, 0, none⟩) (t + 1) c') X ∧ Grew w w4) := Lib.hid ⟨(H3.out.1.grew hg4).wide (Nat.le_refl _) hg4.size, H3.out.2.trans hg4⟩
            clear hg4 H3
            go_wp2_with (fail)
            refine (HAR0.out w4 H4.out.2).mono ?_
            rintro e w5 ⟨a5, c5, rfl, hO5, hg5⟩
            obtain ⟨g5, c5', e5, _, _, _, _⟩ := hO5.pos (by omega)
            simp only [Value.slice.injEq] at e5
            obtain ⟨rfl, _, rfl⟩ := e5
            have H5 : Hid (IntsO 3 w.heap.size w5.heap.size w5 (.slice (some ⟨g, 0, none⟩) (t + 1) c') X ∧ Grew w w5) := Lib.hid ⟨(H4.out.1.grew hg5).wide (Nat.le_refl _) hg5.size, H4.out.2.trans hg5⟩
            have HO5 := Lib.hid hO5
            clear hg5 H4 hO5
            go_wp2
            go_loopw [8, 12] (fun v8 v12 wi => ∃ j : Nat, v8 = .int .i64 (x0 : Int) ∧ v12 = .int .i64 (j : Int) ∧ j ≤ s ∧ Hid (Grew w5 wi)) (fun _ v12 _ => s + 1 - (intOf v12).toNat)
            case atStart => exact ⟨0, rfl, rfl, Nat.zero_le _, Grew.refl _⟩
            case round =>
              obtain ⟨j, rfl, rfl, hj, HGI⟩ := hrel
              have hjl : (j : Int) < (A.length : Int) := by omega
              have hel := ((HO5.out.grew HGI.out).at rfl (i := j) (by omega)).1
              have HGW := Lib.hid (H5.out.2.trans HGI.out)
              by_cases hjs : j < s
              · obtain ⟨x, h1, h2, h3⟩ := HS4.out j hjs
                rw [h1] at hel
                have HCL1 := Lib.hid (HCL.out x0 x ht1 h2)
                have HCB1 := Lib.hid (HCB.out x h2)
                have HF1 := Lib.hid (HF.out x h2)
                have hbx := HBD.out x0 x ht1 h2
                obtain ⟨d1, ed⟩ : ∃ d1, D x0 x = d1 := ⟨_, rfl⟩
                obtain ⟨q1, eq1⟩ : ∃ q1, C x = q1 := ⟨_, rfl⟩
                obtain ⟨f1, ef⟩ : ∃ f1, F x = f1 := ⟨_, rfl⟩
                obtain ⟨q0, eq0⟩ : ∃ q0, C x0 = q0 := ⟨_, rfl⟩
                obtain ⟨f0, ef0⟩ : ∃ f0, F x0 = f0 := ⟨_, rfl⟩
                rw [ed] at h3 HCL1 hbx
                rw [eq1] at h3 HCB1 hbx
                rw [ef] at h3 HF1 hbx
                rw [eq0] at h3 hb0 ⊢
                rw [ef0] at h3 hb0 ⊢
                clear ed eq1 ef eq0 ef0 h1
                go_wp2_with (fail)
                refine (HCL1.out _ HGW.out).mono ?_
                rintro e w6 ⟨rfl, hg6⟩
                have HG6 := Lib.hid (And.intro (HGW.out.trans hg6) (HGI.out.trans hg6))
                clear hg6 hel
                go_wp2_with (fail)
                refine (HCB1.out _ HG6.out.1).mono ?_
                rintro e w7 ⟨rfl, hg7⟩
                have HG7 := Lib.hid (And.intro (HG6.out.1.trans hg7) (HG6.out.2.trans hg7))
                clear hg7 HG6
                have hwr : IntKind.i64.wrap (d1 + q1) = d1 + q1 := IntWalk.i64_in _ (by omega)
                by_cases hc1 : d1 + q1 = q0
                · have hd1 : decide (d1 + q1 = q0) = true := decide_eq_true hc1
                  have hf1 : ¬ f1 = f0 - 1 := fun g => h3 ⟨hc1, g⟩
                  have hwr2 : IntKind.i64.wrap (f0 - 1) = f0 - 1 := IntWalk.i64_in _ (by omega)
                  go_wp2_with (fail)
                  refine (HF1.out _ HG7.out.1).mono ?_
                  rintro e w8 ⟨rfl, hg8⟩
                  have HG8 := Lib.hid (HG7.out.2.trans hg8)
                  clear hg8 HG7
                  go_wp2
                  go_roundw
                  case rel => exact ⟨j + 1, rfl, by go_num, by omega, HG8.out⟩
                  case measure => simp [intOf]; omega
                · have hd1 : decide (d1 + q1 = q0) = false := decide_eq_false hc1
                  go_wp2
                  go_roundw
                  case rel => exact ⟨j + 1, rfl, by go_num, by omega, HG7.out.2⟩
                  case measure => simp [intOf]; omega
              · obtain rfl : j = s := by omega
                have h3 := HS3.out
                rw [HS2.out] at hel
                have HCL1 := Lib.hid (HCL.out x0 y ht1 hn1)
                have HCB1 := Lib.hid (HCB.out y hn1)
                have HF1 := Lib.hid (HF.out y hn1)
                have hbx := HBD.out x0 y ht1 hn1
                obtain ⟨d1, ed⟩ : ∃ d1, D x0 y = d1 := ⟨_, rfl⟩
                obtain ⟨q1, eq1⟩ : ∃ q1, C y = q1 := ⟨_, rfl⟩
                obtain ⟨f1, ef⟩ : ∃ f1, F y = f1 := ⟨_, rfl⟩
                obtain ⟨q0, eq0⟩ : ∃ q0, C x0 = q0 := ⟨_, rfl⟩
                obtain ⟨f0, ef0⟩ : ∃ f0, F x0 = f0 := ⟨_, rfl⟩
                rw [ed] at h3 HCL1 hbx
                rw [eq1] at h3 HCB1 hbx
                rw [ef] at h3 HF1 hbx
                rw [eq0] at h3 hb0 ⊢
                rw [ef0] at h3 hb0 ⊢
                obtain ⟨hc1, hc2⟩ := h3
                have hd1 : decide (d1 + q1 = q0) = true := decide_eq_true hc1
                have hd2 : decide (f1 = f0 - 1) = true := decide_eq_true hc2
                have hwr : IntKind.i64.wrap (d1 + q1) = d1 + q1 := IntWalk.i64_in _ (by omega)
                have hwr2 : IntKind.i64.wrap (f0 - 1) = f0 - 1 := IntWalk.i64_in _ (by omega)
                clear ed eq1 ef eq0 ef0 hc1 hc2
                go_wp2_with (fail)
                refine (HCL1.out _ HGW.out).mono ?_
                rintro e w6 ⟨rfl, hg6⟩
                have HG6 := Lib.hid (And.intro (HGW.out.trans hg6) (HGI.out.trans hg6))
                clear hg6 hel
                go_wp2_with (fail)
                refine (HCB1.out _ HG6.out.1).mono ?_
                rintro e w7 ⟨rfl, hg7⟩
                have HG7 := Lib.hid (And.intro (HG6.out.1.trans hg7) (HG6.out.2.trans hg7))
                clear hg7 HG6
                go_wp2_with (fail)
                refine (HF1.out _ HG7.out.1).mono ?_
                rintro e w8 ⟨rfl, hg8⟩
                have H8 : Hid (IntsO 3 w.heap.size w8.heap.size w8 (.slice (some ⟨g, 0, none⟩) (t + 1) c') X ∧ Grew w w8) := Lib.hid ⟨(H5.out.1.grew (HG7.out.2.trans hg8)).wide (Nat.le_refl _) (HG7.out.2.trans hg8).size, HG7.out.1.trans hg8⟩
                have hs8 : w.heap.size ≤ w8.heap.size := H8.out.2.size
                clear hg8 HG7
                go_wp2_with (at_builtin; refine wpList_append_int rfl (.tmp 81) (.tmp 83) 27 rfl Tryd.underlying27 Tryd.infoI rfl rfl rfl H8.out.1 (by rw [HZ1.out.2]; omega) hs8 ?_; intro g9 c9 w9 hO9 hW9 hS9)
                rw [HZ1.out.2] at hO9 ⊢
                have H9 : Hid (IntsO 3 w.heap.size w9.heap.size w9 (.slice (some ⟨g9, 0, none⟩) (t + 1 + 1) c9) (X ++ [(y : Int)]) ∧ Grew w w9) := ⟨hO9, Within.grew H8.out.2 hW9 (Nat.le_refl _)⟩
                clear hO9 hW9 hS9
                go_wp2
                go_roundg (gk - 1)
                case measure => omega
                case rel => exact ⟨t + 1, g9, c9, rfl, by rw [HEY.out], by omega, by omega, by rw [HZ1.out.1]; exact H9.out⟩
                · rename_i hx; exact absurd (of_decide_eq_true hd2) (by simpa using hx)
                · rename_i hx; exact absurd (of_decide_eq_true hd1) hx
          · obtain rfl : t = r := by omega
            rw [ht3 rfl]
            go_wp2
            go_ret
            exact ⟨some ⟨g, 0, none⟩, c', by rw [HZ.out.2.2.2, HZ.out.2.1]; rfl, by rw [HZ.out.2.2.2, HZ.out.2.1]; exact HI.out.1, HI.out.2⟩
end Go.Proofs.YtdhokofcgfolnaaDoor
