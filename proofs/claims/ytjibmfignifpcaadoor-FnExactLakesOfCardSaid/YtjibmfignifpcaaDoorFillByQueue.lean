/- The contract of impl.FillByQueue. -/
import Derived.Test.YtjibmfignifpcaaDoorFillState
import Derived.Test.YtjibmfignifpcaaDoorSink
import Derived.Test.YtjibmfignifpcaaDoorRepeat
import Derived.Laws.EntriesVeiled
import Derived.Lib.MinMax
namespace Go.Proofs.YtjibmfignifpcaaDoor
open Go.RowKit

set_option maxRecDepth 100000 in
set_option maxHeartbeats 4000000 in
theorem FillByQueue_any (v : Value) (h : List (List Int)) (w : World) (hv : RowsV w v h) (hS : Steps w) :
    Calls Tryd.prog 16 #[v] w (NewRows w (fillL h)) := by
  have HK := ValidGrid_any v h w hv
  cases hg : vGrid h with
  | false =>
    rw [hg] at HK
    have HK2 := Lib.hid HK
    rw [fillL_no hg]
    obtain ⟨a, b, o, c, rfl, _, _, _⟩ := hv.shape
    clear hv hS HK hg
    go_enter Tryd.func16, Tryd.ntmps16
    go_wp2_with (fail)
    refine HK2.out.mono ?_
    rintro e w1 ⟨rfl, rfl⟩
    go_wp2
    go_ret
    exact ⟨_, rfl, RowsO.nil _ _ _ _ _, Grew.refl _⟩
  | true =>
    rw [hg] at HK
    have HK2 := Lib.hid HK
    have G := Grid.of hg
    obtain ⟨n, en⟩ : ∃ n, h.length = n := ⟨_, rfl⟩
    obtain ⟨m, em⟩ : ∃ m, (h.getD 0 []).length = m := ⟨_, rfl⟩
    obtain ⟨N, eN⟩ : ∃ N, n * m = N := ⟨_, rfl⟩
    have hK := fun W (hW : Grew w W) => slicesConcat_any v h W (hv.grew hW) G.n1 (Nat.le_trans G.n5 (by decide)) (fun r hr => by have := G.len r hr; have := G.m1; have := G.m5; omega)
    have hpl := flat_grid_len G
    have hpn : ∀ i, i < N → 0 ≤ h.flatten.getD i 0 ∧ h.flatten.getD i 0 ≤ 12 := fun i hi => grid_num G i (by rw [en, em, eN]; exact hi)
    rw [en, em, eN] at hpl
    have HFY : ∀ ws, Level n m h.flatten ws → fillL h = shapeL ws m n := fun ws W => fillL_yes hg en em W
    obtain ⟨p, ep⟩ : ∃ p, h.flatten = p := ⟨_, rfl⟩
    rw [ep] at hK hpl hpn HFY
    have HY := Lib.hid HFY
    obtain ⟨R, eR⟩ : ∃ R, fillL h = R := ⟨_, rfl⟩
    rw [eR] at HY ⊢
    have HKK := Lib.hid hK
    have hn5 := G.n5
    have hn1 := G.n1
    have hm5 := G.m5
    have hm1 := G.m1
    rw [en] at hn5 hn1
    rw [em] at hm5 hm1
    have hN25 : N ≤ 25 := by rw [← eN]; exact Nat.mul_le_mul hn5 hm5
    have hN1 : 1 ≤ N := by rw [← eN]; exact Nat.mul_pos hn1 hm1
    have HNM := Lib.hid (And.intro hn5 (And.intro hm5 (And.intro eN (And.intro hpl (And.intro hm1 hpn)))))
    have HE : Hid (∀ (I : Nat) (W : World), Grew w W → I < N → Calls Tryd.prog 55 #[v, .int .i64 I] W fun e w' => e = .returned (.bool (edgeL n m I)) ∧ Grew W w') :=
      Lib.hid fun I W hW hI => by
        have := atEdge_any v h I W (hv.grew hW) hg (by rw [en, em, eN]; exact hI) (hS.grew hW)
        rw [en, em] at this
        exact this
    have HCB : Hid (∀ (I : Nat) (W : World), Grew w W → I < N → Calls Tryd.prog 58 #[v, .int .i64 I] W (OwnI W (aroundL n m I))) :=
      Lib.hid fun I W hW hI => by
        have := cellsBeside_any v h I W (hv.grew hW) hg (by rw [en, em, eN]; exact hI) (hS.grew hW)
        rw [en, em] at this
        exact this
    obtain ⟨a, b, o, c, rfl, ⟨hlc, hcb⟩, ha, HCR⟩ := hv.shape
    obtain rfl := ha (by omega)
    obtain ⟨u0, hcu0, hu0⟩ := HCR.out 0 (by omega)
    rw [Nat.add_zero] at hcu0
    obtain ⟨a0, b0, o0, c0, rfl, _, _, _⟩ := hu0.shape
    rw [em] at hcu0
    have HCU := Lib.hid hcu0
    rw [en] at HK2 HKK HE HCB hlc ⊢
    have hn0 : (0 : Int) < (n : Int) := by omega
    clear hv hS HK hg G ha HCR hu0 hcu0 en em ep eN hK HFY hn5 hm5 hm1 hpl hpn eR
    go_enter Tryd.func16, Tryd.ntmps16
    go_wp2_with (fail)
    refine HK2.out.mono ?_
    rintro e w0 ⟨rfl, rfl⟩
    go_wp2_with (fail)
    refine (HKK.out _ (Grew.refl _)).mono ?_
    rintro e w1 ⟨g1, c1, rfl, hO1, hg1⟩
    rw [HNM.out.2.2.2.1] at hO1 ⊢
    have H1 := Lib.hid (And.intro hO1 hg1)
    clear hO1 hg1 HKK
    have HREP := Lib.hid (slicesRepeat_any w1.heap.size 0 1 (-1) N (w1.alloc (.cells #[.int .i64 (-1)] 3)) (by simp) hN1 hN25)
    go_wp2_with (fail)
    refine HREP.out.mono ?_
    rintro e w2 ⟨g2, c2, rfl, hO2, hg2⟩
    rw [List.length_replicate] at hO2 ⊢
    have hb2 := hO2.blk
    have hsz1 := H1.out.2.size
    have hs2 := hg2.size
    have H3 : Hid (FState w g1 c1 g2 c2 w2.heap.size (w2.heap.size + 1) N p ((w2.alloc (.cells #[.slice (some ⟨g2, 0, none⟩) N c2] 28)).alloc (.cells #[.func (.func 52) #[] #[], .slice none 0 0] 49)) (List.replicate N (-1)) [] (w2.heap.size + 1)) := by
      have ga : Grew w2 ((w2.alloc (.cells #[.slice (some ⟨g2, 0, none⟩) N c2] 28)).alloc (.cells #[.func (.func 52) #[] #[], .slice none 0 0] 49)) := ((Grew.refl w2).alloc _).alloc _
      have g12 : Grew w1 w2 := ((Grew.refl w1).alloc _).trans hg2
      have hb3 : w1.heap.size + 1 ≤ g2 := by simpa using hb2.1
      refine Lib.hid ⟨((H1.out.1.grew g12).grew ga).wide (Nat.le_refl _) (by omega), (hO2.at1).grew ga, by simp, ⟨none, 0, by simp, by simp, World.frozen?_alloc_at (w := w2.alloc _) _ _ (w2.heap.size + 1) 1 (by simp), by omega, .inl ⟨rfl, rfl, rfl, rfl⟩⟩, .inl rfl, (H1.out.2.trans g12).trans ga, by omega, hb2.2, by omega⟩
    clear hO2 hg2 H1 HREP hb2 hsz1 hs2
    go_wp2_with (fail)
    obtain ⟨w3, ew3⟩ : ∃ w3, (w2.alloc (.cells #[.slice (some ⟨g2, 0, none⟩) N c2] 28)).alloc (.cells #[.func (.func 52) #[] #[], .slice none 0 0] 49) = w3 := ⟨_, rfl⟩
    rw [ew3] at H3 ⊢
    obtain ⟨Bw, eBw⟩ : ∃ Bw, w2.heap.size = Bw := ⟨_, rfl⟩
    rw [eBw] at H3 ⊢
    clear ew3 eBw
    go_loopw [25] (fun i wr => ∃ I : Nat, I ≤ N ∧ i = .int .i64 (I : Int) ∧ Hid (∃ xs q g, FState w g1 c1 g2 c2 Bw (Bw + 1) N p wr xs q g ∧ Rim n m p xs q I)) (fun i _ => N - (intOf i).toNat)
    case atStart => exact ⟨0, Nat.zero_le _, rfl, _, _, _, H3.out, by have := rim_start n m p; rwa [HNM.out.2.2.1] at this⟩
    case round =>
      obtain ⟨I, hI1, rfl, HX⟩ := hrel
      clear H3
      obtain ⟨xs, q, g, HS⟩ : ∃ xs q g, Hid (FState w g1 c1 g2 c2 Bw (Bw + 1) N p wr xs q g ∧ Rim n m p xs q I) := by
        obtain ⟨xs, q, g, h⟩ := HX.out
        exact ⟨xs, q, g, Lib.hid h⟩
      clear HX
      by_cases hI : I < N
      · have hcI := (HS.out.1.hts.at rfl (i := I) (by rw [HS.out.1.lens.2]; exact hI)).1
        obtain ⟨x, ex⟩ : ∃ x, p.getD I 0 = x := ⟨_, rfl⟩
        rw [ex] at hcI
        have HXE := Lib.hid ex
        have HEI := HE.out I wr HS.out.1.grew hI
        clear ex
        cases he : edgeL n m I with
        | true =>
          rw [he] at HEI
          have HEI2 := Lib.hid HEI
          have HE3 := Lib.hid he
          clear HEI he
          go_wp2_with (fail)
          refine HEI2.out.mono ?_
          rintro e w4 ⟨rfl, hg4⟩
          have HT := Lib.hid ((HS.out.1.step hg4).call x hI (by have := HS.out.2.room; rw [HNM.out.2.2.1] at this; omega) HS.out.2.sorted)
          clear hg4
          go_wp2_with (fail)
          refine HT.out.mono ?_
          rintro e w5 ⟨rfl, k, g', z1, z2, hF5, _, _⟩
          have HR5 : Hid (∃ xs q g, FState w g1 c1 g2 c2 Bw (Bw + 1) N p w5 xs q g ∧ Rim n m p xs q (I + 1)) := by
            refine Lib.hid ⟨_, _, _, hF5, ?_⟩
            have hx := HXE.out
            subst hx
            exact HS.out.2.tell (by rw [HNM.out.2.2.1]; exact hI) HE3.out (HNM.out.2.2.2.2.2 I hI).1 z1 z2
          clear hF5 z1 z2 HT HS HXE
          go_wp2
          go_roundw
          case rel => exact ⟨I + 1, by omega, by go_num, HR5.out⟩
          case measure => simp [intOf]; omega
        | false =>
          rw [he] at HEI
          have HEI2 := Lib.hid HEI
          have HE3 := Lib.hid he
          clear HEI he
          go_wp2_with (fail)
          refine HEI2.out.mono ?_
          rintro e w4 ⟨rfl, hg4⟩
          have HR5 : Hid (∃ xs q g, FState w g1 c1 g2 c2 Bw (Bw + 1) N p w4 xs q g ∧ Rim n m p xs q (I + 1)) := Lib.hid ⟨_, _, _, HS.out.1.step hg4, HS.out.2.skip HE3.out⟩
          clear hg4 HS HXE
          go_wp2
          go_roundw
          case rel => exact ⟨I + 1, by omega, by go_num, HR5.out⟩
          case measure => simp [intOf]; omega
      · obtain rfl : I = N := by omega
        have HX2 : Hid (∃ xs q g low, FState w g1 c1 g2 c2 Bw (Bw + 1) I p wr xs q g ∧ Flood n m p xs q low (n * m) ∧ 0 ≤ low ∧ q.length + xs.count (-1) + 1 ≤ I + 1) := by
          refine Lib.hid ⟨xs, q, g, 0, HS.out.1, Rim.flood (by rw [HNM.out.2.2.1]; exact HS.out.2) (fun i hi => (HNM.out.2.2.2.2.2 i (by rw [← HNM.out.2.2.1]; exact hi)).1), Int.le_refl _, ?_⟩
          have := HS.out.2.room
          rw [HNM.out.2.2.1] at this
          omega
        clear HS
        go_wp2
        go_loopg [38] (I + 1) (fun gk bv wo => Hid (∃ xs q g low, FState w g1 c1 g2 c2 Bw (Bw + 1) I p wo xs q g ∧ Flood n m p xs q low (n * m) ∧ 0 ≤ low ∧ q.length + xs.count (-1) + 1 ≤ gk))
        case atStart => exact HX2.out
        case round =>
          clear HX2
          obtain ⟨xs, q, g, low, HS⟩ : ∃ xs q g low, Hid (FState w g1 c1 g2 c2 Bw (Bw + 1) I p wr xs q g ∧ Flood n m p xs q low (n * m) ∧ 0 ≤ low ∧ q.length + xs.count (-1) + 1 ≤ gk) := by
            obtain ⟨xs, q, g, low, h⟩ := hrel.out
            exact ⟨xs, q, g, low, Lib.hid h⟩
          clear hrel
          have hgk : 1 ≤ gk := by have := HS.out.2.2.2; omega
          cases q with
          | nil =>
            have HEM : Hid (Calls Tryd.prog 56 #[.pointer (some ⟨Bw + 1, 0, none⟩)] wr fun e w' => e = .returned (.bool true) ∧ w' = wr) := Lib.hid (by simpa using HS.out.1.empty)
            have hbx := HS.out.1.box
            have hcu := HS.out.1.grew.cell HCU.out
            have HL : Hid (R = shapeL xs m n) := Lib.hid (HY.out xs (HS.out.2.1.level HNM.out.1 HNM.out.2.1 fun i hi => (HNM.out.2.2.2.2.2 i (by rw [← HNM.out.2.2.1]; exact hi)).2))
            have HIR := Lib.hid (inRows_own (HS.out.1.wat.grew ((Grew.refl wr).drew)) HNM.out.1 HNM.out.2.2.2.2.1 HNM.out.2.1 HNM.out.2.2.1)
            have HGW := Lib.hid HS.out.1.grew
            clear HS
            go_wp2_with (fail)
            refine HEM.out.mono ?_
            rintro e w4 ⟨rfl, rfl⟩
            go_wp2_with (fail)
            go_region_with (go_at_call 59; refine HIR.out.mono ?_; rintro e w5 ⟨v5, rfl, hO5, hg5⟩; obtain ⟨a5, c5, rfl⟩ := hO5.sh; have H5 := Lib.hid (And.intro hO5 hg5); clear hO5 hg5)
            all_goals
              go_wp2
              go_ret
              rw [HL.out]
              exact ⟨_, rfl, H5.out.1.wide HGW.out.size (Nat.le_refl _), HGW.out.drew.trans H5.out.2⟩
          | cons e q =>
            have HEM : Hid (Calls Tryd.prog 56 #[.pointer (some ⟨Bw + 1, 0, none⟩)] wr fun e w' => e = .returned (.bool false) ∧ w' = wr) := Lib.hid (by simpa using HS.out.1.empty)
            have HTK := Lib.hid HS.out.1.take
            obtain ⟨e1, lw⟩ := e
            obtain ⟨X, hX, HF⟩ : ∃ X : Nat, e1 = X ∧ Hid (X < I ∧ xs.getD X 0 = lw ∧ 0 ≤ lw ∧ Flood n m p xs q lw X ∧ q.length + xs.count (-1) + 1 ≤ gk - 1) := by
              obtain ⟨X, h1, h2, h3, h4, h5⟩ := HS.out.2.1.take
              refine ⟨X, h1, Lib.hid ⟨by rw [← HNM.out.2.2.1]; exact h2, h3, h4, h5, ?_⟩⟩
              have := HS.out.2.2.2
              simp only [List.length_cons] at this
              omega
            subst hX
            clear HS
            go_wp2_with (fail)
            refine HEM.out.mono ?_
            rintro e w4 ⟨rfl, rfl⟩
            go_wp2_with (fail)
            refine HTK.out.mono ?_
            rintro e w5 ⟨rfl, hF5⟩
            have H5 := Lib.hid hF5
            clear hF5 HTK HEM
            go_wp2_with (fail)
            have HC := Lib.hid (HCB.out X (w5.alloc (.cells #[.int .i64 (X : Int), .int .i64 lw] 52)) (H5.out.grew.alloc _) HF.out.1)
            obtain ⟨A, eA⟩ : ∃ A, aroundL n m X = A := ⟨_, rfl⟩
            have HEA := Lib.hid eA
            obtain ⟨K, eK⟩ : ∃ K, A.length = K := ⟨_, rfl⟩
            have HEK := Lib.hid eK
            rw [eA] at HC
            refine HC.out.mono ?_
            rintro e w7 ⟨a7, c7, rfl, hO7, hg7⟩
            rw [eK] at hO7 ⊢
            obtain ⟨Lb, eLb⟩ : ∃ Lb, w5.heap.size = Lb := ⟨_, rfl⟩
            obtain ⟨Z7, eZ7⟩ : ∃ Z7, w7.heap.size = Z7 := ⟨_, rfl⟩
            have hb1 := H5.out.que.lt
            have hb2 := hg7.size
            rw [World.size_alloc] at hb2
            have HLB : Hid (Bw + 1 < Lb ∧ Lb < Z7 ∧ w.heap.size ≤ g2 ∧ g2 < Bw) := Lib.hid ⟨by omega, by omega, H5.out.sta.1, H5.out.sta.2.1⟩
            have H7 : Hid (FState w g1 c1 g2 c2 Bw (Bw + 1) I p w7 xs q g ∧ Flood n m p xs q lw X ∧ xs.getD X 0 = lw ∧ Told n m p xs lw X 0 ∧ q.length + xs.count (-1) + 1 ≤ gk - 1 ∧ (g < Lb ∨ Z7 ≤ g) ∧ w7.cell? ⟨Lb, 1, none⟩ = some (.int .i64 lw) ∧ IntsO 3 (Lb + 1) Z7 w7 (.slice a7 K c7) A ∧ Z7 ≤ w7.heap.size) := by
              refine Lib.hid ⟨(H5.out.step ((Grew.refl w5).alloc _)).step hg7, HF.out.2.2.2.1, HF.out.2.1, told_zero _ _ _ _ _ _, HF.out.2.2.2.2, .inl (by omega), hg7.cell (by rw [← eLb]; simp), ?_, by omega⟩
              have := hO7
              rw [eZ7, World.size_alloc, eLb] at this
              exact this
            have H0 : Hid (X < I ∧ 0 ≤ lw) := Lib.hid ⟨HF.out.1, HF.out.2.2.1⟩
            rw [eLb]
            have hK4 : K ≤ 4 := by
              have := (around_facts HNM.out.1 HNM.out.2.1 (I := X) (by rw [HNM.out.2.2.1]; exact HF.out.1)).2.2
              rw [eA, eK] at this
              exact this
            clear hO7 hg7 HC eA eK eLb eZ7 hb1 hb2 HF H5
            go_wp2_with (fail)
            go_loopw [46] (fun j wi => ∃ T : Nat, T ≤ K ∧ j = .int .i64 (T : Int) ∧ Hid (∃ xs q g, FState w g1 c1 g2 c2 Bw (Bw + 1) I p wi xs q g ∧ Flood n m p xs q lw X ∧ xs.getD X 0 = lw ∧ Told n m p xs lw X T ∧ q.length + xs.count (-1) + 1 ≤ gk - 1 ∧ (g < Lb ∨ Z7 ≤ g) ∧ wi.cell? ⟨Lb, 1, none⟩ = some (.int .i64 lw) ∧ IntsO 3 (Lb + 1) Z7 wi (.slice a7 K c7) A ∧ Z7 ≤ wi.heap.size)) (fun j _ => K - (intOf j).toNat)
            case atStart => exact ⟨0, Nat.zero_le _, rfl, _, _, _, H7.out⟩
            case round =>
              obtain ⟨T, hT1, rfl, HX⟩ := hrel
              clear H7
              obtain ⟨xs, q, g, HS⟩ : ∃ xs q g, Hid (FState w g1 c1 g2 c2 Bw (Bw + 1) I p wr xs q g ∧ Flood n m p xs q lw X ∧ xs.getD X 0 = lw ∧ Told n m p xs lw X T ∧ q.length + xs.count (-1) + 1 ≤ gk - 1 ∧ (g < Lb ∨ Z7 ≤ g) ∧ wr.cell? ⟨Lb, 1, none⟩ = some (.int .i64 lw) ∧ IntsO 3 (Lb + 1) Z7 wr (.slice a7 K c7) A ∧ Z7 ≤ wr.heap.size) := by
                obtain ⟨xs, q, g, h⟩ := HX.out
                exact ⟨xs, q, g, Lib.hid h⟩
              clear HX
              by_cases hT : T < K
              · obtain ⟨a6, b6, o6, c6, e6, _, ha6, HC6⟩ := HS.out.2.2.2.2.2.2.2.1.toV.shape
                rw [HEK.out] at e6 ha6
                obtain ⟨rfl, rfl⟩ : a7 = a6 ∧ c7 = c6 := by simpa using e6
                obtain rfl := ha6 (by omega)
                have hlc := HC6.out T (by rw [HEK.out]; exact hT)
                have hA := (around_facts HNM.out.1 HNM.out.2.1 (I := X) (by rw [HNM.out.2.2.1]; exact H0.out.1)).1
                rw [HEA.out] at hA
                have hmem : A.getD T 0 ∈ A := by
                  rw [List.getD_eq_getElem?_getD, List.getElem?_eq_getElem (by rw [HEK.out]; exact hT)]; exact List.getElem_mem _
                obtain ⟨y, ey⟩ : ∃ y, A.getD T 0 = y := ⟨_, rfl⟩
                rw [ey] at hlc hmem
                have hy := hA y hmem
                obtain ⟨kk, rfl⟩ := Int.eq_ofNat_of_zero_le hy.1
                have hkI : kk < I := by have := hy.2.1; rw [HNM.out.2.2.1] at this; omega
                have HEY : Hid ((aroundL n m X).getD T 0 = (kk : Int) ∧ T < (aroundL n m X).length) := Lib.hid ⟨by rw [HEA.out]; exact ey, by rw [HEA.out, HEK.out]; exact hT⟩
                have hcB := HS.out.1.box
                have hcw := (HS.out.1.wat.at rfl (i := kk) (by rw [HS.out.1.lens.1]; exact hkI)).1
                clear e6 ha6 HC6 hA hmem ey hy
                by_cases hu : xs.getD kk 0 = -1
                · rw [hu] at hcw
                  have hch := (HS.out.1.hts.at rfl (i := kk) (by rw [HS.out.1.lens.2]; exact hkI)).1
                  have hcl := HS.out.2.2.2.2.2.2.1
                  have HU := Lib.hid hu
                  have HT : Hid (Calls Tryd.prog 53 #[.int .i64 kk, .int .i64 (max lw (p.getD kk 0)), .pointer (some ⟨Bw, 0, none⟩), .pointer (some ⟨Bw + 1, 0, none⟩)] wr.drew fun e w' => e = .returned (.tuple #[]) ∧ (w'.cell? ⟨Lb, 1, none⟩ = some (.int .i64 lw) ∧ w'.cell? ⟨g1, kk, none⟩ = some (.int .i64 (p.getD kk 0))) ∧ Hid (∃ xs q g, FState w g1 c1 g2 c2 Bw (Bw + 1) I p w' xs q g ∧ Flood n m p xs q lw X ∧ xs.getD X 0 = lw ∧ Told n m p xs lw X (T + 1) ∧ q.length + xs.count (-1) + 1 ≤ gk - 1 ∧ (g < Lb ∨ Z7 ≤ g) ∧ w'.cell? ⟨Lb, 1, none⟩ = some (.int .i64 lw) ∧ IntsO 3 (Lb + 1) Z7 w' (.slice (some ⟨b6, o6, none⟩) K c7) A ∧ Z7 ≤ w'.heap.size)) := by
                    refine Lib.hid (((HS.out.1.step ((Grew.refl wr).drew)).call (max lw (p.getD kk 0)) hkI (by have := HS.out.2.1.room; rw [HNM.out.2.2.1] at this; omega) HS.out.2.1.sorted).mono ?_)
                    rintro e w' ⟨rfl, k, g', z1, z2, hF8, hg8, hO8⟩
                    obtain ⟨s1, s2, s3, s4, s5, s6, s7, s8, s9⟩ := HS.out
                    obtain ⟨b1, b2, b3, b4⟩ := HLB.out
                    have hord := s1.ord
                    obtain ⟨f1, f2, f3⟩ := s2.tell HNM.out.1 HNM.out.2.1 (by rw [HNM.out.2.2.1]; exact H0.out.1) s3 H0.out.2 s4 HEY.out.2 HEY.out.1 HU.out z1 z2
                    have hcs := count_set xs kk (max lw (p.getD kk 0)) (by rw [s1.lens.1]; exact hkI) HU.out (by have := H0.out.2; omega)
                    have hsz := hO8.size
                    rw [World.size_drew] at hsz hg8
                    have hc7 : w'.cell? ⟨Lb, 1, none⟩ = some (.int .i64 lw) := by
                      refine hO8.cell ((Grew.refl wr).drew.cell s7) ?_
                      show ¬ (Lb = Bw + 1 ∨ Lb = g ∨ Lb = g2)
                      omega
                    refine ⟨rfl, ⟨hc7, (hF8.hts.at rfl (i := kk) (by rw [hF8.lens.2]; exact hkI)).1⟩, Lib.hid ⟨_, _, g', hF8, f1, f2, f3, by rw [ins_length]; omega, ?_, hc7, ?_, by omega⟩⟩
                    · omega
                    · refine (s8.grew ((Grew.refl wr).drew)).only hO8 fun i i1 i2 => ?_
                      show ¬ (i = Bw + 1 ∨ i = g ∨ i = g2)
                      omega
                  obtain ⟨z, ez⟩ : ∃ z, p.getD kk 0 = z := ⟨_, rfl⟩
                  rw [ez] at hch HT
                  clear HS HEY hu ez
                  go_wp2_with (fail)
                  go_region_held3 (fun W => W.cell? ⟨Lb, 1, none⟩ = some (.int .i64 lw) ∧ W.cell? ⟨g1, kk, none⟩ = some (.int .i64 z))
                    (first
                      | exact ⟨hcl, hch⟩
                      | assumption
                      | exact h8c)
                    (first
                      | (go_at_call 53; refine HT.out.mono ?_; rintro e w8 ⟨rfl, h8c, H8⟩))
                  go_wp2
                  go_roundw
                  case rel => exact ⟨T + 1, by omega, by go_num, H8.out⟩
                  case measure => simp [intOf]; omega
                · have H8 : Hid (∃ xs q g, FState w g1 c1 g2 c2 Bw (Bw + 1) I p wr xs q g ∧ Flood n m p xs q lw X ∧ xs.getD X 0 = lw ∧ Told n m p xs lw X (T + 1) ∧ q.length + xs.count (-1) + 1 ≤ gk - 1 ∧ (g < Lb ∨ Z7 ≤ g) ∧ wr.cell? ⟨Lb, 1, none⟩ = some (.int .i64 lw) ∧ IntsO 3 (Lb + 1) Z7 wr (.slice (some ⟨b6, o6, none⟩) K c7) A ∧ Z7 ≤ wr.heap.size) := by
                    obtain ⟨s1, s2, s3, s4, s5⟩ := HS.out
                    exact Lib.hid ⟨xs, q, g, s1, s2, s3, s2.skip HNM.out.1 HNM.out.2.1 (by rw [HNM.out.2.2.1]; exact H0.out.1) s4 HEY.out.2 HEY.out.1 hu, s5⟩
                  obtain ⟨z, ez⟩ : ∃ z, xs.getD kk 0 = z := ⟨_, rfl⟩
                  rw [ez] at hcw hu
                  clear HS HEY ez
                  go_wp2
                  go_roundw
                  case rel => exact ⟨T + 1, by omega, by go_num, H8.out⟩
                  case measure => simp [intOf]; omega
              · obtain rfl : T = K := by omega
                have H9 : Hid (∃ xs q g low, FState w g1 c1 g2 c2 Bw (Bw + 1) I p wr xs q g ∧ Flood n m p xs q low (n * m) ∧ 0 ≤ low ∧ q.length + xs.count (-1) + 1 ≤ gk - 1) := by
                  obtain ⟨s1, s2, s3, s4, s5, _⟩ := HS.out
                  refine Lib.hid ⟨xs, q, g, lw, s1, s2.next s3 ?_, H0.out.2, s5⟩
                  rw [HEA.out, HEK.out]
                  exact s4
                clear HS
                go_wp2
                go_roundg (gk - 1)
                case measure => omega
                case rel => exact H9.out
end Go.Proofs.YtjibmfignifpcaaDoor
