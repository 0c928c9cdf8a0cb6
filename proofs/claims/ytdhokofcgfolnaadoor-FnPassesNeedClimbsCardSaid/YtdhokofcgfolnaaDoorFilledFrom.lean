/- The contract of impl.filledFrom. -/
import Derived.Test.YtdhokofcgfolnaaDoorQueueF
import Derived.Test.YtdhokofcgfolnaaDoorSink
import Derived.Test.YtdhokofcgfolnaaDoorRepeat
import Derived.Test.YtdhokofcgfolnaaDoorFloodO
import Derived.Laws.EntriesVeiled
import Derived.Lib.MinMax
namespace Go.Proofs.YtdhokofcgfolnaaDoor
open Go.RowKit

def inO (L : List Int) : Nat → Bool := fun x => decide ((x : Int) ∈ L)
theorem inO_iff {L : List Int} {x : Nat} : inO L x = true ↔ (x : Int) ∈ L := by simp [inO]
set_option maxRecDepth 100000 in
set_option maxHeartbeats 4000000 in
theorem filledFrom_any (v vo : Value) (h : List (List Int)) (Ls : List Int) (n m N : Nat) (w : World) (hv : RowsV w v h) (hvo : IntsV w vo Ls) (hS : Steps w) (hg : vGrid h = true) (en : h.length = n) (em : (h.getD 0 []).length = m) (eN : n * m = N)
    (hnd : Ls.Nodup) (hr : ∀ x, x ∈ Ls → 0 ≤ x ∧ x < (N : Int)) (hl0 : 0 < Ls.length) :
    Calls Tryd.prog 63 #[v, vo] w fun e w' => ∃ ws, ws.length = N ∧ LevelO n m (inO Ls) h.flatten ws ∧ OwnI w ws e w' := by
  have G := Grid.of hg
  have hK := fun W (hW : Grew w W) => slicesConcat_any v h W (hv.grew hW) G.n1 (Nat.le_trans G.n5 (by decide)) (fun r hr => by have := G.len r hr; have := G.m1; have := G.m5; omega)
  have hpl := flat_grid_len G
  have hpn : ∀ i, i < N → 0 ≤ h.flatten.getD i 0 ∧ h.flatten.getD i 0 ≤ 12 := fun i hi => grid_num G i (by rw [en, em, eN]; exact hi)
  rw [en, em, eN] at hpl
  obtain ⟨p, ep⟩ : ∃ p, h.flatten = p := ⟨_, rfl⟩
  rw [ep] at hK hpl hpn ⊢
  have HKK := Lib.hid hK
  have hn5 := G.n5
  have hn1 := G.n1
  have hm5 := G.m5
  have hm1 := G.m1
  rw [en] at hn5 hn1
  rw [em] at hm5 hm1
  have hN25 : N ≤ 25 := by rw [← eN]; exact Nat.mul_le_mul hn5 hm5
  have hN1 : 1 ≤ N := by rw [← eN]; exact Nat.mul_pos hn1 hm1
  have HNM := Lib.hid (And.intro hn5 (And.intro hm5 (And.intro eN (And.intro hpl (And.intro hm1 hpn)))))
  have HCB : Hid (∀ (I : Nat) (W : World), Grew w W → I < N → Calls Tryd.prog 70 #[v, .int .i64 I] W (OwnI W (aroundL n m I))) :=
    Lib.hid fun I W hW hI => by
      have := cellsBeside_any v h I W (hv.grew hW) hg (by rw [en, em, eN]; exact hI) (hS.grew hW)
      rw [en, em] at this
      exact this
  have HLS := Lib.hid (And.intro hnd hr)
  have HVO : Hid (∀ W, Grew w W → IntsV W vo Ls) := Lib.hid fun W hW => NumsV.grew hvo hW
  obtain ⟨Q, eQ⟩ : ∃ Q, Ls.length = Q := ⟨_, rfl⟩
  have HQ := Lib.hid eQ
  rw [eQ] at hl0
  obtain ⟨I0, HI0⟩ : ∃ I0 : Nat, Hid (I0 < n * m ∧ inO Ls I0 = true) := by
    have hm : Ls.getD 0 0 ∈ Ls := by rw [List.getD_eq_getElem?_getD, List.getElem?_eq_getElem (by omega)]; exact List.getElem_mem _
    obtain ⟨h1, h2⟩ := hr _ hm
    obtain ⟨I0, e0⟩ := Int.eq_ofNat_of_zero_le h1
    rw [e0] at h2 hm
    exact ⟨I0, Lib.hid ⟨by rw [eN]; omega, inO_iff.2 hm⟩⟩
  obtain ⟨ao, bo, oo, co, rfl, hlo, hao, HCO0⟩ := NumsV.shape hvo
  rw [eQ] at hao hlo ⊢
  obtain rfl := hao hl0
  have HCO : Hid (∀ T, T < Q → w.cell? ⟨bo, oo + T, none⟩ = some (.int .i64 (Ls.getD T 0))) := Lib.hid fun T hT => HCO0.out T (by rw [eQ]; exact hT)
  have hQ := hlo.1
  have hQ2 := hlo.2
  obtain ⟨a, b, o, c, rfl, ⟨hlc, hcb⟩, ha, HCR⟩ := hv.shape
  obtain rfl := ha (by omega)
  rw [en] at hlc HCB HKK ⊢
  clear hv hS hg G ha HCR en em ep eN hK hn5 hm5 hm1 hpl hpn hnd hr hvo hao HCO0 eQ hlo
  go_enter Tryd.func63, Tryd.ntmps63
  go_wp2_with (fail)
  refine (HKK.out _ (Grew.refl _)).mono ?_
  rintro e w1 ⟨g1, c1, rfl, hO1, hg1⟩
  rw [HNM.out.2.2.2.1] at hO1 ⊢
  have H1 := Lib.hid (And.intro hO1 hg1)
  clear hO1 hg1 HKK
  have HREP := Lib.hid (slicesRepeat_any w1.heap.size 0 1 (-1) N (w1.alloc (.cells #[.int .i64 (-1)] 3)) (by simp) hN1 hN25)
  go_wp2_with (fail)
  refine HREP.out.mono ?_
  rintro e w2 ⟨g2, c2, rfl, hO2, hg2⟩
  rw [List.length_replicate] at hO2 ⊢
  have hb2 := hO2.blk
  have hsz1 := H1.out.2.size
  have hs2 := hg2.size
  have H3 : Hid (FState w g1 c1 g2 c2 w2.heap.size (w2.heap.size + 1) N p ((w2.alloc (.cells #[.slice (some ⟨g2, 0, none⟩) N c2] 27)).alloc (.cells #[.func (.func 81) #[] #[], .slice none 0 0] 76)) (List.replicate N (-1)) [] (w2.heap.size + 1)) := by
    have ga : Grew w2 ((w2.alloc (.cells #[.slice (some ⟨g2, 0, none⟩) N c2] 27)).alloc (.cells #[.func (.func 81) #[] #[], .slice none 0 0] 76)) := ((Grew.refl w2).alloc _).alloc _
    have g12 : Grew w1 w2 := ((Grew.refl w1).alloc _).trans hg2
    have hb3 : w1.heap.size + 1 ≤ g2 := by simpa using hb2.1
    refine Lib.hid ⟨((H1.out.1.grew g12).grew ga).wide (Nat.le_refl _) (by omega), (hO2.at1).grew ga, by simp, ⟨none, 0, by simp, by simp, World.frozen?_alloc_at (w := w2.alloc _) _ _ (w2.heap.size + 1) 1 (by simp), by omega, .inl ⟨rfl, rfl, rfl, rfl⟩⟩, .inl rfl, (H1.out.2.trans g12).trans ga, by omega, hb2.2, by omega⟩
  clear hO2 hg2 H1 HREP hb2 hsz1 hs2
  go_wp2_with (fail)
  obtain ⟨w3, ew3⟩ : ∃ w3, (w2.alloc (.cells #[.slice (some ⟨g2, 0, none⟩) N c2] 27)).alloc (.cells #[.func (.func 81) #[] #[], .slice none 0 0] 76) = w3 := ⟨_, rfl⟩
  rw [ew3] at H3 ⊢
  obtain ⟨Bw, eBw⟩ : ∃ Bw, w2.heap.size = Bw := ⟨_, rfl⟩
  rw [eBw] at H3 ⊢
  clear ew3 eBw
  go_loopw [24] (fun i wr => ∃ T : Nat, T ≤ Q ∧ i = .int .i64 (T : Int) ∧ Hid (∃ xs q g, FState w g1 c1 g2 c2 Bw (Bw + 1) N p wr xs q g ∧ RimO n m Ls p xs q T)) (fun i _ => Q - (intOf i).toNat)
  case atStart => exact ⟨0, Nat.zero_le _, rfl, _, _, _, H3.out, by have := rimO_start n m Ls p; rwa [HNM.out.2.2.1] at this⟩
  case round =>
    obtain ⟨T, hT1, rfl, HX⟩ := hrel
    clear H3
    obtain ⟨xs, q, g, HS⟩ : ∃ xs q g, Hid (FState w g1 c1 g2 c2 Bw (Bw + 1) N p wr xs q g ∧ RimO n m Ls p xs q T) := by
      obtain ⟨xs, q, g, h⟩ := HX.out
      exact ⟨xs, q, g, Lib.hid h⟩
    clear HX
    by_cases hT : T < Q
    · have hco := HS.out.1.grew.cell (HCO.out T hT)
      have hmem : Ls.getD T 0 ∈ Ls := by rw [List.getD_eq_getElem?_getD, List.getElem?_eq_getElem (by rw [HQ.out]; exact hT)]; exact List.getElem_mem _
      obtain ⟨y, ey⟩ : ∃ y, Ls.getD T 0 = y := ⟨_, rfl⟩
      rw [ey] at hco hmem
      obtain ⟨h1, h2⟩ := HLS.out.2 y hmem
      obtain ⟨I, rfl⟩ := Int.eq_ofNat_of_zero_le h1
      have hI : I < N := by omega
      have HEY := Lib.hid ey
      clear h1 hmem ey
      have hcI := (HS.out.1.hts.at rfl (i := I) (by rw [HS.out.1.lens.2]; exact hI)).1
      obtain ⟨x, ex⟩ : ∃ x, p.getD I 0 = x := ⟨_, rfl⟩
      rw [ex] at hcI
      have HXE := Lib.hid ex
      clear ex
      have HT := Lib.hid (HS.out.1.call x hI (by have := HS.out.2.room; rw [HNM.out.2.2.1] at this; omega) HS.out.2.sorted)
      go_wp2_with (fail)
      refine HT.out.mono ?_
      rintro e w5 ⟨rfl, k, g', z1, z2, hF5, _, _⟩
      have HR5 : Hid (∃ xs q g, FState w g1 c1 g2 c2 Bw (Bw + 1) N p w5 xs q g ∧ RimO n m Ls p xs q (T + 1)) := by
        refine Lib.hid ⟨_, _, _, hF5, ?_⟩
        have hx := HXE.out
        subst hx
        exact HS.out.2.tell HLS.out.1 (by rw [HQ.out]; exact hT) HEY.out (by rw [HNM.out.2.2.1]; exact hI) (HNM.out.2.2.2.2.2 I hI).1 z1 z2
      clear hF5 z1 z2 HT HS HXE
      go_wp2
      go_roundw
      case rel => exact ⟨T + 1, by omega, by go_num, HR5.out⟩
      case measure => simp [intOf]; omega
    · obtain rfl : T = Q := by omega
      have HX2 : Hid (∃ xs q g low, FState w g1 c1 g2 c2 Bw (Bw + 1) N p wr xs q g ∧ FloodO n m (inO Ls) p xs q low (n * m) ∧ 0 ≤ low ∧ q.length + xs.count (-1) + 1 ≤ N + 1) := by
        refine Lib.hid ⟨xs, q, g, 0, HS.out.1, RimO.flood (by rw [HQ.out]; exact HS.out.2) (fun i _ => inO_iff) (fun i hi => (HNM.out.2.2.2.2.2 i (by rw [← HNM.out.2.2.1]; exact hi)).1), Int.le_refl _, ?_⟩
        have := HS.out.2.room
        rw [HNM.out.2.2.1] at this
        omega
      clear HS
      go_wp2
      go_loopg [36] (N + 1) (fun gk bv wo => Hid (∃ xs q g low, FState w g1 c1 g2 c2 Bw (Bw + 1) N p wo xs q g ∧ FloodO n m (inO Ls) p xs q low (n * m) ∧ 0 ≤ low ∧ q.length + xs.count (-1) + 1 ≤ gk))
      case atStart => exact HX2.out
      case round =>
        clear HX2
        obtain ⟨xs, q, g, low, HS⟩ : ∃ xs q g low, Hid (FState w g1 c1 g2 c2 Bw (Bw + 1) N p wr xs q g ∧ FloodO n m (inO Ls) p xs q low (n * m) ∧ 0 ≤ low ∧ q.length + xs.count (-1) + 1 ≤ gk) := by
          obtain ⟨xs, q, g, low, h⟩ := hrel.out
          exact ⟨xs, q, g, low, Lib.hid h⟩
        clear hrel
        have hgk : 1 ≤ gk := by have := HS.out.2.2.2; omega
        cases q with
        | nil =>
          have HEM : Hid (Calls Tryd.prog 84 #[.pointer (some ⟨Bw + 1, 0, none⟩)] wr fun e w' => e = .returned (.bool true) ∧ w' = wr) := Lib.hid (by simpa using HS.out.1.empty)
          have hbx := HS.out.1.box
          have HRS : Hid (∃ ws, ws.length = N ∧ LevelO n m (inO Ls) p ws ∧ IntsO 3 w.heap.size wr.heap.size wr (.slice (some ⟨g2, 0, none⟩) N c2) ws ∧ Grew w wr) :=
            Lib.hid ⟨xs, HS.out.1.lens.1, HS.out.2.1.level HNM.out.1 HNM.out.2.1 HI0.out.1 HI0.out.2 (fun i hi => (HNM.out.2.2.2.2.2 i (by rw [← HNM.out.2.2.1]; exact hi)).2), HS.out.1.wat.wide HS.out.1.sta.1 (HS.out.1.wat.blkLt), HS.out.1.grew⟩
          clear HS
          go_wp2_with (fail)
          refine HEM.out.mono ?_
          rintro e w4 ⟨rfl, rfl⟩
          go_wp2
          go_ret
          obtain ⟨ws, z1, z2, z3, z4⟩ := HRS.out
          refine ⟨ws, z1, z2, some ⟨g2, 0, none⟩, c2, ret_slice z1.symm, by rw [z1]; exact z3, z4⟩
        | cons e q =>
          have HEM : Hid (Calls Tryd.prog 84 #[.pointer (some ⟨Bw + 1, 0, none⟩)] wr fun e w' => e = .returned (.bool false) ∧ w' = wr) := Lib.hid (by simpa using HS.out.1.empty)
          have HTK := Lib.hid HS.out.1.take
          obtain ⟨e1, lw⟩ := e
          obtain ⟨X, hX, HF⟩ : ∃ X : Nat, e1 = X ∧ Hid (X < N ∧ xs.getD X 0 = lw ∧ 0 ≤ lw ∧ FloodO n m (inO Ls) p xs q lw X ∧ q.length + xs.count (-1) + 1 ≤ gk - 1) := by
            obtain ⟨X, h1, h2, h3, h4, h5⟩ := HS.out.2.1.take
            refine ⟨X, h1, Lib.hid ⟨by rw [← HNM.out.2.2.1]; exact h2, h3, h4, h5, ?_⟩⟩
            have := HS.out.2.2.2
            simp only [List.length_cons] at this
            omega
          subst hX
          clear HS
          go_wp2_with (fail)
          refine HEM.out.mono ?_
          rintro e w4 ⟨rfl, rfl⟩
          go_wp2_with (fail)
          refine HTK.out.mono ?_
          rintro e w5 ⟨rfl, hF5⟩
          have H5 := Lib.hid hF5
          clear hF5 HTK HEM
          go_wp2_with (fail)
          have HC := Lib.hid (HCB.out X (w5.alloc (.cells #[.int .i64 (X : Int), .int .i64 lw] 79)) (H5.out.grew.alloc _) HF.out.1)
          obtain ⟨A, eA⟩ : ∃ A, aroundL n m X = A := ⟨_, rfl⟩
          have HEA := Lib.hid eA
          obtain ⟨K, eK⟩ : ∃ K, A.length = K := ⟨_, rfl⟩
          have HEK := Lib.hid eK
          rw [eA] at HC
          refine HC.out.mono ?_
          rintro e w7 ⟨a7, c7, rfl, hO7, hg7⟩
          rw [eK] at hO7 ⊢
          obtain ⟨Lb, eLb⟩ : ∃ Lb, w5.heap.size = Lb := ⟨_, rfl⟩
          obtain ⟨Z7, eZ7⟩ : ∃ Z7, w7.heap.size = Z7 := ⟨_, rfl⟩
          have hb1 := H5.out.que.lt
          have hb2 := hg7.size
          rw [World.size_alloc] at hb2
          have HLB : Hid (Bw + 1 < Lb ∧ Lb < Z7 ∧ w.heap.size ≤ g2 ∧ g2 < Bw) := Lib.hid ⟨by omega, by omega, H5.out.sta.1, H5.out.sta.2.1⟩
          have H7 : Hid (FState w g1 c1 g2 c2 Bw (Bw + 1) N p w7 xs q g ∧ FloodO n m (inO Ls) p xs q lw X ∧ xs.getD X 0 = lw ∧ Told n m p xs lw X 0 ∧ q.length + xs.count (-1) + 1 ≤ gk - 1 ∧ (g < Lb ∨ Z7 ≤ g) ∧ w7.cell? ⟨Lb, 1, none⟩ = some (.int .i64 lw) ∧ IntsO 3 (Lb + 1) Z7 w7 (.slice a7 K c7) A ∧ Z7 ≤ w7.heap.size) := by
            refine Lib.hid ⟨(H5.out.step ((Grew.refl w5).alloc _)).step hg7, HF.out.2.2.2.1, HF.out.2.1, told_zero _ _ _ _ _ _, HF.out.2.2.2.2, .inl (by omega), hg7.cell (by rw [← eLb]; simp), ?_, by omega⟩
            have := hO7
            rw [eZ7, World.size_alloc, eLb] at this
            exact this
          have H0 : Hid (X < N ∧ 0 ≤ lw) := Lib.hid ⟨HF.out.1, HF.out.2.2.1⟩
          rw [eLb]
          have hK4 : K ≤ 4 := by
            have := (around_facts HNM.out.1 HNM.out.2.1 (I := X) (by rw [HNM.out.2.2.1]; exact HF.out.1)).2.2
            rw [eA, eK] at this
            exact this
          clear hO7 hg7 HC eA eK eLb eZ7 hb1 hb2 HF H5
          go_wp2_with (fail)
          go_loopw [44] (fun j wi => ∃ T : Nat, T ≤ K ∧ j = .int .i64 (T : Int) ∧ Hid (∃ xs q g, FState w g1 c1 g2 c2 Bw (Bw + 1) N p wi xs q g ∧ FloodO n m (inO Ls) p xs q lw X ∧ xs.getD X 0 = lw ∧ Told n m p xs lw X T ∧ q.length + xs.count (-1) + 1 ≤ gk - 1 ∧ (g < Lb ∨ Z7 ≤ g) ∧ wi.cell? ⟨Lb, 1, none⟩ = some (.int .i64 lw) ∧ IntsO 3 (Lb + 1) Z7 wi (.slice a7 K c7) A ∧ Z7 ≤ wi.heap.size)) (fun j _ => K - (intOf j).toNat)
          case atStart => exact ⟨0, Nat.zero_le _, rfl, _, _, _, H7.out⟩
          case round =>
            obtain ⟨T, hT1, rfl, HX⟩ := hrel
            clear H7
            obtain ⟨xs, q, g, HS⟩ : ∃ xs q g, Hid (FState w g1 c1 g2 c2 Bw (Bw + 1) N p wr xs q g ∧ FloodO n m (inO Ls) p xs q lw X ∧ xs.getD X 0 = lw ∧ Told n m p xs lw X T ∧ q.length + xs.count (-1) + 1 ≤ gk - 1 ∧ (g < Lb ∨ Z7 ≤ g) ∧ wr.cell? ⟨Lb, 1, none⟩ = some (.int .i64 lw) ∧ IntsO 3 (Lb + 1) Z7 wr (.slice a7 K c7) A ∧ Z7 ≤ wr.heap.size) := by
              obtain ⟨xs, q, g, h⟩ := HX.out
              exact ⟨xs, q, g, Lib.hid h⟩
            clear HX
            by_cases hT : T < K
            · obtain ⟨a6, b6, o6, c6, e6, _, ha6, HC6⟩ := HS.out.2.2.2.2.2.2.2.1.toV.shape
              rw [HEK.out] at e6 ha6
              obtain ⟨rfl, rfl⟩ : a7 = a6 ∧ c7 = c6 := by simpa using e6
              obtain rfl := ha6 (by omega)
              have hlc := HC6.out T (by rw [HEK.out]; exact hT)
              have hA := (around_facts HNM.out.1 HNM.out.2.1 (I := X) (by rw [HNM.out.2.2.1]; exact H0.out.1)).1
              rw [HEA.out] at hA
              have hmem : A.getD T 0 ∈ A := by
                rw [List.getD_eq_getElem?_getD, List.getElem?_eq_getElem (by rw [HEK.out]; exact hT)]; exact List.getElem_mem _
              obtain ⟨y, ey⟩ : ∃ y, A.getD T 0 = y := ⟨_, rfl⟩
              rw [ey] at hlc hmem
              have hy := hA y hmem
              obtain ⟨kk, rfl⟩ := Int.eq_ofNat_of_zero_le hy.1
              have hkI : kk < N := by have := hy.2.1; rw [HNM.out.2.2.1] at this; omega
              have HEY : Hid ((aroundL n m X).getD T 0 = (kk : Int) ∧ T < (aroundL n m X).length) := Lib.hid ⟨by rw [HEA.out]; exact ey, by rw [HEA.out, HEK.out]; exact hT⟩
              have hcB := HS.out.1.box
              have hcw := (HS.out.1.wat.at rfl (i := kk) (by rw [HS.out.1.lens.1]; exact hkI)).1
              clear e6 ha6 HC6 hA hmem ey hy
              by_cases hu : xs.getD kk 0 = -1
              · rw [hu] at hcw
                have hch := (HS.out.1.hts.at rfl (i := kk) (by rw [HS.out.1.lens.2]; exact hkI)).1
                have hcl := HS.out.2.2.2.2.2.2.1
                have HU := Lib.hid hu
                have HT : Hid (Calls Tryd.prog 82 #[.int .i64 kk, .int .i64 (max lw (p.getD kk 0)), .pointer (some ⟨Bw, 0, none⟩), .pointer (some ⟨Bw + 1, 0, none⟩)] wr.drew fun e w' => e = .returned (.tuple #[]) ∧ (w'.cell? ⟨Lb, 1, none⟩ = some (.int .i64 lw) ∧ w'.cell? ⟨g1, kk, none⟩ = some (.int .i64 (p.getD kk 0))) ∧ Hid (∃ xs q g, FState w g1 c1 g2 c2 Bw (Bw + 1) N p w' xs q g ∧ FloodO n m (inO Ls) p xs q lw X ∧ xs.getD X 0 = lw ∧ Told n m p xs lw X (T + 1) ∧ q.length + xs.count (-1) + 1 ≤ gk - 1 ∧ (g < Lb ∨ Z7 ≤ g) ∧ w'.cell? ⟨Lb, 1, none⟩ = some (.int .i64 lw) ∧ IntsO 3 (Lb + 1) Z7 w' (.slice (some ⟨b6, o6, none⟩) K c7) A ∧ Z7 ≤ w'.heap.size)) := by
                  refine Lib.hid (((HS.out.1.step ((Grew.refl wr).drew)).call (max lw (p.getD kk 0)) hkI (by have := HS.out.2.1.room; rw [HNM.out.2.2.1] at this; omega) HS.out.2.1.sorted).mono ?_)
                  rintro e w' ⟨rfl, k, g', z1, z2, hF8, hg8, hO8⟩
                  obtain ⟨s1, s2, s3, s4, s5, s6, s7, s8, s9⟩ := HS.out
                  obtain ⟨b1, b2, b3, b4⟩ := HLB.out
                  have hord := s1.ord
                  obtain ⟨f1, f2, f3⟩ := s2.tell HNM.out.1 HNM.out.2.1 (by rw [HNM.out.2.2.1]; exact H0.out.1) s3 H0.out.2 s4 HEY.out.2 HEY.out.1 HU.out z1 z2
                  have hcs := count_set xs kk (max lw (p.getD kk 0)) (by rw [s1.lens.1]; exact hkI) HU.out (by have := H0.out.2; omega)
                  have hsz := hO8.size
                  rw [World.size_drew] at hsz hg8
                  have hc7 : w'.cell? ⟨Lb, 1, none⟩ = some (.int .i64 lw) := by
                    refine hO8.cell ((Grew.refl wr).drew.cell s7) ?_
                    show ¬ (Lb = Bw + 1 ∨ Lb = g ∨ Lb = g2)
                    omega
                  refine ⟨rfl, ⟨hc7, (hF8.hts.at rfl (i := kk) (by rw [hF8.lens.2]; exact hkI)).1⟩, Lib.hid ⟨_, _, g', hF8, f1, f2, f3, by rw [ins_length]; omega, ?_, hc7, ?_, by omega⟩⟩
                  · omega
                  · refine (s8.grew ((Grew.refl wr).drew)).only hO8 fun i i1 i2 => ?_
                    show ¬ (i = Bw + 1 ∨ i = g ∨ i = g2)
                    omega
                obtain ⟨z, ez⟩ : ∃ z, p.getD kk 0 = z := ⟨_, rfl⟩
                rw [ez] at hch HT
                clear HS HEY hu ez
                go_wp2_with (fail)
                go_region_held3 (fun W => W.cell? ⟨Lb, 1, none⟩ = some (.int .i64 lw) ∧ W.cell? ⟨g1, kk, none⟩ = some (.int .i64 z))
                  (first
                    | exact ⟨hcl, hch⟩
                    | assumption
                    | exact h8c)
                  (first
                    | (go_at_call 82; refine HT.out.mono ?_; rintro e w8 ⟨rfl, h8c, H8⟩))
                go_wp2
                go_roundw
                case rel => exact ⟨T + 1, by omega, by go_num, H8.out⟩
                case measure => simp [intOf]; omega
              · have H8 : Hid (∃ xs q g, FState w g1 c1 g2 c2 Bw (Bw + 1) N p wr xs q g ∧ FloodO n m (inO Ls) p xs q lw X ∧ xs.getD X 0 = lw ∧ Told n m p xs lw X (T + 1) ∧ q.length + xs.count (-1) + 1 ≤ gk - 1 ∧ (g < Lb ∨ Z7 ≤ g) ∧ wr.cell? ⟨Lb, 1, none⟩ = some (.int .i64 lw) ∧ IntsO 3 (Lb + 1) Z7 wr (.slice (some ⟨b6, o6, none⟩) K c7) A ∧ Z7 ≤ wr.heap.size) := by
                  obtain ⟨s1, s2, s3, s4, s5⟩ := HS.out
                  exact Lib.hid ⟨xs, q, g, s1, s2, s3, s2.skip HNM.out.1 HNM.out.2.1 (by rw [HNM.out.2.2.1]; exact H0.out.1) s4 HEY.out.2 HEY.out.1 hu, s5⟩
                obtain ⟨z, ez⟩ : ∃ z, xs.getD kk 0 = z := ⟨_, rfl⟩
                rw [ez] at hcw hu
                clear HS HEY ez
                go_wp2
                go_roundw
                case rel => exact ⟨T + 1, by omega, by go_num, H8.out⟩
                case measure => simp [intOf]; omega
            · obtain rfl : T = K := by omega
              have H9 : Hid (∃ xs q g low, FState w g1 c1 g2 c2 Bw (Bw + 1) N p wr xs q g ∧ FloodO n m (inO Ls) p xs q low (n * m) ∧ 0 ≤ low ∧ q.length + xs.count (-1) + 1 ≤ gk - 1) := by
                obtain ⟨s1, s2, s3, s4, s5, _⟩ := HS.out
                refine Lib.hid ⟨xs, q, g, lw, s1, s2.next s3 ?_, H0.out.2, s5⟩
                rw [HEA.out, HEK.out]
                exact s4
              clear HS
              go_wp2
              go_roundg (gk - 1)
              case measure => omega
              case rel => exact H9.out
end Go.Proofs.YtdhokofcgfolnaaDoor
