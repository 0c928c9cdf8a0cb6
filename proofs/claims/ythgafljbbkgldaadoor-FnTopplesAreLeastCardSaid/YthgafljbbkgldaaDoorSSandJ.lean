/- The contracts of spec.AddSand, calm, Burns, filled and ZeroSand. -/
import Derived.Test.YthgafljbbkgldaaDoorSSandI
import Derived.Test.YthgafljbbkgldaaDoorSandZ
import Derived.Test.YthgafljbbkgldaaDoorBurn
namespace Go.Proofs.YthgafljbbkgldaaDoor
open Go.RowKit

set_option maxRecDepth 100000 in
set_option maxHeartbeats 4000000 in
theorem SAddSand_any (va vb : Value) (a b : List (List Int)) (w : World) (hva : RowsV w va a) (hvb : RowsV w vb b) :
    Calls Tryd.prog 32 #[va, vb] w (NewRows w (addX a b)) := by
  have HVA : Hid (∀ q, Calls Tryd.prog 51 #[va] (w.drewN q) fun e w' => e = .returned (.bool (vSand a)) ∧ ∃ k, w' = (w.drewN q).drewN k) := fun q => sValidSand_any va a _ (hva.grew ((Grew.refl _).drewN q))
  have HVB : Hid (∀ q, Calls Tryd.prog 51 #[vb] (w.drewN q) fun e w' => e = .returned (.bool (vSand b)) ∧ ∃ k, w' = (w.drewN q).drewN k) := fun q => sValidSand_any vb b _ (hvb.grew ((Grew.refl _).drewN q))
  have HRA := Lib.hid hva
  have HRB := Lib.hid hvb
  obtain ⟨a1, b1, o1, c1, ea, ⟨hlc1, hcb1⟩, ha1, HC1⟩ := hva.shape
  obtain ⟨a2, b2, o2, c2, eb, ⟨hlc2, hcb2⟩, ha2, HC2⟩ := hvb.shape
  clear hva hvb
  cases hsa : vSand a with
  | false =>
    rw [hsa] at HVA
    have HE : Hid (addX a b = []) := Lib.hid (by rw [addX, if_neg (by simp [addOk, hsa])])
    clear hsa HC1 HC2 ha1 ha2
    subst ea eb
    go_enter Tryd.func32, Tryd.ntmps32
    go_wp2
    go_quiet ((go_at_call 51; with_reducible exact Calls.quiet_of (HVA.out _)))
    go_wp2
    go_ret
    rw [HE.out]
    exact ⟨_, rfl, RowsO.nil _ _ _ _ _, (Grew.refl _).drewN _⟩
  | true =>
    rw [hsa] at HVA
    obtain ⟨Ga, sda, na, _⟩ := sand_of hsa
    obtain rfl := ha1 Ga.n1
    cases hsb : vSand b with
    | false =>
      rw [hsb] at HVB
      have HE : Hid (addX a b = []) := Lib.hid (by rw [addX, if_neg (by simp [addOk, hsa, hsb])])
      clear hsa hsb HC1 HC2 ha1 ha2 Ga sda na
      subst ea eb
      go_enter Tryd.func32, Tryd.ntmps32
      go_wp2
      go_quiet ((go_at_call 51; first | with_reducible exact Calls.quiet_of (HVA.out _) | with_reducible exact Calls.quiet_of (HVB.out _)))
      go_wp2
      go_ret
      rw [HE.out]
      exact ⟨_, rfl, RowsO.nil _ _ _ _ _, (Grew.refl _).drewN _⟩
    | true =>
      rw [hsb] at HVB
      obtain ⟨Gb, sdb, nb, _⟩ := sand_of hsb
      obtain rfl := ha2 Gb.n1
      obtain ⟨u1, hu1, hr1⟩ := HC1.out 0 Ga.n1
      obtain ⟨u2, hu2, hr2⟩ := HC2.out 0 Gb.n1
      rw [Nat.add_zero] at hu1 hu2
      obtain ⟨d1, e1, f1, g1, rfl, _, _, _⟩ := hr1.shape
      obtain ⟨d2, e2, f2, g2, rfl, _, _, _⟩ := hr2.shape
      obtain ⟨ma, ema⟩ : ∃ k, (a.getD 0 []).length = k := ⟨_, rfl⟩
      obtain ⟨mb, emb⟩ : ∃ k, (b.getD 0 []).length = k := ⟨_, rfl⟩
      have hna := Ga.n1
      have hnb := Gb.n1
      rw [ema] at hu1
      rw [emb] at hu2
      by_cases hl : a.length = b.length
      · have hlb : ((a.length : Int) != (b.length : Int)) = false := by simp [hl]
        by_cases hm : ma = mb
        · have hmb : ((ma : Int) != (mb : Int)) = false := by simp [hm]
          have hok : addOk a b = true := by simp only [addOk, hsa, hsb, hl, ema, emb, hm, decide_true, Bool.and_self]
          obtain ⟨hsd, hla, hlb2, hnn⟩ := plus_sandy hok
          have hE : shapeL (calmL a.length (a.getD 0 []).length (plusL a.flatten b.flatten)) (a.getD 0 []).length a.length = addX a b := by rw [addX, if_pos hok]
          have hAC : ∀ W, Grew w W → Calls Tryd.prog 58 #[va, vb] W (NewRows W (addX a b)) := fun W hW => by
            have := addCalm_any va vb a b a.length (a.getD 0 []).length a.flatten b.flatten W (HRA.out.grew hW) (HRB.out.grew hW) Ga (by rw [ema, hm, ← emb]; exact Gb) rfl hl.symm rfl rfl hla hlb2 (fun j hj => by have := hnn j hj; omega) hsd.box
            rw [hE] at this
            exact this
          have HAC := Lib.hid hAC
          have hi0 : (0 : Int) < a.length := by omega
          have hj0 : (0 : Int) < b.length := by omega
          clear hsa hsb HC1 HC2 ha1 ha2 Ga Gb sda sdb na nb hr1 hr2 ema emb hok hsd hla hlb2 hnn hE hAC hl hm hlc1 hlc2
          subst ea eb
          go_enter Tryd.func32, Tryd.ntmps32
          go_wp2
          go_quiet ((go_at_call 51; first | with_reducible exact Calls.quiet_of (HVA.out _) | with_reducible exact Calls.quiet_of (HVB.out _)))
          go_wp2_with (fail)
          refine (HAC.out _ ((Grew.refl _).drewN _)).mono ?_
          rintro e w1 ⟨v1, rfl, hO1, hg1⟩
          obtain ⟨a5, c5, rfl⟩ := hO1.sh
          have HF := Lib.hid (And.intro (hO1.wide ((Grew.refl _).drewN nq).size (Nat.le_refl _)) (((Grew.refl _).drewN nq).trans hg1))
          clear hO1 hg1
          go_wp2
          go_ret
          exact ⟨_, rfl, HF.out.1, HF.out.2⟩
        · have hmb : ((ma : Int) != (mb : Int)) = true := by simp; omega
          have HE : Hid (addX a b = []) := Lib.hid (by rw [addX, if_neg (by simp only [addOk, ema, emb, hm, decide_false, Bool.and_false]; simp)])
          have hi0 : (0 : Int) < a.length := by omega
          have hj0 : (0 : Int) < b.length := by omega
          clear hsa hsb HC1 HC2 ha1 ha2 Ga Gb sda sdb na nb hr1 hr2 ema emb hl hm hlc1 hlc2
          subst ea eb
          go_enter Tryd.func32, Tryd.ntmps32
          go_wp2
          go_quiet ((go_at_call 51; first | with_reducible exact Calls.quiet_of (HVA.out _) | with_reducible exact Calls.quiet_of (HVB.out _)))
          go_wp2
          go_ret
          rw [HE.out]
          exact ⟨_, rfl, RowsO.nil _ _ _ _ _, (Grew.refl _).drewN _⟩
      · have hlb : ((a.length : Int) != (b.length : Int)) = true := by simp; omega
        have HE : Hid (addX a b = []) := Lib.hid (by rw [addX, if_neg (by simp [addOk, hl])])
        clear hsa hsb HC1 HC2 ha1 ha2 Ga Gb sda sdb na nb hr1 hr2 ema emb hl hlc1 hlc2
        subst ea eb
        go_enter Tryd.func32, Tryd.ntmps32
        go_wp2
        go_quiet ((go_at_call 51; first | with_reducible exact Calls.quiet_of (HVA.out _) | with_reducible exact Calls.quiet_of (HVB.out _)))
        go_wp2
        go_ret
        rw [HE.out]
        exact ⟨_, rfl, RowsO.nil _ _ _ _ _, (Grew.refl _).drewN _⟩

set_option maxRecDepth 100000 in
set_option maxHeartbeats 1000000 in
theorem scalm_any (v : Value) (h : List (List Int)) (n m : Nat) (x : List Int) (w : World) (hv : SandV w v h n m x) :
    Calls Tryd.prog 66 #[v] w fun e w' => ∃ B : Bool, e = .returned (.bool B) ∧ (B = true ↔ ∀ i, i < n * m → x.getD i 0 < 4) ∧ Grew w w' := by
  have G := hv.shp
  have HFL : Hid (Calls Tryd.prog 67 #[v] w (FlatPost w x)) := by
    have := sflat_any v h w hv.rows (Nat.le_trans G.n5 (by decide)) (fun r hr => by have := G.len r hr; have := G.m1; have := G.m5; omega)
    rw [hv.flat] at this
    exact this
  have hxl := hv.sandy.len
  have hbox := hv.sandy.box
  obtain ⟨N, eN⟩ : ∃ N, n * m = N := ⟨_, rfl⟩
  have hN16 : N ≤ 16 := by rw [← eN]; exact Nat.mul_le_mul hbox.1.2 hbox.2.2
  rw [eN] at hxl ⊢
  have HXL := Lib.hid hxl
  obtain ⟨a, b, o, c, rfl, _, _, _⟩ := hv.rows.shape
  clear hv G hxl hbox eN
  go_enter Tryd.func66, Tryd.ntmps66
  go_wp2_with (fail)
  refine HFL.out.mono ?_
  rintro e w1 ⟨g1, c1, rfl, hO1, hg1⟩
  rw [HXL.out] at hO1 ⊢
  have H1 := Lib.hid (And.intro hO1 hg1)
  clear hO1 hg1
  go_wp2_with (fail)
  go_loopw [4] (fun i wr => ∃ k : Nat, i = .int .i64 k ∧ k ≤ N ∧ Hid ((∀ j, j < k → x.getD j 0 < 4) ∧ w1 = wr)) (fun i _ => N - (intOf i).toNat)
  case atStart => exact ⟨0, rfl, Nat.zero_le _, fun j hj => absurd hj (Nat.not_lt_zero _), rfl⟩
  case round =>
    obtain ⟨k, rfl, hk, HI⟩ := hrel
    by_cases hlt : k < N
    · have hc := (H1.out.1.at rfl (i := k) (by rw [HXL.out]; exact hlt)).1
      rw [HI.out.2] at hc
      have hki : (k : Int) < N := by omega
      obtain ⟨z, ez⟩ : ∃ z, x.getD k 0 = z := ⟨_, rfl⟩
      rw [ez] at hc
      by_cases h4 : 4 ≤ z
      · have HM : Hid (¬ ∀ i, i < N → x.getD i 0 < 4) := Lib.hid fun h => by have := h k hlt; omega
        clear ez
        go_wp2
        go_ret
        exact ⟨false, rfl, ⟨fun h => absurd h (by simp), fun h => absurd h HM.out⟩, by rw [← HI.out.2]; exact H1.out.2⟩
      · have HQ : Hid ((∀ j, j < k + 1 → x.getD j 0 < 4) ∧ w1 = wr) := ⟨fun j hj => by
          by_cases e : j = k
          · rw [e, ez]; omega
          · exact HI.out.1 j (by omega), HI.out.2⟩
        clear ez
        go_wp2
        go_roundw
        case rel => exact ⟨k + 1, by go_num, by omega, HQ.out⟩
        case measure => simp [intOf]; omega
    · obtain rfl : k = N := by omega
      go_wp2
      go_ret
      exact ⟨true, rfl, ⟨fun _ => HI.out.1, fun _ => rfl⟩, by rw [← HI.out.2]; exact H1.out.2⟩
theorem leftB_one : ∀ (b : List Bool) (i : Nat), i < b.length → b.getD i false = false → leftB (b.set i true) + 1 = leftB b
  | [], i => fun h => absurd h (Nat.not_lt_zero _)
  | z :: b, 0 => fun _ h => by
    have : z = false := by simpa using h
    subst this
    simp [leftB]
  | z :: b, i + 1 => fun h1 h2 => by
    have := leftB_one b i (by simpa using h1) (by simpa using h2)
    cases z <;> simp [leftB] at this ⊢ <;> omega
theorem leftB_none {b : List Bool} {N : Nat} (hl : b.length = N) : leftB b = 0 ↔ ∀ i, i < N → b.getD i false = true := by
  unfold leftB
  rw [List.length_eq_zero_iff, List.filter_eq_nil_iff]
  constructor
  · intro h i hi
    have := h (b.getD i false) (by rw [List.getD_eq_getElem?_getD, List.getElem?_eq_getElem (by omega)]; exact List.getElem_mem _)
    simpa using this
  · intro h z hz
    obtain ⟨i, hi, rfl⟩ := List.getElem_of_mem hz
    have := h i (by omega)
    rw [List.getD_eq_getElem?_getD, List.getElem?_eq_getElem hi] at this
    simpa using this
set_option maxRecDepth 100000 in
set_option maxHeartbeats 8000000 in
theorem SBurns_any (v : Value) (h : List (List Int)) (w : World) (hv : RowsV w v h) :
    Calls Tryd.prog 35 #[v] w (BurnsPost h w) := by
  have HV := Lib.hid (sValidSand_any v h w hv)
  have HR := Lib.hid hv
  cases hs : vSand h with
  | false =>
    rw [hs] at HV
    have HB : Hid (¬ burnsX h) := Lib.hid fun hb => by rw [hb.1] at hs; exact absurd hs (by simp)
    obtain ⟨a, b, o, c, rfl, _, _, _⟩ := hv.shape
    clear hs hv
    go_enter Tryd.func35, Tryd.ntmps35
    go_wp2_with (fail)
    refine HV.out.mono ?_
    rintro e w1 ⟨rfl, hq⟩
    have HQ := Lib.hid (quiet_grew hq)
    clear hq
    go_wp2
    go_ret
    exact ⟨false, rfl, ⟨fun h => absurd h (by simp), fun hb => absurd hb HB.out⟩, HQ.out⟩
  | true =>
    rw [hs] at HV
    have hsv := sandV_of hv hs
    obtain ⟨n, en⟩ : ∃ n, h.length = n := ⟨_, rfl⟩
    obtain ⟨m, em⟩ : ∃ m, (h.getD 0 []).length = m := ⟨_, rfl⟩
    obtain ⟨x, ex⟩ : ∃ x, h.flatten = x := ⟨_, rfl⟩
    have hbx : burnsX h ↔ burnsP n m x := by
      rw [← en, ← em, ← ex]
      exact ⟨fun h => h.2, fun h' => ⟨hs, h'⟩⟩
    rw [en, em, ex] at hsv
    obtain ⟨N, eN⟩ : ∃ N, n * m = N := ⟨_, rfl⟩
    have hbox := hsv.sandy.box
    have hN16 : N ≤ 16 := by rw [← eN]; exact Nat.mul_le_mul hbox.1.2 hbox.2.2
    have hxl := hsv.sandy.len
    rw [eN] at hxl
    have G := hsv.shp
    have HCA := Lib.hid fun W (hW : Grew w W) => scalm_any v h n m x W (hsv.grew hW)
    have HFL : Hid (∀ W, Grew w W → Calls Tryd.prog 67 #[v] W (FlatPost W x)) := fun W hW => by
      have := sflat_any v h W (hv.grew hW) (Nat.le_trans G.n5 (by decide)) (fun r hr => by have := G.len r hr; have := G.m1; have := G.m5; omega)
      rw [ex] at this
      exact this
    have HAR : Hid (∀ (i : Nat) W, Grew w W → i < N → Calls Tryd.prog 68 #[v, .int .i64 i] W (OwnI W (aroundL n m i))) := fun i W hW hi => by
      have := aroundS_any v h i W (hv.grew hW) (by rw [em]; exact G) (by rw [en, em, eN]; exact hi)
      rw [en, em] at this
      exact this
    have HNM := Lib.hid (And.intro eN (And.intro hbox (And.intro hxl hbx)))
    obtain ⟨a, b, o, c, rfl, _, _, _⟩ := hv.shape
    clear hs hv hsv en em ex hbx eN hbox hxl G
    go_enter Tryd.func35, Tryd.ntmps35
    go_wp2_with (fail)
    refine HV.out.mono ?_
    rintro e w1 ⟨rfl, hq⟩
    have HQ := Lib.hid (quiet_grew hq)
    clear hq
    go_wp2_with (fail)
    refine (HCA.out _ HQ.out).mono ?_
    rintro e w2 ⟨C, rfl, hC, hg2⟩
    have HG2 := Lib.hid (HQ.out.trans hg2)
    have HC := Lib.hid hC
    clear hC hg2
    cases C with
    | false =>
      have HB : Hid (¬ burnsX h) := Lib.hid fun hb => by
        have := HC.out.2 (HNM.out.2.2.2.1 hb).1
        exact absurd this (by simp)
      go_wp2
      go_ret
      exact ⟨false, rfl, ⟨fun h => absurd h (by simp), fun hb => absurd hb HB.out⟩, HG2.out⟩
    | true =>
      have HCL := Lib.hid (HC.out.1 rfl)
      go_wp2_with (fail)
      refine (HFL.out _ HG2.out).mono ?_
      rintro e w3 ⟨gx, cx, rfl, hO3, hg3⟩
      rw [HNM.out.2.2.1] at hO3 ⊢
      have H3 := Lib.hid (And.intro hO3 (HG2.out.trans hg3))
      clear hO3 hg3
      go_wp2_with (at_make; refine wpList_make_bools rfl (.tmp 22) (.tmp 22) 55 rfl Tryd.underlying55 Tryd.infoBool rfl rfl rfl rfl (by omega) ?_; intro w4 hO4 hg4 hs4)
      obtain ⟨gB, egB⟩ : ∃ gB, w3.heap.size = gB := ⟨_, rfl⟩
      have H4 : Hid (BoolsO 4 gB (gB + 1) w4 (.slice (some ⟨gB, 0, none⟩) N N) (List.replicate N false) ∧ KeepsOut n m x (List.replicate N false) ∧ Grew w w4 ∧ (∀ i, i < N → w4.cell? ⟨gx, i, none⟩ = some (.int .i64 (x.getD i 0))) ∧ gx < gB ∧ w.heap.size ≤ gB ∧ gB < w4.heap.size) := by
        have h1 := H3.out.1.blk
        have h2 := H3.out.2.size
        rw [egB] at hO4 hs4
        exact ⟨hO4.at1, by have := KeepsOut.nil n m x; rwa [HNM.out.1] at this, H3.out.2.trans hg4, fun i hi => hg4.cell (H3.out.1.at rfl (by rw [HNM.out.2.2.1]; exact hi)).1, by omega, by omega, hs4⟩
      rw [egB]
      have HL0 : Hid (leftB (List.replicate N false) = N) := Lib.hid (by
        unfold leftB
        rw [List.filter_eq_self.2 (fun z hz => by rw [List.eq_of_mem_replicate hz]; rfl), List.length_replicate])
      clear hO4 hg4 hs4 egB
      go_wp2_with (fail)
      go_loopg [5, 6] (N + 1) (fun gk nv av wr => ∃ (bs : List Bool) (A : Bool) (q : Int), nv = .int .i64 q ∧ av = .bool A ∧ q = (N : Int) - leftB bs ∧ leftB bs + (if A = true then 1 else 0) ≤ gk ∧ Hid (BoolsO 4 gB (gB + 1) wr (.slice (some ⟨gB, 0, none⟩) N N) bs ∧ KeepsOut n m x bs ∧ Within gB (gB + 1) w4 wr ∧ (A = false → ∀ i, i < N → bs.getD i false = false → ¬ MayBurn n m x bs i)))
      case atStart => exact ⟨_, true, 0, rfl, rfl, by rw [HL0.out]; omega, by rw [HL0.out]; simp, H4.out.1, H4.out.2.1, Within.refl _ _ _, fun h => absurd h (by simp)⟩
      case round =>
        obtain ⟨bs, A, q, rfl, rfl, hq, hgk, HI⟩ := hrel
        cases A with
        | false =>
          have hE : burnsX h ↔ q = N := by
            rw [HNM.out.2.2.2, hq]
            have hln := leftB_none (b := bs) (N := N) (by rw [HI.out.2.1.1]; exact HNM.out.1)
            constructor
            · intro hb
              have := burn_end hb.2 (fun i hi hbf => HI.out.2.2.2 rfl i (by rw [← HNM.out.1]; exact hi) hbf)
              have := hln.2 (fun i hi => this i (by rw [HNM.out.1]; exact hi))
              omega
            · intro he
              have h0 : leftB bs = 0 := by omega
              exact ⟨HCL.out, HI.out.2.1.all fun i hi => hln.1 h0 i (by rw [← HNM.out.1]; exact hi)⟩
          have HE := Lib.hid hE
          have HG : Hid (Grew w wr) := Lib.hid (Within.grew H4.out.2.2.1 HI.out.2.2.1 H4.out.2.2.2.2.2.1)
          clear hE hq hgk HI
          go_wp2
          go_ret
          refine ⟨_, rfl, ?_, HG.out⟩
          rw [HE.out]
          simp
        | true =>
          obtain ⟨gn, rfl⟩ : ∃ gn : Nat, gn = gk := ⟨_, rfl⟩
          have hgn : leftB bs + 1 ≤ gn := by simpa using hgk
          have HQ0 := Lib.hid hq
          obtain ⟨q0, rfl⟩ : ∃ q0 : Int, q0 = q := ⟨_, rfl⟩
          have hlb : leftB bs ≤ N := by
            have h1 := leftB_le bs
            have h2 := HI.out.2.1.1
            have h3 := HNM.out.1
            omega
          clear hgk hq
          go_wp2_with (fail)
          go_loopg [5, 6, 7] N (fun gk nv av iv wi => ∃ (bj : List Bool) (A : Bool) (q : Int) (i : Nat), nv = .int .i64 q ∧ av = .bool A ∧ iv = .int .i64 i ∧ q = (N : Int) - leftB bj ∧ i ≤ N ∧ N ≤ gk + i ∧ leftB bj ≤ leftB bs ∧ Hid (BoolsO 4 gB (gB + 1) wi (.slice (some ⟨gB, 0, none⟩) N N) bj ∧ KeepsOut n m x bj ∧ Within gB (gB + 1) w4 wi ∧ (A = false → bj = bs ∧ ∀ j, j < i → bs.getD j false = false → ¬ MayBurn n m x bs j) ∧ (A = true → leftB bj < leftB bs)))
          case atStart => exact ⟨bs, false, q0, 0, rfl, rfl, rfl, HQ0.out, Nat.zero_le _, Nat.le_refl _, Nat.le_refl _, HI.out.1, HI.out.2.1, HI.out.2.2.1, fun _ => ⟨rfl, fun j hj => absurd hj (Nat.not_lt_zero _)⟩, fun h => absurd h (by simp)⟩
          case round =>
            obtain ⟨bj, A, q, i, rfl, rfl, rfl, hq, hi, hgi, hlj, HJ⟩ := hrel
            by_cases hlt : i < N
            · obtain ⟨gi, rfl⟩ : ∃ gi : Nat, gi = gk := ⟨_, rfl⟩
              have hG : Grew w wr := Within.grew H4.out.2.2.1 HJ.out.2.2.1 H4.out.2.2.2.2.2.1
              have HA := Lib.hid (HAR.out i wr hG hlt)
              have HKS : Hid (∀ j, j < (aroundL n m i).length → 0 ≤ (aroundL n m i).getD j 0 ∧ (aroundL n m i).getD j 0 < (N : Int)) := fun j hj => by
                have hm : (aroundL n m i).getD j 0 ∈ aroundL n m i := by
                  rw [List.getD_eq_getElem?_getD, List.getElem?_eq_getElem hj]
                  exact List.getElem_mem hj
                have := box_around HNM.out.2.1 i (by rw [HNM.out.1]; exact hlt) _ hm
                rw [HNM.out.1] at this
                exact this
              have HMB : Hid (∀ y : Int, x.getD i 0 = y → (MayBurn n m x bj i ↔ ((keptN (fun k : Int => bj.getD k.toNat false) (aroundL n m i) (aroundL n m i).length : Nat) : Int) ≤ y)) := fun y ey => by
                rw [kept_deg, ← ey]
                rfl
              have hks4 : (aroundL n m i).length ≤ 4 := aroundL_len n m i
              obtain ⟨ks, eks⟩ : ∃ ks, aroundL n m i = ks := ⟨_, rfl⟩
              rw [eks] at HA HKS HMB hks4
              have HQ1 := Lib.hid hq
              clear eks hG hq
              go_wp2_with (fail)
              refine HA.out.mono ?_
              rintro e w5 ⟨a5, c5, rfl, hO5, hg5⟩
              have H5 : Hid (BoolsO 4 gB (gB + 1) w5 (.slice (some ⟨gB, 0, none⟩) N N) bj ∧ Within gB (gB + 1) w4 w5 ∧ IntsV w5 (.slice a5 ks.length c5) ks) := ⟨(HJ.out.1.grew hg5).wide (Nat.le_refl _) (Nat.le_refl _), HJ.out.2.2.1.trans (hg5.within _ _), hO5.toV⟩
              clear hO5 hg5
              obtain ⟨a5', b5, o5, c5', e5, ⟨hlc5, hcb5⟩, ha5, HC5⟩ := H5.out.2.2.shape
              simp only [Value.slice.injEq, true_and] at e5
              obtain ⟨rfl, rfl⟩ := e5
              have HA5 := Lib.hid ha5
              clear ha5 hlc5
              go_wp2_with (fail)
              go_loopg [9, 10] ks.length (fun gk lv jv wk => ∃ j : Nat, lv = .int .i64 (keptN (fun k : Int => bj.getD k.toNat false) ks j : Nat) ∧ jv = .int .i64 j ∧ j ≤ ks.length ∧ ks.length ≤ gk + j ∧ Hid (w5 = wk))
              case atStart => exact ⟨0, by simp [keptN], rfl, Nat.zero_le _, Nat.le_refl _, rfl⟩
              case round =>
                obtain ⟨j, rfl, rfl, hj, hgj, HW⟩ := hrel
                by_cases hjl : j < ks.length
                · obtain rfl := HA5.out (by omega)
                  have hck := HC5.out j hjl
                  have hkr := HKS.out j hjl
                  have hks := keptN_succ (fun k : Int => bj.getD k.toNat false) ks j hjl
                  have hkl := keptN_le (fun k : Int => bj.getD k.toNat false) ks j
                  obtain ⟨K, eK⟩ : ∃ K, ks.getD j 0 = K := ⟨_, rfl⟩
                  rw [eK] at hck hkr hks
                  obtain ⟨Kn, rfl⟩ := Int.eq_ofNat_of_zero_le hkr.1
                  have hKN : Kn < N := by omega
                  have hKi : (Kn : Int) < N := by omega
                  have hbz := (H5.out.1.at rfl (i := Kn) (by rw [HJ.out.2.1.1, HNM.out.1]; exact hKN)).1
                  rw [HW.out] at hck hbz
                  rw [Int.toNat_natCast] at hks
                  obtain ⟨z, ez⟩ : ∃ z, bj.getD Kn false = z := ⟨_, rfl⟩
                  rw [ez] at hbz hks
                  have hji : (j : Int) < ks.length := by omega
                  obtain ⟨lq, elq⟩ : ∃ lq, keptN (fun k : Int => bj.getD k.toNat false) ks j = lq := ⟨_, rfl⟩
                  rw [elq] at hks hkl ⊢
                  have HKQ := Lib.hid hks
                  clear eK ez elq hks
                  cases z with
                  | true =>
                    go_wp2
                    go_roundg (gk - 1)
                    case measure => omega
                    case rel => exact ⟨j + 1, by rw [HKQ.out]; simp, by go_num, by omega, by omega, HW.out⟩
                  | false =>
                    go_wp2
                    go_roundg (gk - 1)
                    case measure => omega
                    case rel => exact ⟨j + 1, by rw [HKQ.out]; go_num, by go_num, by omega, by omega, HW.out⟩
                · obtain rfl : j = ks.length := by omega
                  have hkl := keptN_le (fun k : Int => bj.getD k.toNat false) ks ks.length
                  have hbi := H5.out.1.at rfl (i := i) (by rw [HJ.out.2.1.1, HNM.out.1]; exact hlt)
                  have hxi := H5.out.2.1.cell (H4.out.2.2.2.1 i hlt) (by have := H4.out.2.2.2.2.1; show gx < gB ∨ gB + 1 ≤ gx; omega)
                  have hbi1 := hbi.1
                  have hbi2 := hbi.2
                  rw [HW.out] at hbi1 hbi2 hxi
                  have HM2 := HMB.out _ rfl
                  have hset := leftB_one bj i (by rw [HJ.out.2.1.1, HNM.out.1]; exact hlt)
                  have HB5 : Hid (BoolsO 4 gB (gB + 1) wr (.slice (some ⟨gB, 0, none⟩) N N) bj ∧ Within gB (gB + 1) w4 wr) := by
                    rw [← HW.out]; exact ⟨H5.out.1, H5.out.2.1⟩
                  obtain ⟨y, ey⟩ : ∃ y, x.getD i 0 = y := ⟨_, rfl⟩
                  rw [ey] at hxi HM2
                  obtain ⟨lq, elq⟩ : ∃ lq, keptN (fun k : Int => bj.getD k.toNat false) ks ks.length = lq := ⟨_, rfl⟩
                  rw [elq] at HM2 hkl ⊢
                  have HMI := Lib.hid HM2
                  have hii : (i : Int) < N := by omega
                  obtain ⟨z, ez⟩ : ∃ z, bj.getD i false = z := ⟨_, rfl⟩
                  have HZ := Lib.hid ez
                  rw [ez] at hbi1 hset
                  have hqn := HQ1.out
                  have hln := leftB_le bj
                  rw [HJ.out.2.1.1, HNM.out.1] at hln
                  have hbq : 0 ≤ q ∧ q ≤ 16 := by omega
                  clear ey elq HM2 ez hbi hqn hln
                  cases z with
                  | true =>
                    have HR : Hid (A = false → bj = bs ∧ ∀ j, j < i + 1 → bs.getD j false = false → ¬ MayBurn n m x bs j) := Lib.hid fun hA => by
                      obtain ⟨e1, h1⟩ := HJ.out.2.2.2.1 hA
                      refine ⟨e1, fun j hj hb => ?_⟩
                      by_cases e : j = i
                      · rw [e, ← e1, HZ.out] at hb
                        exact absurd hb (by simp)
                      · exact h1 j (by omega) hb
                    clear hset
                    go_wp2
                    go_roundg (gi - 1)
                    case measure => omega
                    case rel => exact ⟨bj, A, q, i + 1, rfl, rfl, by go_num, HQ1.out, by omega, by omega, hlj, HB5.out.1, HJ.out.2.1, HB5.out.2, HR.out, HJ.out.2.2.2.2⟩
                  | false =>
                    have HS1 := Lib.hid (hset rfl)
                    clear hset
                    by_cases hly : (lq : Int) ≤ y
                    · have HK1 := Lib.hid (HJ.out.2.1.burn HNM.out.2.1 HJ.out.2.1 (by rw [HNM.out.1]; exact hlt) (HMI.out.2 hly))
                      have HF : Hid (BoolsO 4 gB (gB + 1) (wr.setCell ⟨gB, i, none⟩ (.bool true)) (.slice (some ⟨gB, 0, none⟩) N N) (bj.set i true) ∧ Within gB (gB + 1) w4 (wr.setCell ⟨gB, i, none⟩ (.bool true))) := Lib.hid ⟨HB5.out.1.set rfl i true, HB5.out.2.setCell (p := ⟨gB, i, none⟩) (Nat.le_refl _) (Nat.lt_succ_self _) _⟩
                      have q9 : IntKind.i64.wrap (q + 1) = q + 1 := by rw [IntKind.wrap_i64]; omega
                      go_wp2
                      go_roundg (gi - 1)
                      case measure => omega
                      case rel => exact ⟨bj.set i true, true, q + 1, i + 1, rfl, rfl, by go_num, by have := HS1.out; have := HQ1.out; omega, by omega, by omega, by have := HS1.out; omega, HF.out.1, HK1.out, HF.out.2, fun h => absurd h (by simp), fun _ => by have := HS1.out; omega⟩
                    · have HR : Hid (A = false → bj = bs ∧ ∀ j, j < i + 1 → bs.getD j false = false → ¬ MayBurn n m x bs j) := Lib.hid fun hA => by
                        obtain ⟨e1, h1⟩ := HJ.out.2.2.2.1 hA
                        refine ⟨e1, fun j hj hb => ?_⟩
                        by_cases e : j = i
                        · subst e
                          rw [← e1]
                          exact fun hm => hly (HMI.out.1 hm)
                        · exact h1 j (by omega) hb
                      go_wp2
                      go_roundg (gi - 1)
                      case measure => omega
                      case rel => exact ⟨bj, A, q, i + 1, rfl, rfl, by go_num, HQ1.out, by omega, by omega, hlj, HB5.out.1, HJ.out.2.1, HB5.out.2, HR.out, HJ.out.2.2.2.2⟩
            · obtain rfl : i = N := by omega
              have hm2 : leftB bj + (if A = true then 1 else 0) ≤ gn - 1 := by
                cases A with
                | true => have := HJ.out.2.2.2.2 rfl; simp; omega
                | false => simp; omega
              have HR : Hid (A = false → ∀ j, j < i → bj.getD j false = false → ¬ MayBurn n m x bj j) := Lib.hid fun hA => by
                obtain ⟨e1, h1⟩ := HJ.out.2.2.2.1 hA
                rw [e1]
                exact h1
              have HQ1 := Lib.hid hq
              have HM := Lib.hid hm2
              clear hq hm2
              go_wp2
              go_roundg (gn - 1)
              case measure => omega
              case rel => exact ⟨bj, A, q, rfl, rfl, HQ1.out, HM.out, HJ.out.1, HJ.out.2.1, HJ.out.2.2.1, HR.out⟩
end Go.Proofs.YthgafljbbkgldaaDoor
