/- The contracts of impl.sumsByTwos and spec.halved. -/
import Derived.Test.YtkeeonjbkfgeeaaSumsOf
import Derived.Test.YtkeeonjbkfgeeaaSSumsOf
import Derived.Test.YtkeeonjbkfgeeaaTwosM
import Derived.Lib.MinMax
namespace Go.Proofs.Ytkeeonjbkfgeeaa
open Go.RowKit

/-- What is read of a table. -/
theorem tab_cells {w : World} {v : Value} {n m : Nat} {f : Nat → Nat → Int} (hv : RowsV w v (tabR n m f)) (hn : 1 ≤ n) (hm : 1 ≤ m) : ∃ b o c, v = .slice (some ⟨b, o, none⟩) n c ∧ (n ≤ c ∧ c ≤ 9223372036854775807) ∧
    Hid (∀ r, r < n → ∃ g o' c', w.cell? ⟨b, o + r, none⟩ = some (.slice (some ⟨g, o', none⟩) m c') ∧ m ≤ c' ∧ c' ≤ 9223372036854775807 ∧ ∀ j, j < m → w.cell? ⟨g, o' + j, none⟩ = some (.int .i64 (f r j))) := by
  obtain ⟨a, b, o, c, rfl, hl, ha, HC⟩ := hv.shape
  rw [tabR_len] at hl ha HC ⊢
  obtain rfl := ha hn
  refine ⟨b, o, c, rfl, hl, Lib.hid fun r hr => ?_⟩
  obtain ⟨u, hc, hu⟩ := HC.out r hr
  obtain ⟨a1, b1, o1, c1, rfl, ⟨h1, h2⟩, ha1, HR⟩ := hu.shape
  rw [tabR_rowlen _ _ _ _ hr] at hc h1 ha1 HR
  obtain rfl := ha1 hm
  refine ⟨b1, o1, c1, hc, h1, h2, fun j hj => ?_⟩
  have := HR.out j hj
  rwa [tabR_at _ _ _ _ _ hr hj] at this

set_option maxRecDepth 100000 in
set_option maxHeartbeats 4000000 in
theorem sumsByTwos_any (v : Value) (n m : Nat) (f : Nat → Nat → Int) (w : World) (hv : RowsV w v (tabR n m f)) (hn1 : 1 ≤ n) (hn5 : n ≤ 5) (hm1 : 1 ≤ m) (hm5 : m ≤ 5) (ho : Outer n m f) (hB : ∀ a b, 0 ≤ f a b ∧ f a b ≤ 1000) :
    Calls Try.prog 55 #[v] w (NewRows w (tabR (hlf n) (hlf m) (quadS f))) := by
  obtain ⟨n2, en2⟩ : ∃ n2, hlf n = n2 := ⟨_, rfl⟩
  obtain ⟨m2, em2⟩ : ∃ m2, hlf m = m2 := ⟨_, rfl⟩
  have hn2 : 1 ≤ n2 ∧ n2 ≤ 3 := by rw [← en2]; unfold hlf; omega
  have hm2 : 1 ≤ m2 ∧ m2 ≤ 3 := by rw [← em2]; unfold hlf; omega
  have HNO : Hid (Calls Try.prog 40 #[.int .i64 (((n : Int) + 1) / 2), .int .i64 (((m : Int) + 1) / 2)] w (NewRows w (tabR n2 m2 fun _ _ => 0))) := by
    have e1 : ((n : Int) + 1) / 2 = (n2 : Int) := by rw [← en2]; unfold hlf; omega
    have e2 : ((m : Int) + 1) / 2 = (m2 : Int) := by rw [← em2]; unfold hlf; omega
    rw [e1, e2]
    exact noughts_any n2 m2 w (by omega) hm2.1 (by omega)
  have HST : Hid (∀ r c, r < n → c < m → (tabR n2 m2 (quadS (maskS f r c))).set (r / 2) (((tabR n2 m2 (quadS (maskS f r c))).getD (r / 2) []).set (c / 2) (quadS (maskS f r c) (r / 2) (c / 2) + f r c)) = tabR n2 m2 (quadS (maskS f r (c + 1)))) := by
    rw [← en2, ← em2]
    exact Lib.hid fun r c hr hc => half_set f n m r c hr hc
  have HMR := Lib.hid (mask_row ho)
  have HMA := Lib.hid (mask_all ho 0)
  have HBB : Hid (∀ r c i j, 0 ≤ quadS (maskS f r c) i j ∧ quadS (maskS f r c) i j ≤ 4000) := Lib.hid fun r c i j => quadS_bd (fun a b => maskS_bd (by omega) hB r c a b) i j
  have HFB := Lib.hid hB
  have HH2 : Hid (∀ r, r < n → r / 2 < n2) := Lib.hid fun r hr => by rw [← en2]; unfold hlf; omega
  have HH3 : Hid (∀ r, r < m → r / 2 < m2) := Lib.hid fun r hr => by rw [← em2]; unfold hlf; omega
  obtain ⟨b, o, c, rfl, ⟨hlc, hcb⟩, HC⟩ := tab_cells hv hn1 hm1
  obtain ⟨g0, o0, c0, hc0, _, _, _⟩ := HC.out 0 hn1
  rw [Nat.add_zero] at hc0
  have hi0 : (0 : Int) < n := by omega
  have hn0 : 0 < n := hn1
  obtain ⟨hn21, hn23⟩ := hn2
  obtain ⟨hm21, hm23⟩ := hm2
  rw [en2, em2]
  clear hv ho hB en2 em2
  go_enter Try.func55, Try.ntmps55
  go_wp2_with (fail)
  (with_reducible refine HNO.out.mono ?_)
  rintro e w1 ⟨v1, rfl, hO1, hg1⟩
  obtain ⟨g, c1, rfl, hgl, hgh, _, _⟩ := hO1.pos (by rw [tabR_len]; omega)
  rw [tabR_len] at hO1 ⊢
  have H0 : Hid (RowsO 27 3 w.heap.size w1.heap.size w1 (.slice (some ⟨g, 0, none⟩) n2 c1) (tabR n2 m2 (quadS (maskS f 0 0))) ∧ Grew w w1) := by
    rw [mask_zero]
    exact ⟨hO1, hg1⟩
  clear hO1 hg1 hc0 hi0 HNO
  go_wp2
  go_loopw [21] (fun i wr => ∃ r : Nat, r ≤ n ∧ i = .int .i64 r ∧ Hid (RowsO 27 3 w.heap.size w1.heap.size wr (.slice (some ⟨g, 0, none⟩) n2 c1) (tabR n2 m2 (quadS (maskS f r 0))) ∧ Grew w wr)) (fun i _ => n - (intOf i).toNat)
  case atStart => exact ⟨0, Nat.zero_le _, rfl, H0⟩
  case round =>
    obtain ⟨r, hr, rfl, HI⟩ := hrel
    clear H0
    by_cases hlt : r < n
    · obtain ⟨gr, gro, cr, hcr', _, _, hcells⟩ := HC.out r hlt
      have hcr := HI.out.2.cell hcr'
      have HCL := Lib.hid hcells
      have hri : (r : Int) < n := by omega
      clear hcr' hcells
      go_wp2
      go_loopw [28] (fun i wi => ∃ k : Nat, k ≤ m ∧ i = .int .i64 k ∧ Hid (RowsO 27 3 w.heap.size w1.heap.size wi (.slice (some ⟨g, 0, none⟩) n2 c1) (tabR n2 m2 (quadS (maskS f r k))) ∧ Grew w wi)) (fun i _ => m - (intOf i).toNat)
      case atStart => exact ⟨0, Nat.zero_le _, rfl, HI⟩
      case round =>
        obtain ⟨k, hk, rfl, HJ⟩ := hrel
        by_cases hkt : k < m
        · have hki : (k : Int) < m := by omega
          have hcx := HJ.out.2.cell (HCL.out k hkt)
          have hr2 := HH2.out r hlt
          have hk2 := HH3.out k hkt
          have hst := HST.out r k hlt hkt
          have hbq := HBB.out r k (r / 2) (k / 2)
          have hbf := HFB.out r k
          obtain ⟨R, eR⟩ : ∃ R, r / 2 = R := ⟨_, rfl⟩
          obtain ⟨K, eK⟩ : ∃ K, k / 2 = K := ⟨_, rfl⟩
          rw [eR, eK] at hst hbq
          rw [eR] at hr2
          rw [eK] at hk2
          obtain ⟨u, hcu, hU⟩ := HJ.out.1.at rfl (i := R) (by rw [tabR_len]; exact hr2)
          obtain ⟨g2, d2, rfl, hg2l, _, _, _⟩ := hU.pos (by rw [tabR_rowlen _ _ _ _ hr2]; omega)
          have q4 := (hU.at rfl (i := K) (by rw [tabR_rowlen _ _ _ _ hr2]; exact hk2))
          rw [tabR_at _ _ _ _ _ hr2 hk2] at q4
          obtain ⟨q4, q5⟩ := q4
          rw [tabR_rowlen _ _ _ _ hr2] at hcu
          have HSE : Hid (RowsO 27 3 w.heap.size w1.heap.size (wr.setCell ⟨g2, K, none⟩ (.int .i64 (quadS (maskS f r k) R K + f r k))) (.slice (some ⟨g, 0, none⟩) n2 c1) (tabR n2 m2 (quadS (maskS f r (k + 1)))) ∧ Grew w (wr.setCell ⟨g2, K, none⟩ (.int .i64 (quadS (maskS f r k) R K + f r k)))) := by
            have := HJ.out.1.set (by decide) rfl (i := R) (by rw [tabR_len]; exact hr2) hcu K (quadS (maskS f r k) R K + f r k)
            rw [hst] at this
            exact ⟨this, Within.grew (lo := g2) (hi := g2 + 1) HJ.out.2 ((Within.refl _ _ _).setCell (p := ⟨g2, K, none⟩) (Nat.le_refl _) (Nat.lt_succ_self _) _) hg2l⟩
          obtain ⟨y, ey⟩ : ∃ y, quadS (maskS f r k) R K = y := ⟨_, rfl⟩
          obtain ⟨x, ex⟩ : ∃ x, f r k = x := ⟨_, rfl⟩
          rw [ey] at q4 hbq HSE
          rw [ex] at hcx hbf HSE
          have t1 : (r : Int).tdiv 2 = (R : Int) := by rw [Int.tdiv_eq_ediv_of_nonneg (by omega)]; omega
          have t2 : (r : Int) / 2 = (R : Int) := by omega
          have t3 : (k : Int).tdiv 2 = (K : Int) := by rw [Int.tdiv_eq_ediv_of_nonneg (by omega)]; omega
          have t4 : (k : Int) / 2 = (K : Int) := by omega
          have z1 : (R : Int) < n2 := by omega
          have z2 : (K : Int) < m2 := by omega
          have wq : IntKind.i64.wrap (y + x) = y + x := IntWalk.i64_in _ (by omega)
          clear eR eK hst ey ex hU
          go_wp2
          clear t1 t2 t3 t4 wq
          go_roundw
          case rel => exact ⟨k + 1, by omega, by go_num, HSE.out⟩
          case measure => simp [intOf]; omega
        · obtain rfl : k = m := by omega
          have HNx : Hid (RowsO 27 3 w.heap.size w1.heap.size wr (.slice (some ⟨g, 0, none⟩) n2 c1) (tabR n2 m2 (quadS (maskS f (r + 1) 0))) ∧ Grew w wr) := by
            rw [← HMR.out r]; exact HJ.out
          go_wp2
          go_roundw
          case rel => exact ⟨r + 1, by omega, by go_num, HNx.out⟩
          case measure => simp [intOf]; omega
    · obtain rfl : r = n := by omega
      have HF : Hid (RowsO 27 3 w.heap.size wr.heap.size wr (.slice (some ⟨g, 0, none⟩) n2 c1) (tabR n2 m2 (quadS f)) ∧ Grew w wr) := by
        have := HI.out
        rw [HMA.out] at this
        exact ⟨this.1.own, this.2⟩
      go_wp2
      go_ret
      exact ⟨_, rfl, HF.out⟩

set_option maxRecDepth 100000 in
set_option maxHeartbeats 8000000 in
theorem halved_any (v : Value) (n m : Nat) (f : Nat → Nat → Int) (w : World) (hv : RowsV w v (tabR n m f)) (hn1 : 1 ≤ n) (hn5 : n ≤ 5) (hm1 : 1 ≤ m) (hm5 : m ≤ 5) (ho : Outer n m f) (hB : ∀ a b, 0 ≤ f a b ∧ f a b ≤ 1000) :
    Calls Try.prog 58 #[v] w (NewRows w (tabR (hlf n) (hlf m) (quadS f))) := by
  obtain ⟨n2, en2⟩ : ∃ n2, hlf n = n2 := ⟨_, rfl⟩
  obtain ⟨m2, em2⟩ : ∃ m2, hlf m = m2 := ⟨_, rfl⟩
  have hn2 : 1 ≤ n2 ∧ n2 ≤ 3 := by rw [← en2]; unfold hlf; omega
  have hm2 : 1 ≤ m2 ∧ m2 ≤ 3 := by rw [← em2]; unfold hlf; omega
  have HLN : Hid (∀ k, k < n2 ↔ 2 * k < n) := Lib.hid fun k => by rw [← en2]; unfold hlf; omega
  have HLM : Hid (∀ k, k < m2 ↔ 2 * k < m) := Lib.hid fun k => by rw [← em2]; unfold hlf; omega
  have HBB : Hid (∀ r c i j, 0 ≤ quadS (maskS f r c) i j ∧ quadS (maskS f r c) i j ≤ 4000) := Lib.hid fun r c i j => quadS_bd (fun a b => maskS_bd (by omega) hB r c a b) i j
  have HFB := Lib.hid hB
  have HOO := Lib.hid ho
  obtain ⟨b, o, c, rfl, ⟨hlc, hcb⟩, HC⟩ := tab_cells hv hn1 hm1
  obtain ⟨g0, o0, c0, hc0, _, _, _⟩ := HC.out 0 hn1
  rw [Nat.add_zero] at hc0
  have HC0 := Lib.hid hc0
  have hi0 : (0 : Int) < n := by omega
  have hn0 : 0 < n := hn1
  obtain ⟨hn21, hn23⟩ := hn2
  obtain ⟨hm21, hm23⟩ := hm2
  rw [en2, em2]
  clear hv ho hB en2 em2 hc0
  go_enter Try.func58, Try.ntmps58
  go_wp2_with (fail)
  have H0 : Hid (RowsO 27 3 w.heap.size (w.alloc (.cells #[] 27)).heap.size (w.alloc (.cells #[] 27)) (.slice (some ⟨w.heap.size, 0, none⟩) 0 0) ((tabR n2 m2 (quadS f)).take 0) ∧ Grew w (w.alloc (.cells #[] 27))) :=
    ⟨by simpa using RowsO.lit0 27 3 w.heap.size w (Nat.le_refl _), (Grew.refl w).alloc _⟩
  go_loopg [3, 4] n2 (fun gk v i wr => ∃ (k R g c' : Nat), v = .slice (some ⟨g, 0, none⟩) k c' ∧ i = .int .i64 (R : Int) ∧ Hid (R = 2 * k) ∧ R ≤ 6 ∧ k ≤ n2 ∧ n2 ≤ gk + k ∧ Hid (RowsO 27 3 w.heap.size wr.heap.size wr v ((tabR n2 m2 (quadS f)).take k) ∧ Grew w wr))
  case atStart => exact ⟨0, 0, _, _, rfl, rfl, rfl, by omega, Nat.zero_le _, Nat.le_refl _, H0.out⟩
  case round =>
    obtain ⟨k, R, g, c', rfl, rfl, HR, hR6, hk1, hk2, HI⟩ := hrel
    clear H0
    by_cases hlt : k < n2
    · obtain ⟨wo, rfl⟩ : ∃ wo : World, wo = wr := ⟨_, rfl⟩
      obtain ⟨gn, rfl⟩ : ∃ gn : Nat, gn = gk := ⟨_, rfl⟩
      have hsw := HI.out.2.size
      have hRn : R < n := by have := (HLN.out k).1 hlt; have := HR.out; omega
      have hRi : (R : Int) < n := by omega
      have HTL : Hid (((tabR n2 m2 (quadS f)).take k).length = k) := Lib.hid (by rw [List.length_take, tabR_len]; omega)
      obtain ⟨E, eE⟩ : ∃ E, min (R + 2) n = E := ⟨_, rfl⟩
      have hE1 : R < E := by omega
      have hE2 : E ≤ n := by omega
      have HE : Hid (E ≤ R + 2 ∧ (R + 2 ≤ E ∨ n ≤ E)) := Lib.hid (by omega)
      have HME : Hid (min ((R : Int) + 2) (n : Int) = (E : Int)) := Lib.hid (by omega)
      clear eE
      go_wp2_with (fail)
      have H0 : Hid (IntsO 3 wo.heap.size (wo.alloc (.cells #[] 3)).heap.size (wo.alloc (.cells #[] 3)) (.slice (some ⟨wo.heap.size, 0, none⟩) 0 0) ((rowT (quadS f) m2 k).take 0) ∧ Grew wo (wo.alloc (.cells #[] 3))) :=
        ⟨by simpa using IntsO.lit 3 wo.heap.size wo [] #[] rfl (Nat.le_refl _) (by decide), (Grew.refl wo).alloc _⟩
      go_loopg [5, 6] m2 (fun gk v i wi => ∃ (j C g' c' : Nat), v = .slice (some ⟨g', 0, none⟩) j c' ∧ i = .int .i64 (C : Int) ∧ Hid (C = 2 * j) ∧ C ≤ 6 ∧ j ≤ m2 ∧ m2 ≤ gk + j ∧ Hid (IntsO 3 wo.heap.size wi.heap.size wi v ((rowT (quadS f) m2 k).take j) ∧ Grew wo wi))
      case atStart => exact ⟨0, 0, _, _, rfl, rfl, rfl, by omega, Nat.zero_le _, Nat.le_refl _, H0.out⟩
      case round =>
        obtain ⟨j, C, g', c2, rfl, rfl, HCj, hC6, hj1, hj2, HX⟩ := hrel
        clear H0
        have hc0 := (HI.out.2.trans HX.out.2).cell HC0.out
        by_cases hltx : j < m2
        · obtain ⟨wi, rfl⟩ : ∃ wi : World, wi = wr := ⟨_, rfl⟩
          obtain ⟨gm, rfl⟩ : ∃ gm : Nat, gm = gk := ⟨_, rfl⟩
          have hCm : C < m := by have := (HLM.out j).1 hltx; have := HCj.out; omega
          have hCi : (C : Int) < m := by omega
          obtain ⟨F, eF⟩ : ∃ F, min (C + 2) m = F := ⟨_, rfl⟩
          have hF1 : C < F := by omega
          have hF2 : F ≤ m := by omega
          have HF : Hid (F ≤ C + 2 ∧ (C + 2 ≤ F ∨ m ≤ F)) := Lib.hid (by omega)
          have HMF : Hid (min ((C : Int) + 2) (m : Int) = (F : Int)) := Lib.hid (by omega)
          have HST : Hid ((0 : Int) = quadS (maskS f R C) k j) := Lib.hid (by rw [HR.out, HCj.out, mask_start])
          have hGW := Lib.hid (HI.out.2.trans HX.out.2)
          clear eF
          go_wp2
          go_loop [7, 8] (fun s i => ∃ (I : Nat) (x : Int), R ≤ I ∧ I ≤ E ∧ i = .int .i64 (I : Int) ∧ s = .int .i64 x ∧ Hid (x = quadS (maskS f I C) k j)) (fun _ i => E - (intOf i).toNat)
          case atStart => exact ⟨R, 0, Nat.le_refl _, by omega, rfl, rfl, HST.out⟩
          case round =>
            obtain ⟨I, x, hI1, hI2, rfl, rfl, HS⟩ := hrel
            clear HST
            have hmE := HME.out
            by_cases hIE : I < E
            · have hIEi : (I : Int) < E := by omega
              have hIn : (I : Int) < n := by omega
              have hIn' : I < n := by omega
              obtain ⟨gr, gro, cr, hcr', _, _, hcells⟩ := HC.out I hIn'
              have hcr := hGW.out.cell hcr'
              have HCL := Lib.hid hcells
              clear hcr' hcells
              go_wp2
              go_loop [7, 9] (fun s i => ∃ (J : Nat) (x : Int), C ≤ J ∧ J ≤ F ∧ i = .int .i64 (J : Int) ∧ s = .int .i64 x ∧ Hid (x = quadS (maskS f I J) k j)) (fun _ i => F - (intOf i).toNat)
              case atStart => exact ⟨C, x, Nat.le_refl _, by omega, rfl, rfl, HS.out⟩
              case round =>
                obtain ⟨J, x, hJ1, hJ2, rfl, rfl, HS2⟩ := hrel
                have hmF := HMF.out
                by_cases hJF : J < F
                · have hJFi : (J : Int) < F := by omega
                  have hJm : (J : Int) < m := by omega
                  have hcx := hGW.out.cell (HCL.out J (by omega))
                  have hnx := mask_next f I J k j
                  rw [if_pos (by have := HR.out; have := HCj.out; have := HE.out.1; have := HF.out.1; omega), ← HS2.out] at hnx
                  have hb1 := HBB.out I J k j
                  rw [← HS2.out] at hb1
                  have hb2 := HFB.out I J
                  obtain ⟨y, ey⟩ : ∃ y, f I J = y := ⟨_, rfl⟩
                  rw [ey] at hcx hnx hb2
                  have HNX := Lib.hid hnx.symm
                  clear ey hnx
                  go_wp2
                  go_round
                  case rel => exact ⟨J + 1, x + y, by omega, by omega, by go_num, rfl, HNX.out⟩
                  case measure => simp [intOf]; omega
                · obtain rfl : J = F := by omega
                  have HNX : Hid (x = quadS (maskS f (I + 1) C) k j) := Lib.hid (by
                    rw [HS2.out, HCj.out]
                    exact mask_block HOO.out k j I J (by have := HF.out.2; have := HCj.out; omega))
                  have hJn : ¬ (J : Int) < J := by omega
                  go_wp2
                  go_round
                  case rel => exact ⟨I + 1, x, by omega, by omega, by go_num, rfl, HNX.out⟩
                  case measure => simp [intOf]; omega
            · obtain rfl : I = E := by omega
              have hx : x = quadS f k j := by
                rw [HS.out]
                exact mask_end HOO.out k j I C (by have := HE.out.2; have := HR.out; omega)
              have HNX := rowT_next (quadS f) m2 k j hltx
              rw [← hx] at HNX
              have HNXH := Lib.hid HNX
              have HRL : Hid (((rowT (quadS f) m2 k).take j).length = j) := Lib.hid (by rw [List.length_take, rowT_len]; omega)
              have hJn : ¬ (I : Int) < I := by omega
              obtain ⟨RT, eRT⟩ : ∃ RT, (rowT (quadS f) m2 k).take j = RT := ⟨_, rfl⟩
              rw [eRT] at HX HNXH HRL
              clear hx HNX eRT
              go_wp2_with (at_builtin; refine wpList_append_int rfl (.tmp 57) (.tmp 59) 27 rfl Try.underlying27 Try.infoI rfl rfl (by simp) HX.out.1 (by rw [HRL.out]; omega) HX.out.2.size ?_; intro g5 c5 w5 hO5 hW5 hS5)
              have HF5 : Hid (IntsO 3 wo.heap.size w5.heap.size w5 (.slice (some ⟨g5, 0, none⟩) (j + 1) c5) ((rowT (quadS f) m2 k).take (j + 1)) ∧ Grew wo w5) := by
                rw [HNXH.out, HRL.out] at hO5
                exact ⟨hO5, hW5.grew HX.out.2 (Nat.le_refl _)⟩
              rw [HRL.out]
              clear hO5 hW5 hmE
              go_wp2
              go_roundg (gm - 1)
              case measure => omega
              case rel => exact ⟨j + 1, C + 2, g5, c5, rfl, by go_num, by have := HCj.out; show _ = _; omega, by omega, by omega, by omega, HF5.out⟩
        · obtain rfl : j = m2 := by omega
          have hCm : ¬ (C : Int) < m := by have := (HLM.out j); have := HCj.out; omega
          have HNXH := Lib.hid (tabR_next n2 j (quadS f) k hlt)
          have HRA : Hid ((rowT (quadS f) j k).take j = rowT (quadS f) j k) := Lib.hid (List.take_of_length_le (by rw [rowT_len]; omega))
          obtain ⟨LT, eLT⟩ : ∃ LT, (tabR n2 j (quadS f)).take k = LT := ⟨_, rfl⟩
          rw [eLT] at HI HNXH HTL
          clear eLT
          go_wp2_with (at_builtin; refine wpList_append_row rfl (.tmp 61) (.tmp 63) 23 rfl (by decide) Try.underlying23 Try.infoIs rfl rfl (by simp) (HI.out.1.grew HX.out.2) HX.out.1 (by rw [HTL.out]; omega) (by have := HX.out.2.size; omega) hsw ?_; intro g5 c5 w5 hO5 hW5 hS5)
          have HF5 : Hid (RowsO 27 3 w.heap.size w5.heap.size w5 (.slice (some ⟨g5, 0, none⟩) (k + 1) c5) ((tabR n2 j (quadS f)).take (k + 1)) ∧ Grew w w5) := by
            rw [HRA.out, HNXH.out, HTL.out] at hO5
            exact ⟨hO5, hW5.grew (HI.out.2.trans HX.out.2) (Nat.le_refl _)⟩
          rw [HTL.out]
          clear hO5 hW5
          go_wp2
          go_roundg (gn - 1)
          case measure => omega
          case rel => exact ⟨k + 1, R + 2, g5, c5, rfl, by go_num, by have := HR.out; show _ = _; omega, by omega, by omega, by omega, HF5.out⟩
    · obtain rfl : k = n2 := by omega
      have hRn : ¬ (R : Int) < n := by have := (HLN.out k); have := HR.out; omega
      have HFF : Hid (RowsO 27 3 w.heap.size wr.heap.size wr (.slice (some ⟨g, 0, none⟩) k c') (tabR k m2 (quadS f)) ∧ Grew w wr) := by
        have := HI.out
        rw [List.take_of_length_le (by rw [tabR_len]; omega)] at this
        exact this
      go_wp2
      go_ret
      exact ⟨_, rfl, HFF.out⟩
end Go.Proofs.Ytkeeonjbkfgeeaa
