/- The contract of spec.TerraceCost. -/
import Derived.Test.YtlifjhhjkcmneaaSTerr
namespace Go.Proofs.Ytlifjhhjkcmneaa
open Go.RowKit

set_option maxRecDepth 100000 in
set_option maxHeartbeats 8000000 in
theorem STerraceCost_any (v : Value) (p : List Int) (k : Int) (w : World) (hv : IntsV w v p) :
    Calls Try.prog 30 #[v, .int .i64 k] w fun e w' => e = .returned (.int .i64 (terrX p k)) ∧ Grew w w' := by
  have HV := Lib.hid (sValidProfile0_any v p w hv)
  have HVV := Lib.hid hv
  obtain ⟨a, b, o, c, rfl, ⟨hlc, hcb⟩, ha, HC⟩ := hv.shape
  clear hv
  unfold terrX
  cases hp : vProf p with
  | false =>
    have HP := Lib.hid hp
    have hok : terrOk p k = false := by simp [terrOk, hp]
    rw [hok]
    clear hp ha hok
    go_enter Try.func30, Try.ntmps30
    go_wp2_with (fail)
    refine HV.out.mono ?_
    rw [HP.out]
    rintro e w1 ⟨rfl, rfl⟩
    go_wp2
    go_ret
    exact ⟨rfl, Grew.refl _⟩
  | true =>
    have HP := Lib.hid hp
    cases hR : inR k 1 9 with
    | false =>
      have HR := Lib.hid hR
      have hok : terrOk p k = false := by
        simp only [inR] at hR
        simp only [terrOk, hR, Bool.and_false]
      rw [hok]
      clear hp ha hok hR
      go_enter Try.func30, Try.ntmps30
      go_wp2_with (fail)
      refine HV.out.mono ?_
      rw [HP.out]
      rintro e w1 ⟨rfl, rfl⟩
      go_wp2_with (fail)
      refine (inRange_any _ _ _ _).mono ?_
      rw [HR.out]
      rintro e w1 ⟨rfl, rfl⟩
      go_wp2
      go_ret
      exact ⟨rfl, Grew.refl _⟩
    | true =>
      have HR := Lib.hid hR
      have hok : terrOk p k = true := by
        simp only [inR] at hR
        simp only [terrOk, hp, hR, Bool.and_true]
      obtain ⟨_, hk1, hk9⟩ := terrOk_iff.1 hok
      rw [hok]
      have h1 := ((vProf_iff p).1 hp).1
      have h9 := ((vProf_iff p).1 hp).2.1
      obtain rfl := ha h1
      obtain ⟨f, ef⟩ : ∃ f : Nat → Int, (fun i => p.getD i 0) = f := ⟨_, rfl⟩
      have hf : ∀ i, p.getD i 0 = f i := fun i => by rw [← ef]
      rw [ef]
      obtain ⟨K, rfl⟩ := Int.eq_ofNat_of_zero_le (show 0 ≤ k by omega)
      have hbf : ∀ i, i < p.length → 0 ≤ f i ∧ f i ≤ 12 := fun i hi => by rw [← hf i]; exact riseP_bd hp i hi
      have HTB := Lib.hid (terrT_bd f p.length hbf h9)
      have HMB := Lib.hid (mnS_bd f p.length hbf h9)
      have HNX := Lib.hid (mixS_next f · p.length · hbf h9)
      have HTK := Lib.hid (fun e => terrL_take f p.length e hbf h9)
      have HLB := Lib.hid (fun s e he => levT_bd f p.length s e hbf he)
      have HFC : Hid (∀ (s e : Nat) (W : World), Grew w W → s < e → e ≤ p.length → Calls Try.prog 72 #[.slice (some ⟨b, o + s, none⟩) (e - s) (c - s)] W fun e' w' => e' = .returned (.int .i64 (levT f s e)) ∧ ∃ q, w' = W.drewN q) := fun s e W hW hse hel => by
        have hpb := part_bd hp s e hel
        have := flatCost_any _ _ W (IntsV.sub (HVV.out.grew hW) s e hse hel) hpb.2 hpb.1
        rw [levL_is p f hf s e hel] at this
        exact this
      obtain ⟨n, en⟩ : ∃ n, p.length = n := ⟨_, rfl⟩
      obtain ⟨n1, en1⟩ : ∃ n1, n + 1 = n1 := ⟨_, rfl⟩
      have HN1 := Lib.hid en1
      rw [en] at HTB HMB HNX HTK HLB HFC HV HVV h1 h9 hlc ⊢
      have hn1 : n1 ≤ 10 := by omega
      have hn2 : 2 ≤ n1 := by omega
      have HCC : Hid (∀ i, i < n → w.cell? ⟨b, o + i, none⟩ = some (.int .i64 (p.getD i 0))) := by rw [← en]; exact HC.out
      clear hp ha hok hR ef hf hbf en HC
      go_enter Try.func30, Try.ntmps30
      go_wp2_with (fail)
      refine HV.out.mono ?_
      rw [HP.out]
      rintro e w1 ⟨rfl, rfl⟩
      go_wp2_with (fail)
      refine (inRange_any _ _ _ _).mono ?_
      rw [HR.out]
      rintro e w1 ⟨rfl, rfl⟩
      have H0 : Hid (IntsO 3 w.heap.size (w.alloc (.cells #[.int .i64 0] 3)).heap.size (w.alloc (.cells #[.int .i64 0] 3)) (.slice (some ⟨w.heap.size, 0, none⟩) 1 1) ((terrL f 1 n).take 1) ∧ Grew w (w.alloc (.cells #[.int .i64 0] 3))) := by
        have e0 : (terrL f 1 n).take 1 = [0] := by
          have hl : 0 < (terrL f 1 n).length := by rw [terrL_len]; omega
          have := terrL_at f 1 n 0 (by omega)
          rw [terrT_zero] at this
          rw [show (1 : Nat) = 0 + 1 by rfl, List.take_succ_eq_append_getElem hl]
          simp only [List.getD_eq_getElem?_getD, List.getElem?_eq_getElem hl, Option.getD_some] at this
          rw [this]; rfl
        rw [e0]
        refine ⟨?_, (Grew.refl _).alloc _⟩
        have := IntsO.lit 3 w.heap.size w [0] #[.int .i64 0] rfl (Nat.le_refl _) (by decide)
        simpa using this
      go_wp2_with (fail)
      go_loopw [5, 6] (fun bv i wr => ∃ e g cg : Nat, bv = .slice (some ⟨g, 0, none⟩) e cg ∧ 1 ≤ e ∧ e ≤ n1 ∧ i = .int .i64 e ∧ Hid (IntsO 3 w.heap.size wr.heap.size wr bv ((terrL f 1 n).take e) ∧ Grew w wr)) (fun _ i _ => n1 - (intOf i).toNat)
      case atStart => exact ⟨1, _, _, rfl, by omega, by omega, rfl, H0.out⟩
      case round =>
        obtain ⟨e, g, cg, rfl, he1, hen, rfl, HI⟩ := hrel
        clear H0
        by_cases hlt : e < n1
        · have hen' : e ≤ n := by have := HN1.out; omega
          have hFC := HFC.out 0 e wr HI.out.2 (by omega) hen'
          rw [Nat.add_zero, Nat.sub_zero, Nat.sub_zero] at hFC
          have htk := HTK.out e he1 hen'
          have hlb := HLB.out 0 e hen'
          obtain ⟨y, ey⟩ : ∃ y, levT f 0 e = y := ⟨_, rfl⟩
          rw [ey] at hFC htk hlb
          have HFC1 := Lib.hid hFC
          have HTK1 := Lib.hid htk
          have HLN : Hid (((terrL f 1 n).take e).length = e) := by show _ = _; simp [terrL_len]; omega
          obtain ⟨X, hX⟩ : ∃ X, (terrL f 1 n).take e = X := ⟨_, rfl⟩
          have HX := Lib.hid hX
          rw [hX] at HLN HTK1
          have r1 : (e : Int) ≤ n := by omega
          have r2 : (0 : Int) ≤ e := by omega
          have r3 : e ≤ c := by omega
          have r4 : (e : Int) ≤ c := by omega
          have hsz := HI.out.2.size
          clear ey hFC htk hX
          go_wp2_with (fail)
          refine HFC1.out.mono ?_
          rintro e9 w2 ⟨rfl, hq⟩
          have HQ := Lib.hid (quiet_grew hq)
          have hsz2 := HQ.out.size
          have HO : Hid (IntsO 3 w.heap.size w2.heap.size w2 (.slice (some ⟨g, 0, none⟩) e cg) X) := by
            rw [← HX.out]; exact (HI.out.1.grew HQ.out).wide (Nat.le_refl _) hsz2
          clear hq
          go_wp2_with (at_builtin; refine wpList_append_int rfl (.tmp 25) (.tmp 30) 23 rfl Try.underlying23 Try.infoE rfl rfl rfl HO.out (by rw [HLN.out]; omega) (by omega) ?_; rw [HLN.out]; intro g5 c5 w5 hO5 hW5 hS5)
          have HF : Hid (IntsO 3 w.heap.size w5.heap.size w5 (.slice (some ⟨g5, 0, none⟩) (e + 1) c5) ((terrL f 1 n).take (e + 1)) ∧ Grew w w5) := by
            rw [← HTK1.out]; exact ⟨hO5, Within.grew (HI.out.2.trans HQ.out) hW5 (Nat.le_refl _)⟩
          clear hO5 hW5 hS5
          go_wp2
          go_roundw
          case rel => exact ⟨e + 1, g5, c5, rfl, by omega, by omega, by go_num, HF.out⟩
          case measure => simp [intOf]; omega
        · obtain rfl : e = n1 := by omega
          have hne : ¬ (e : Int) ≤ n := by have := HN1.out; omega
          have H1 : Hid (IntsV wr (.slice (some ⟨g, 0, none⟩) e cg) (terrL f (0 + 1) n) ∧ Grew w wr) := by
            have h := HI.out.1.toV
            rw [List.take_of_length_le (by rw [terrL_len]; have := HN1.out; omega)] at h
            exact ⟨h, HI.out.2⟩
          clear HI
          go_wp2_with (fail)
          go_loopw [1, 5] (fun kv bv wr => ∃ j kk gb cb : Nat, kv = .int .i64 kk ∧ bv = .slice (some ⟨gb, 0, none⟩) e cb ∧ kk + j = K ∧ 1 ≤ kk ∧ Hid (IntsV wr bv (terrL f (j + 1) n) ∧ Grew w wr)) (fun kv _ _ => (intOf kv).toNat)
          case atStart => exact ⟨0, K, _, _, rfl, rfl, rfl, by omega, H1.out⟩
          case round =>
            obtain ⟨j, kk, gb, cb, rfl, rfl, hjk, hkk, HJ⟩ := hrel
            clear H1
            have HJK := Lib.hid hjk
            clear hjk
            obtain ⟨wo, rfl⟩ : ∃ wo : World, wo = wr := ⟨_, rfl⟩
            by_cases hgo : 1 < kk
            · have hgo' : (1 : Int) < kk := by omega
              have hC : Hid (∀ i, i < (terrL f (j + 1) n).length → (wo.alloc (.cells #[] 3)).cell? ⟨gb, 0 + i, none⟩ = some (.int .i64 ((terrL f (j + 1) n).getD i 0))) := fun i hi => by
                rw [Nat.zero_add]
                exact ((Grew.refl _).alloc _).cell (HJ.out.1.at i hi)
              have H0 : Hid (IntsO 3 wo.heap.size (wo.heap.size + 1) (wo.alloc (.cells #[] 3)) (.slice (some ⟨wo.heap.size, 0, none⟩) 0 0) []) :=
                Lib.hid (by have := IntsO.lit 3 wo.heap.size wo [] #[] rfl (Nat.le_refl _) (by decide); simpa using this)
              have HLT : Hid ((terrL f (j + 1) n).length = e) := by rw [terrL_len]; exact HN1.out
              go_wp2_with (at_builtin; refine wpList_append_rowOf rfl (.tmp 36) (.tmp 37) 23 rfl Try.underlying23 Try.infoE rfl rfl HLT.out.symm hC.out H0.out (by rw [HLT.out]; simp; omega) (by simp) ?_; intro g5 c5' w5 hO5 hW5)
              rw [HLT.out]
              simp only [List.length_nil, Nat.zero_add, List.nil_append, HLT.out] at hO5 ⊢
              have hs5 := hW5.size
              simp at hs5
              obtain ⟨b5, c7, e5, hb5lo, hb5hi⟩ : ∃ b c, (Value.slice g5 e c5') = .slice (some ⟨b, 0, none⟩) e c ∧ wo.heap.size ≤ b ∧ b < w5.heap.size := by
                obtain ⟨b, c, e', h1, h2, _⟩ := hO5.pos (by rw [HLT.out]; omega)
                rw [HLT.out] at e'
                exact ⟨b, c, e', h1, h2⟩
              simp only [Value.slice.injEq] at e5
              obtain ⟨rfl, _, rfl⟩ := e5
              have H5 : Hid (IntsO 3 wo.heap.size w5.heap.size w5 (.slice (some ⟨b5, 0, none⟩) e c5') (mixS f j n 1 0) ∧ Grew wo w5) := by
                rw [mixS_start]; exact ⟨hO5, Within.grew ((Grew.refl _).alloc _) hW5 (Nat.le_refl _)⟩
              clear hO5 hW5 H0 hC HLT
              go_wp2
              go_loopw [8] (fun i wr => ∃ t : Nat, 1 ≤ t ∧ t ≤ e ∧ i = .int .i64 t ∧ Hid (IntsO 3 wo.heap.size w5.heap.size wr (.slice (some ⟨b5, 0, none⟩) e c5') (mixS f j n t 0) ∧ Grew wo wr)) (fun i _ => e - (intOf i).toNat)
              case atStart => exact ⟨1, by omega, by omega, rfl, H5.out⟩
              case round =>
                obtain ⟨t, ht1, hte, rfl, HM⟩ := hrel
                clear H5
                by_cases hlt2 : t < e
                · have htn : t ≤ n := by have := HN1.out; omega
                  have htn' : (t : Int) ≤ n := by omega
                  go_wp2
                  go_loopw [9] (fun i wr => ∃ A : Nat, 1 ≤ A ∧ A ≤ t ∧ i = .int .i64 A ∧ Hid (IntsO 3 wo.heap.size w5.heap.size wr (.slice (some ⟨b5, 0, none⟩) e c5') (mixS f j n t (A - 1)) ∧ Grew wo wr)) (fun i _ => t - (intOf i).toNat)
                  case atStart => exact ⟨1, by omega, by omega, rfl, HM.out⟩
                  case round =>
                    obtain ⟨A, hA1, hAt, rfl, HQ⟩ := hrel
                    by_cases hlt3 : A < t
                    · have hn' : t < n + 1 := by omega
                      obtain ⟨hel, hfr⟩ := HQ.out.1.at rfl (i := t) (by rw [mixS_len]; exact hn')
                      rw [mixS_at _ _ _ _ _ _ hn', if_neg (Nat.lt_irrefl t), if_pos rfl] at hel
                      have hcs := HQ.out.2.cell (HJ.out.1.at A (by rw [terrL_len]; omega))
                      rw [terrL_at _ _ _ _ (by omega)] at hcs
                      have hset := mixS_set f j n t (A - 1) hn'
                      have hb1 := HMB.out j t (A - 1) htn (by omega)
                      have hb2 := HTB.out (j + 1) A (by omega)
                      have hb3 := HLB.out A t htn
                      rw [show A - 1 + 1 = A by omega] at hset
                      have HCL : Hid (∀ W, Grew wr W → Calls Try.prog 72 #[.slice (some ⟨b, o + A, none⟩) (t - A) (c - A)] W fun e' w' => e' = .returned (.int .i64 (levT f A t)) ∧ Grew W w') := fun W hW =>
                        (HFC.out A t W (HJ.out.2.trans (HQ.out.2.trans hW)) hlt3 htn).mono fun _ _ ⟨h1, h2⟩ => ⟨h1, quiet_grew h2⟩
                      obtain ⟨m, em⟩ : ∃ m, mnTo (terrT f (j + 1) t) (fun d => terrT f (j + 1) (d + 1) + levT f (d + 1) t) (A - 1) = m := ⟨_, rfl⟩
                      obtain ⟨z, et⟩ : ∃ z, terrT f (j + 1) A = z := ⟨_, rfl⟩
                      obtain ⟨l, el⟩ : ∃ l, levT f A t = l := ⟨_, rfl⟩
                      rw [em] at hel hset hb1
                      rw [et] at hcs hset hb2
                      rw [el] at hset hb3 HCL
                      have HSET := Lib.hid hset
                      have w1' : IntKind.i64.wrap (z + l) = z + l := wrap_small' _ (by omega) (by omega)
                      have r1 : (t : Int) < e := by omega
                      have r2 : (0 : Int) ≤ t := by omega
                      have r3 : (A : Int) < e := by omega
                      have r4 : (0 : Int) ≤ A := by omega
                      have r5 : (A : Int) ≤ t := by omega
                      have r6 : (t : Int) ≤ c := by omega
                      have r8 : t - A ≤ c - A := by omega
                      have r9 : ¬ c - A = 0 := by omega
                      have r10 : A < e := by omega
                      have r11 : A ≤ c := by omega
                      have r12 : t ≤ c := by omega
                      have r13 : ¬ c = A := by omega
                      have r14 : (A : Int) < t := by omega
                      clear em et el hset
                      go_wp2
                      go_region_with (first | (go_at_call 72; refine (HCL.out _ (by first | exact (Grew.refl wr).drew | exact (Grew.refl wr).drewN _ | exact Grew.refl wr)).mono ?_; rintro e9 w4 ⟨rfl, hg4⟩; have hel4 := hg4.cell hel; have hcs4 := hg4.cell hcs; have hfr4 := (hg4.within (b5 + 1) (b5 + 1)).frozen hel hfr (.inl (Nat.lt_succ_self b5)); have HG4 : Hid (Grew wr w4) := Lib.hid (by first | exact hg4 | exact ((Grew.refl wr).drew).trans hg4); clear hg4))
                      all_goals
                        have HNx : Hid (IntsO 3 wo.heap.size w5.heap.size (w4.setCell ⟨b5, t, none⟩ (.int .i64 (min m (z + l)))) (.slice (some ⟨b5, 0, none⟩) e c5') (mixS f j n t A) ∧ Grew wo (w4.setCell ⟨b5, t, none⟩ (.int .i64 (min m (z + l))))) := by
                          have h := (HQ.out.1.grew HG4.out).set rfl t (min m (z + l))
                          rw [HSET.out] at h
                          exact ⟨h, Within.grew (HQ.out.2.trans HG4.out) ((Within.refl b5 (b5 + 1) _).setCell (p := ⟨b5, t, none⟩) (Nat.le_refl _) (Nat.lt_succ_self _) _) hb5lo⟩
                        clear hel hfr hcs hel4 hcs4 hfr4
                        go_wp2
                        go_roundw
                        case rel => exact ⟨A + 1, by omega, by omega, by go_num, HNx.out⟩
                        case measure => simp [intOf]; omega
                    · obtain rfl : A = t := by omega
                      have HNx : Hid (IntsO 3 wo.heap.size w5.heap.size wr (.slice (some ⟨b5, 0, none⟩) e c5') (mixS f j n (A + 1) 0) ∧ Grew wo wr) := by
                        rw [← HNX.out j A ht1 htn]; exact HQ.out
                      go_wp2
                      go_roundw
                      case rel => exact ⟨A + 1, by omega, by omega, by go_num, HNx.out⟩
                      case measure => simp [intOf]; omega
                · obtain rfl : t = e := by omega
                  have HNx : Hid (IntsV wr (.slice (some ⟨b5, 0, none⟩) t c5') (terrL f (j + 1 + 1) n) ∧ Grew w wr) := by
                    have h := HM.out.1.toV
                    rw [← HN1.out, mixS_end] at h
                    rw [← HN1.out]
                    exact ⟨h, HJ.out.2.trans HM.out.2⟩
                  obtain ⟨k1, ek1⟩ : ∃ k1, kk = k1 + 1 := ⟨kk - 1, by omega⟩
                  have ekk : (kk : Int) - 1 = (k1 : Int) := by omega
                  have HK1 : Hid (k1 + (j + 1) = K ∧ 1 ≤ k1 ∧ k1 < kk) := ⟨by have := HJK.out; omega, by omega, by omega⟩
                  have w2' : IntKind.i64.wrap (k1 : Int) = (k1 : Int) := wrap_small' _ (by omega) (by have := HJK.out; omega)
                  have hne2 : ¬ (t : Int) ≤ n := by omega
                  clear ek1
                  go_wp2
                  go_roundw
                  case rel => exact ⟨j + 1, k1, b5, c5', by go_num, rfl, HK1.out.1, HK1.out.2.1, HNx.out⟩
                  case measure => have := HK1.out.2.2; simp [intOf]; omega
            · obtain rfl : kk = 1 := by omega
              have hce := HJ.out.1.at n (by rw [terrL_len]; omega)
              rw [terrL_at _ _ _ _ (by omega)] at hce
              have hjK : j + 1 = K := by have := HJK.out; omega
              rw [hjK] at hce
              obtain ⟨y, ey⟩ : ∃ y, terrT f K n = y := ⟨_, rfl⟩
              rw [ey] at hce
              have HE : Hid (y = terrT f ((K : Nat) : Int).toNat n) := by rw [← ey]; congr 1
              have HG := Lib.hid HJ.out.2
              have r4 : (n : Int) < e := by omega
              have r5 : n < e := by omega
              clear ey hjK
              go_wp2
              go_ret
              exact ⟨ret_int HE.out, HG.out⟩
end Go.Proofs.Ytlifjhhjkcmneaa
