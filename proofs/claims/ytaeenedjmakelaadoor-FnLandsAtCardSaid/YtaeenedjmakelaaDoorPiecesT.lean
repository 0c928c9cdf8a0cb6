/- The contracts of impl.firstsOfPieces and piecesOf over cells that touch. Written by gen_tc.py out of XPieces2 and XPiecesW. -/
import Derived.Test.YtaeenedjmakelaaDoorTouching
import Derived.Test.YtaeenedjmakelaaDoorPiecesW
namespace Go.Proofs.YtaeenedjmakelaaDoor.Tc
open Go.RowKit

/-- Both tables of steps lie where they are laid. -/
def Steps (w : World) : Prop := Go.Proofs.YtaeenedjmakelaaDoor.Steps w ∧ Corners w
theorem Steps.grew {w w' : World} (h : Steps w) (hg : Grew w w') : Steps w' := ⟨Go.Proofs.YtaeenedjmakelaaDoor.Steps.grew h.1 hg, h.2.grew hg⟩
theorem cellsBeside_any (v : Value) (h : List (List Int)) (I : Nat) (w : World) (hv : RowsV w v h) (hg : vGrid h = true) (hI : I < h.length * (h.getD 0 []).length) (hS : Steps w) :
    Calls Tryd.prog 110 #[v, .int .i64 I] w (OwnI w (aroundL h.length (h.getD 0 []).length I)) := cellsTouching_any v h I w hv hg hI hS.1 hS.2
def FlatsPost (n m : Nat) (J : Nat → Nat → Bool) (w : World) (e : Ending) (w' : World) : Prop :=
  ∃ g c fs, e = .returned (.slice (some ⟨g, 0, none⟩) (n * m) c) ∧ IntsO 3 w.heap.size w'.heap.size w' (.slice (some ⟨g, 0, none⟩) (n * m) c) fs ∧ Flats n m J fs ∧ Grew w w'
/-- A function value (function fk, what it captured: lb) that tells of two cells whether they are joined. -/
def Joins (fk : Nat) (lb : Array Value) (N : Nat) (J : Nat → Nat → Bool) (w : World) : Prop :=
  ∀ (I K : Nat) (W : World), Grew w W → I < N → K < N → Calls Tryd.prog fk (#[.int .i64 I, .int .i64 K] ++ lb) W fun e w' => e = .returned (.bool (J I K)) ∧ ∃ q, w' = W.drewN q

set_option maxRecDepth 100000 in
set_option maxHeartbeats 400000 in
theorem firstsOfPieces_any (v : Value) (h : List (List Int)) (n m : Nat) (J : Nat → Nat → Bool) (hJ : Symm J) (fk : Nat) (lb : Array Value) (eg : ∀ (args : Array Value) (w : World), (callFunc fk args).run Tryd.prog w = .ok (.enter fk args) w)
    (w : World) (hv : RowsV w v h) (hg : vGrid h = true) (hS : Steps w) (en : h.length = n) (em : (h.getD 0 []).length = m) (hC : Joins fk lb (n * m) J w) :
    Calls Tryd.prog 106 #[v, .func (.func 110) #[] #[], .func (.func fk) #[] lb] w (FlatsPost n m J w) := by
  have G := Grid.of hg
  have hn5 := G.n5
  have hn1 := G.n1
  have hm5 := G.m5
  have hm1 := G.m1
  rw [en] at hn5 hn1
  rw [em] at hm5 hm1
  have hN25 : n * m ≤ 25 := Nat.mul_le_mul hn5 hm5
  have hN1 : 1 ≤ n * m := Nat.mul_pos hn1 hm1
  obtain ⟨N, eN⟩ : ∃ N, n * m = N := ⟨_, rfl⟩
  have HNM := Lib.hid (And.intro hn5 (And.intro hm5 eN))
  have hF : FlatsPost n m J w = fun e w' => ∃ g c fs, e = .returned (.slice (some ⟨g, 0, none⟩) N c) ∧ IntsO 3 w.heap.size w'.heap.size w' (.slice (some ⟨g, 0, none⟩) N c) fs ∧ Flats n m J fs ∧ Grew w w' := by
    funext e w'; rw [FlatsPost, eN]
  have HB : Hid (∀ (I : Nat) (W : World), Grew w W → I < N → Calls Tryd.prog 110 #[v, .int .i64 I] W (OwnI W (aroundL n m I))) :=
    Lib.hid fun I W hW hI => by
      have := cellsBeside_any v h I W (hv.grew hW) hg (by rw [en, em, eN]; exact hI) (hS.grew hW)
      rwa [en, em] at this
  rw [eN] at hC
  have HC := Lib.hid hC
  obtain ⟨a, b, o, c, rfl, ⟨hlc, hcb⟩, ha, HCR⟩ := hv.shape
  obtain rfl := ha (by omega)
  obtain ⟨u0, hcu0, hu0⟩ := HCR.out 0 (by omega)
  rw [Nat.add_zero] at hcu0
  obtain ⟨a0, b0, o0, c0, rfl, _, _, _⟩ := hu0.shape
  rw [em] at hcu0
  rw [en] at hlc HB ⊢
  have hcu1 : (w.alloc (.cells #[.int .i64 (-1)] 3)).cell? ⟨b, o, none⟩ = some (.slice a0 m c0) := ((Grew.refl w).alloc _).cell hcu0
  have hmul : (n : Int) * (m : Int) = (N : Int) := by rw [← eN]; simp
  rw [eN] at hN25 hN1
  clear hv hg hS G hm5 hm1 hC ha HCR hcu0 hu0
  rw [hF]
  clear hF eN en em
  go_enter Tryd.func106, Tryd.ntmps106
  go_wp2_with (fail)
  refine (slicesRepeat_any _ 0 1 (-1) N _ (by simp) hN1 hN25).mono ?_
  rintro e w2 ⟨g2, c2, rfl, hO2, hg2⟩
  rw [List.length_replicate] at hO2 ⊢
  have hga : Grew w w2 := ((Grew.refl w).alloc _).trans hg2
  have H2 : Hid (IntsO 3 w.heap.size w2.heap.size w2 (.slice (some ⟨g2, 0, none⟩) N c2) (List.replicate N (-1)) ∧ Grew w w2 ∧ w.heap.size ≤ w2.heap.size) :=
    Lib.hid ⟨hO2.wide (by simp) (Nat.le_refl _), hga, hga.size⟩
  clear hO2 hg2 hga hcu1 hmul
  go_wp2
  go_loopw [24] (fun i wr => ∃ k : Nat, k ≤ N ∧ i = .int .i64 k ∧ Hid (∃ fs, IntsO 3 w.heap.size w2.heap.size wr (.slice (some ⟨g2, 0, none⟩) N c2) fs ∧ Between n m J k fs ∧ Grew w wr ∧ w2.heap.size ≤ wr.heap.size)) (fun i _ => N - (intOf i).toNat)
  case atStart => exact ⟨0, Nat.zero_le _, rfl, _, H2.out.1, by have := between_start n m J; rwa [HNM.out.2.2] at this, H2.out.2.1, Nat.le_refl _⟩
  case round =>
    obtain ⟨k, hk, rfl, HI⟩ := hrel
    by_cases hlt : k < N
    · obtain ⟨fs, hf, hB, hgr, hsz⟩ := HI.out
      have hfl : fs.length = N := by rw [hB.len]; exact HNM.out.2.2
      obtain ⟨hel, hfr⟩ := hf.at rfl (i := k) (by omega)
      obtain ⟨y, ey⟩ : ∃ y, fs.getD k 0 = y := ⟨_, rfl⟩
      rw [ey] at hel
      by_cases hy : y = -1
      · subst hy
        have hgb := hf.blk
        have hwi : Within w.heap.size w2.heap.size wr (wr.setCell ⟨g2, k, none⟩ (.int .i64 k)) := (Within.refl _ _ _).setCell (p := ⟨g2, k, none⟩) hgb.1 hgb.2 _
        have hal : Grew (wr.setCell ⟨g2, k, none⟩ (.int .i64 k)) ((wr.setCell ⟨g2, k, none⟩ (.int .i64 k)).alloc (.cells #[.int .i64 k] 3)) := (Grew.refl _).alloc _
        have hszs : (wr.setCell ⟨g2, k, none⟩ (.int .i64 k)).heap.size = wr.heap.size := by simp
        have hlit := IntsO.lit 3 (wr.setCell ⟨g2, k, none⟩ (.int .i64 k)).heap.size (wr.setCell ⟨g2, k, none⟩ (.int .i64 k)) [(k : Int)] #[.int .i64 k] rfl (Nat.le_refl _) (show 1 ≤ maxLen by decide)
        rw [hszs] at hlit
        have HF : Hid (∃ fs1, IntsO 3 w.heap.size w2.heap.size ((wr.setCell ⟨g2, k, none⟩ (.int .i64 k)).alloc (.cells #[.int .i64 k] 3)) (.slice (some ⟨g2, 0, none⟩) N c2) fs1 ∧ IntsO 3 wr.heap.size (wr.heap.size + 1) ((wr.setCell ⟨g2, k, none⟩ (.int .i64 k)).alloc (.cells #[.int .i64 k] 3)) (.slice (some ⟨wr.heap.size, 0, none⟩) 1 1) [(k : Int)] ∧
            Going n m J k fs1 [(k : Int)] 0 ∧ Grew w ((wr.setCell ⟨g2, k, none⟩ (.int .i64 k)).alloc (.cells #[.int .i64 k] 3)) ∧ w2.heap.size ≤ ((wr.setCell ⟨g2, k, none⟩ (.int .i64 k)).alloc (.cells #[.int .i64 k] 3)).heap.size ∧ w2.heap.size ≤ wr.heap.size) :=
          Lib.hid ⟨_, (hf.set rfl k k).grew hal, hlit.at1, hB.going (by rw [HNM.out.2.2]; exact hlt) ey, (Within.grew hgr hwi (Nat.le_refl _)).trans hal, by simp; omega, hsz⟩
        clear hf hB hgr hsz ey hfl hgb hwi hal hszs hlit
        go_wp2
        go_loopg [9, 10] N (fun gk v i wm => ∃ q met g c', v = .slice (some ⟨g, 0, none⟩) (List.length met) c' ∧ i = .int .i64 ((q : Nat) : Int) ∧ q ≤ List.length met ∧ List.length met ≤ N ∧ N ≤ gk + q ∧
          Hid (∃ fs, IntsO 3 w.heap.size w2.heap.size wm (.slice (some ⟨g2, 0, none⟩) N c2) fs ∧ IntsO 3 g (g + 1) wm v met ∧ Going n m J k fs met q ∧ Grew w wm ∧ w2.heap.size ≤ wm.heap.size ∧ w2.heap.size ≤ g))
        case atStart => exact ⟨0, [(k : Int)], _, _, rfl, rfl, by simp, by simpa using hN1, by omega, HF.out⟩
        case round =>
          obtain ⟨q, met, g, c', rfl, rfl, hq1, hq3, hq2, HM⟩ := hrel
          by_cases hlq : q < met.length
          · obtain ⟨fs1, hf, hm, hG, hgr, hsz, hgl⟩ := HM.out
            obtain ⟨X, hX1, hX2, hX3⟩ := hG.mets q hlq
            rw [HNM.out.2.2] at hX2
            obtain ⟨hel, _⟩ := hm.at rfl hlq
            rw [hX1] at hel
            have HBX := Lib.hid (HB.out X wr hgr hX2)
            have HX := Lib.hid (And.intro hX1 hX2)
            have hw2n := hsz
            have HL4 : Hid ((aroundL n m X).length ≤ 8) := Lib.hid (around_facts HNM.out.1 HNM.out.2.1 (by rw [HNM.out.2.2]; exact hX2)).2.2
            obtain ⟨wn, rfl⟩ : ∃ wn : World, wn = wr := ⟨_, rfl⟩
            have HZ := Lib.hid hw2n
            clear hw2n
            obtain ⟨go, rfl⟩ : ∃ go : Nat, go = gk := ⟨_, rfl⟩
            clear hf hm hG hgr hsz hgl hX1 hX2 hX3 HF
            go_wp2_with (fail)
            refine HBX.out.mono ?_
            rintro e w3 ho3
            obtain ⟨a3, c3, rfl, hw3, hg3⟩ := ho3.shape
            obtain ⟨L, eL⟩ : ∃ L, aroundL n m X = L := ⟨_, rfl⟩
            rw [eL] at hw3 HL4 ⊢
            have hl4 := HL4.out
            have H3 : Hid (∃ fs, IntsO 3 w.heap.size w2.heap.size w3 (.slice (some ⟨g2, 0, none⟩) N c2) fs ∧ IntsO 3 wn.heap.size w3.heap.size w3 (.slice a3 L.length c3) L ∧ IntsO 3 g (g + 1) w3 (.slice (some ⟨g, 0, none⟩) met.length c') met ∧ Going n m J k fs met q ∧ Done n m J k fs met q 0 ∧ met.getD q 0 = X ∧ Grew w w3 ∧ w3.heap.size ≤ w3.heap.size ∧ w2.heap.size ≤ g ∧ (g < wn.heap.size ∨ w3.heap.size ≤ g)) := by
              obtain ⟨fs1, hf, hm, hG, hgr, hsz, hgl⟩ := HM.out
              exact Lib.hid ⟨fs1, hf.grew hg3, hw3, hm.grew hg3, hG, done_zero _ _ _ _ _ _ _, HX.out.1, hgr.trans hg3, Nat.le_refl _, hgl, .inl hm.blkLt⟩
            have HEL := Lib.hid eL
            have HZ3 : Hid (w2.heap.size ≤ w3.heap.size) := Lib.hid (Nat.le_trans HZ.out hg3.size)
            clear hw3 eL hel ho3 hg3
            go_wp2
            go_loopg [9, 52] L.length (fun gl v i wi => ∃ t met g c', v = .slice (some ⟨g, 0, none⟩) (List.length met) c' ∧ i = .int .i64 ((t : Nat) : Int) ∧ t ≤ L.length ∧ q < List.length met ∧ List.length met ≤ N ∧ L.length ≤ gl + t ∧
              Hid (∃ fs, IntsO 3 w.heap.size w2.heap.size wi (.slice (some ⟨g2, 0, none⟩) N c2) fs ∧ IntsO 3 wn.heap.size w3.heap.size wi (.slice a3 L.length c3) L ∧ IntsO 3 g (g + 1) wi v met ∧ Going n m J k fs met q ∧ Done n m J k fs met q t ∧ met.getD q 0 = X ∧ Grew w wi ∧ w3.heap.size ≤ wi.heap.size ∧ w2.heap.size ≤ g ∧ (g < wn.heap.size ∨ w3.heap.size ≤ g)))
            case atStart => exact ⟨0, met, _, _, rfl, rfl, Nat.zero_le _, hlq, hq3, Nat.le_refl _, H3.out⟩
            case round =>
              obtain ⟨t, met1, gm, c5, rfl, rfl, ht1, hqm, hm3, ht2, HT⟩ := hrel
              clear H3
              by_cases hlt2 : t < L.length
              · obtain ⟨fs1, hf, hL, hm, hG, hD, hX, hgr, hsz, hgl, hgd⟩ := HT.out
                obtain ⟨a6, b6, o6, c6, e6, _, ha6, HC6⟩ := hL.toV.shape
                obtain ⟨rfl, rfl⟩ : a3 = a6 ∧ c3 = c6 := by simp at e6; exact e6
                obtain rfl := ha6 (by omega)
                have hlc := HC6.out t hlt2
                have hA := (around_facts HNM.out.1 HNM.out.2.1 (I := X) (by rw [HNM.out.2.2]; exact HX.out.2)).1
                rw [HEL.out] at hA
                have hmem : L.getD t 0 ∈ L := by
                  rw [List.getD_eq_getElem?_getD, List.getElem?_eq_getElem hlt2]; exact List.getElem_mem hlt2
                obtain ⟨y, ey⟩ : ∃ y, L.getD t 0 = y := ⟨_, rfl⟩
                rw [ey] at hlc hmem
                have hy := hA y hmem
                obtain ⟨K, rfl⟩ := Int.eq_ofNat_of_zero_le hy.1
                have hKN : K < N := by have := hy.2.1; rw [HNM.out.2.2] at this; omega
                have hfl : fs1.length = N := by rw [hG.len]; exact HNM.out.2.2
                obtain ⟨hel, hfr⟩ := hf.at rfl (i := K) (by omega)
                obtain ⟨hmq, _⟩ := hm.at rfl hqm
                rw [hX] at hmq
                obtain ⟨f, ef⟩ : ∃ f, fs1.getD K 0 = f := ⟨_, rfl⟩
                rw [ef] at hel
                have hEY : (aroundL n m (met1.getD q 0).toNat).getD t 0 = K := by rw [hX, Int.toNat_natCast, HEL.out]; exact ey
                have hEL2 : t < (aroundL n m (met1.getD q 0).toNat).length := by rw [hX, Int.toNat_natCast, HEL.out]; exact hlt2
                have hskip : f ≠ -1 ∨ J X K = false → Done n m J k fs1 met1 q (t + 1) := fun hc => hG.skip hJ HNM.out.1 HNM.out.2.1 hqm hD hEL2 hEY (by rw [ef, hX, Int.toNat_natCast]; exact hc)
                by_cases hf1 : f = -1
                · subst hf1
                  have HCX := HC.out X K wr hgr HX.out.2 hKN
                  cases hjk : J X K with
                  | true =>
                    rw [hjk] at HCX
                    obtain ⟨hM1, hM2, hM3⟩ := hG.mark hJ HNM.out.1 HNM.out.2.1 hqm hD hEL2 hEY ef (by rw [hX, Int.toNat_natCast]; exact hjk)
                    have hroom : met1.length + 1 ≤ N := by
                      have := hM1.room
                      rw [HNM.out.2.2, List.length_append, List.length_singleton] at this
                      omega
                    have HE0 := Lib.hid (And.intro hf (And.intro hL (And.intro hm (And.intro hM1 (And.intro hM2 (And.intro (hM3.trans hX) (And.intro hgr (And.intro hsz (And.intro hgl (And.intro hgd hfl))))))))))
                    have HJ := Lib.hid HCX
                    clear hf hL hm hG hD hX hgr hsz hgl hgd e6 ha6 HC6 hA hmem ey hy hfl ef hEY hEL2 hskip hM1 hM2 hM3 HCX hjk
                    go_wp2_with (fail)
                    refine HJ.out.mono ?_
                    rintro e wq ⟨rfl, hq⟩
                    have hdr := quiet_grew hq
                    have hf' := HE0.out.1.grew hdr
                    obtain ⟨hel', hfr'⟩ := hf'.at rfl (i := K) (by rw [HE0.out.2.2.2.2.2.2.2.2.2.2]; exact hKN)
                    have hgb := hf'.blk
                    have hwi : Within w.heap.size w2.heap.size wr (wq.setCell ⟨g2, K, none⟩ (.int .i64 k)) := (hdr.within _ _).trans ((Within.refl _ _ _).setCell (p := ⟨g2, K, none⟩) hgb.1 hgb.2 _)
                    have hszs : (wq.setCell ⟨g2, K, none⟩ (.int .i64 k)).heap.size = wq.heap.size := by simp
                    have hszq := hdr.size
                    have HE : Hid (IntsO 3 w.heap.size w2.heap.size (wq.setCell ⟨g2, K, none⟩ (.int .i64 k)) (.slice (some ⟨g2, 0, none⟩) N c2) (fs1.set K k) ∧ IntsO 3 wn.heap.size w3.heap.size (wq.setCell ⟨g2, K, none⟩ (.int .i64 k)) (.slice (some ⟨b6, o6, none⟩) L.length c3) L ∧ IntsO 3 gm (gm + 1) (wq.setCell ⟨g2, K, none⟩ (.int .i64 k)) (.slice (some ⟨gm, 0, none⟩) met1.length c5) met1 ∧ Grew w (wq.setCell ⟨g2, K, none⟩ (.int .i64 k)) ∧ w3.heap.size ≤ wq.heap.size ∧ (wq.setCell ⟨g2, K, none⟩ (.int .i64 k)).heap.size = wq.heap.size) := by
                      obtain ⟨e1, e2, e3, _, _, _, e7, e8, e9, _⟩ := HE0.out
                      exact Lib.hid ⟨hf'.set rfl K k, e2.within hwi (.inr HZ.out), e3.within hwi (.inr e9), Within.grew e7 hwi (Nat.le_refl _), Nat.le_trans e8 hszq, hszs⟩
                    clear hq hdr hf' hgb hwi hszs hszq
                    go_wp2_with (at_builtin; refine wpList_append_int_at rfl (.tmp 74) (.tmp 76) 22 rfl Tryd.underlying22 Tryd.infoI rfl rfl (by simp) HE.out.2.2.1 (by omega) rfl ?_; intro g5 c5' w5 hO5 hW5 hat5 hlt5)
                    have HX2 : Hid (∃ fs, IntsO 3 w.heap.size w2.heap.size w5 (.slice (some ⟨g2, 0, none⟩) N c2) fs ∧ IntsO 3 wn.heap.size w3.heap.size w5 (.slice (some ⟨b6, o6, none⟩) L.length c3) L ∧ IntsO 3 g5 (g5 + 1) w5 (.slice (some ⟨g5, 0, none⟩) (met1.length + 1) c5') (met1 ++ [(K : Int)]) ∧ Going n m J k fs (met1 ++ [(K : Int)]) q ∧ Done n m J k fs (met1 ++ [(K : Int)]) q (t + 1) ∧ (met1 ++ [(K : Int)]).getD q 0 = X ∧ Grew w w5 ∧ w3.heap.size ≤ w5.heap.size ∧ w2.heap.size ≤ g5 ∧ (g5 < wn.heap.size ∨ w3.heap.size ≤ g5)) := by
                      obtain ⟨_, _, _, e4, e5, e6, _, _, e9, e10, _⟩ := HE0.out
                      obtain ⟨d1, d2, d3, d4, d5, d6⟩ := HE.out
                      have hww := hW5.size
                      have hz3 := HZ3.out
                      have h22 := H2.out.2.2
                      rw [d6] at hat5 hww
                      refine Lib.hid ⟨_, d1.within hW5 (.inl e9), d2.within hW5 ?_, hO5, e4, e5, e6, Within.grew d4 hW5 (by omega), by omega, ?_, ?_⟩
                      · rcases e10 with h | h
                        · exact .inr (by omega)
                        · exact .inl h
                      · rcases hat5 with h | h <;> omega
                      · rcases hat5 with h | h <;> omega
                    clear HE HE0 hO5 hW5 hat5
                    go_wp2
                    go_roundg (gk - 1)
                    case measure => omega
                    case rel => exact ⟨t + 1, met1 ++ [(K : Int)], g5, c5', by simp, by go_num, by omega, by simp; omega, by simp; omega, by omega, HX2⟩
                  | false =>
                    rw [hjk] at HCX
                    have HE0 : Hid (∃ fs, IntsO 3 w.heap.size w2.heap.size wr (.slice (some ⟨g2, 0, none⟩) N c2) fs ∧ IntsO 3 wn.heap.size w3.heap.size wr (.slice (some ⟨b6, o6, none⟩) L.length c3) L ∧ IntsO 3 gm (gm + 1) wr (.slice (some ⟨gm, 0, none⟩) met1.length c5) met1 ∧ Going n m J k fs met1 q ∧ Done n m J k fs met1 q (t + 1) ∧ met1.getD q 0 = X ∧ Grew w wr ∧ w3.heap.size ≤ wr.heap.size ∧ w2.heap.size ≤ gm ∧ (gm < wn.heap.size ∨ w3.heap.size ≤ gm)) := Lib.hid ⟨fs1, hf, hL, hm, hG, hskip (.inr hjk), hX, hgr, hsz, hgl, hgd⟩
                    have HJ := Lib.hid HCX
                    clear hf hL hm hG hD hX hgr hsz hgl hgd e6 ha6 HC6 hA hmem ey hy hfl ef hEY hEL2 hskip HCX hjk
                    go_wp2_with (fail)
                    refine HJ.out.mono ?_
                    rintro e wq ⟨rfl, hq⟩
                    have hdr := quiet_grew hq
                    have HE : Hid (∃ fs, IntsO 3 w.heap.size w2.heap.size wq (.slice (some ⟨g2, 0, none⟩) N c2) fs ∧ IntsO 3 wn.heap.size w3.heap.size wq (.slice (some ⟨b6, o6, none⟩) L.length c3) L ∧ IntsO 3 gm (gm + 1) wq (.slice (some ⟨gm, 0, none⟩) met1.length c5) met1 ∧ Going n m J k fs met1 q ∧ Done n m J k fs met1 q (t + 1) ∧ met1.getD q 0 = X ∧ Grew w wq ∧ w3.heap.size ≤ wq.heap.size ∧ w2.heap.size ≤ gm ∧ (gm < wn.heap.size ∨ w3.heap.size ≤ gm)) := by
                      obtain ⟨fs, d1, d2, d3, d4, d5, d6, d7, d8, d9, d10⟩ := HE0.out
                      exact Lib.hid ⟨fs, d1.grew hdr, d2.grew hdr, d3.grew hdr, d4, d5, d6, d7.trans hdr, Nat.le_trans d8 hdr.size, d9, d10⟩
                    clear hq hdr HE0
                    go_wp2
                    go_roundg (gk - 1)
                    case measure => omega
                    case rel => exact ⟨t + 1, met1, gm, c5, rfl, by go_num, by omega, hqm, hm3, by omega, HE.out⟩
                · have HE : Hid (∃ fs, IntsO 3 w.heap.size w2.heap.size wr (.slice (some ⟨g2, 0, none⟩) N c2) fs ∧ IntsO 3 wn.heap.size w3.heap.size wr (.slice (some ⟨b6, o6, none⟩) L.length c3) L ∧ IntsO 3 gm (gm + 1) wr (.slice (some ⟨gm, 0, none⟩) met1.length c5) met1 ∧ Going n m J k fs met1 q ∧ Done n m J k fs met1 q (t + 1) ∧ met1.getD q 0 = X ∧ Grew w wr ∧ w3.heap.size ≤ wr.heap.size ∧ w2.heap.size ≤ gm ∧ (gm < wn.heap.size ∨ w3.heap.size ≤ gm)) := Lib.hid ⟨fs1, hf, hL, hm, hG, hskip (.inl hf1), hX, hgr, hsz, hgl, hgd⟩
                  clear hf hL hm hG hD hX hgr hsz hgl hgd e6 ha6 HC6 hA hmem ey hy hfl ef hEY hEL2 hskip
                  have hfb : (f == -1) = false := beq_eq_false_iff_ne.2 hf1
                  go_wp2
                  go_roundg (gk - 1)
                  case measure => omega
                  case rel => exact ⟨t + 1, met1, gm, c5, rfl, by go_num, by omega, hqm, hm3, by omega, HE.out⟩
              · have HE : Hid (∃ fs, IntsO 3 w.heap.size w2.heap.size wr (.slice (some ⟨g2, 0, none⟩) N c2) fs ∧ IntsO 3 gm (gm + 1) wr (.slice (some ⟨gm, 0, none⟩) met1.length c5) met1 ∧ Going n m J k fs met1 (q + 1) ∧ Grew w wr ∧ w2.heap.size ≤ wr.heap.size ∧ w2.heap.size ≤ gm) := by
                  obtain ⟨fs1, hf, hL, hm, hG, hD, hX, hgr, hsz, hgl, _⟩ := HT.out
                  obtain rfl : t = L.length := by omega
                  refine Lib.hid ⟨fs1, hf, hm, hG.next hqm ?_, hgr, ?_, hgl⟩
                  · rw [hX, Int.toNat_natCast, HEL.out]; exact hD
                  · have := hm.blkLt; omega
                go_wp2
                go_roundg (go - 1)
                case measure => omega
                case rel => exact ⟨q + 1, met1, gm, c5, rfl, by go_num, by omega, hm3, by omega, HE.out⟩
          · obtain ⟨fs1, hf, hm, hG, hgr, hsz, hgl⟩ := HM.out
            obtain rfl : q = met.length := by omega
            have HE := Lib.hid (And.intro hf (And.intro hG.between (And.intro hgr hsz)))
            clear hf hm hG hgr hsz hgl HF
            go_wp2
            go_roundw
            case rel => exact ⟨k + 1, by omega, by go_num, _, HE.out⟩
            case measure => simp [intOf]; omega
      · have HF := Lib.hid (And.intro hf (And.intro (hB.next (by rw [ey]; exact hy)) (And.intro hgr hsz)))
        clear hf hB hgr hsz ey hfl
        go_wp2
        go_roundw
        case rel => exact ⟨k + 1, by omega, by go_num, fs, HF.out.1, HF.out.2.1, HF.out.2.2⟩
        case measure => simp [intOf]; omega
    · obtain ⟨fs, hf, hB, hgr, hsz⟩ := HI.out
      obtain rfl : k = N := by omega
      have HF : Hid (IntsO 3 w.heap.size wr.heap.size wr (.slice (some ⟨g2, 0, none⟩) k c2) fs ∧ Flats n m J fs ∧ Grew w wr) :=
        Lib.hid ⟨hf.wide (Nat.le_refl _) hsz, Between.flats (by rw [HNM.out.2.2]; exact hB), hgr⟩
      clear hf hB hgr hsz
      go_wp2
      go_ret
      exact ⟨_, _, fs, rfl, HF.out⟩
set_option maxRecDepth 100000 in
set_option maxHeartbeats 8000000 in
theorem piecesOf_any (v : Value) (h : List (List Int)) (n m : Nat) (B : Nat → Bool) (fk : Nat) (lb : Array Value) (eg : ∀ (args : Array Value) (w : World), (callFunc fk args).run Tryd.prog w = .ok (.enter fk args) w)
    (w : World) (hv : RowsV w v h) (hg : vGrid h = true) (hS : Steps w) (en : h.length = n) (em : (h.getD 0 []).length = m) (hT : Tells fk lb (n * m) B w) :
    Calls Tryd.prog 71 #[v, .func (.func 110) #[] #[], .func (.func fk) #[] lb] w fun e w' => ∃ v' f, e = .returned v' ∧ RowsO 22 3 w.heap.size w'.heap.size w' v' (piecesT f (whereL (n * m) B)) ∧ Flats n m (bothB B) f ∧ Grew w w' := by
  have G := Grid.of hg
  have hn5 := G.n5
  have hm5 := G.m5
  rw [en] at hn5
  rw [em] at hm5
  have hN25 : n * m ≤ 25 := Nat.mul_le_mul hn5 hm5
  obtain ⟨N, eN⟩ : ∃ N, n * m = N := ⟨_, rfl⟩
  rw [eN] at hT hN25
  have HBP : Hid (∀ w1, Grew w w1 → w1.cell? ⟨w.heap.size, 0, none⟩ = some (.func (.func fk) #[] lb) →
      Calls Tryd.prog 106 #[v, .func (.func 110) #[] #[], .func (.func 107) #[] #[.pointer (some ⟨w.heap.size, 0, none⟩)]] w1
        fun e w' => ∃ g c fs, e = .returned (.slice (some ⟨g, 0, none⟩) N c) ∧ IntsO 3 w1.heap.size w'.heap.size w' (.slice (some ⟨g, 0, none⟩) N c) fs ∧ Flats n m (bothB B) fs ∧ Grew w1 w') := fun w1 hg1 hcB => by
    have := firstsOfPieces_any v h n m (bothB B) (bothB_symm B) 107 #[.pointer (some ⟨w.heap.size, 0, none⟩)] (enters_of Tryd.func107 (by kernel_rfl) rfl) w1 (hv.grew hg1) hg (hS.grew hg1) en em (fun I K W hW hI hK => by
      rw [eN] at hI hK
      exact piecesClo_any w.heap.size fk lb eg N I K B W (hW.cell hcB) (hT.grew (hg1.trans hW)) hI hK)
    unfold FlatsPost at this
    rw [eN] at this
    exact this
  have hCl := whereL_len N B
  obtain ⟨C, eC⟩ : ∃ C, whereL N B = C := ⟨_, rfl⟩
  have HCW : Hid (∀ w1, Grew w w1 → Calls Tryd.prog 69 #[v, .func (.func fk) #[] lb] w1 fun e w' => ∃ a c, e = .returned (.slice a C.length c) ∧ IntsO 3 w1.heap.size w'.heap.size w' (.slice a C.length c) C ∧ Grew w1 w') := fun w1 hg1 => by
    have := cellsWhere_any v h N B fk lb eg w1 (hv.grew hg1) hg (by rw [en, em, eN]) (hT.grew hg1)
    rw [eC] at this
    exact this
  have HMC : Hid (∀ k, k < C.length → ∃ X : Nat, X < N ∧ C.getD k 0 = X) := fun k hk => by
    have hm : C.getD k 0 ∈ C := by rw [List.getD_eq_getElem?_getD, List.getElem?_eq_getElem hk]; exact List.getElem_mem hk
    rw [← eC] at hm
    obtain ⟨X, h1, _, h2⟩ := (whereL_mem _ _ _).1 hm
    exact ⟨X, h1, by rw [← eC]; exact h2⟩
  rw [eC] at hCl
  have HC := Lib.hid eC
  have hFin : (fun (e : Ending) (w' : World) => ∃ v' f, e = .returned v' ∧ RowsO 22 3 w.heap.size w'.heap.size w' v' (piecesT f (whereL (n * m) B)) ∧ Flats n m (bothB B) f ∧ Grew w w') = fun e w' => ∃ v' f, e = .returned v' ∧ RowsO 22 3 w.heap.size w'.heap.size w' v' (piecesT f C) ∧ Flats n m (bothB B) f ∧ Grew w w' := by rw [eN, eC]
  rw [hFin]
  obtain ⟨a, b, o, c, rfl, _, _, _⟩ := hv.shape
  have HNM := Lib.hid (And.intro hn5 (And.intro hm5 eN))
  clear hFin hv hg hS G en em eN hT eC hn5 hm5
  have hmf : ∀ (fn : Fn) (first cap : Array Value) (w : World), (Instr.makeFunc fn first cap).run Tryd.prog w = .ok (.func fn first cap) w := fun _ _ _ _ => rfl
  go_enter Tryd.func71, Tryd.ntmps71
  go_wp2_with (fail)
  go_step3
  go_wp2_with (fail)
  refine (HBP.out (w.alloc (.cells #[.func (.func fk) #[] lb] 65)) ((Grew.refl _).alloc _) (by simp)).mono ?_
  rintro e w2 ⟨g2, c2, fs, rfl, hO2, hF2, hg2⟩
  have hcb : w2.cell? ⟨w.heap.size, 0, none⟩ = some (.func (.func fk) #[] lb) := hg2.cell (by simp)
  have H2 : Hid (IntsO 3 w.heap.size w2.heap.size w2 (.slice (some ⟨g2, 0, none⟩) N c2) fs ∧ Flats n m (bothB B) fs ∧ Grew w w2) := Lib.hid ⟨hO2.wide (by simp) (Nat.le_refl _), hF2, ((Grew.refl _).alloc _).trans hg2⟩
  clear hO2 hF2 hg2 HBP
  go_wp2_with (fail)
  go_step3
  go_wp2_with (fail)
  refine (HCW.out _ H2.out.2.2).mono ?_
  rintro e w3 ⟨a3, c3, rfl, hO3, hg3⟩
  have H3 : Hid (IntsO 3 w.heap.size w2.heap.size w3 (.slice (some ⟨g2, 0, none⟩) N c2) fs ∧ IntsO 3 w2.heap.size w3.heap.size w3 (.slice a3 C.length c3) C ∧ Grew w w3) := Lib.hid ⟨H2.out.1.grew hg3, hO3, H2.out.2.2.trans hg3⟩
  have HFL : Hid (fs.length = N) := Lib.hid (by rw [H2.out.2.1.len]; exact HNM.out.2.2)
  clear hO3 hg3 hcb HCW
  go_wp2
  go_loopw [8, 21] (fun pv iv wr => ∃ (k pn : Nat) (pa : Option Addr) (pc : Nat), pv = .slice pa pn pc ∧ iv = .int .i64 k ∧ k ≤ C.length ∧ Hid (RowsO 22 3 w3.heap.size wr.heap.size wr pv (piecesT fs (C.take k)) ∧ (piecesT fs (C.take k)).length = pn ∧ Grew w3 wr)) (fun _ iv _ => C.length - (intOf iv).toNat)
  case atStart => exact ⟨0, 0, none, 0, rfl, rfl, Nat.zero_le _, RowsO.nil _ _ _ _ _, rfl, Grew.refl _⟩
  case round =>
    obtain ⟨k, pn, pa, pc, rfl, rfl, hk, HI⟩ := hrel
    by_cases hlt : k < C.length
    · obtain ⟨g3, c3', e3, _⟩ := H3.out.2.1.pos (by omega)
      simp only [Value.slice.injEq] at e3
      obtain ⟨rfl, -, rfl⟩ := e3
      obtain ⟨X, hX, eX⟩ := HMC.out k hlt
      have hcC := HI.out.2.2.cell (H3.out.2.1.at rfl hlt).1
      have hcF := HI.out.2.2.cell (H3.out.1.at rfl (i := X) (by rw [HFL.out]; exact hX)).1
      rw [eX] at hcC
      obtain ⟨F, eF⟩ : ∃ F, fs.getD X 0 = F := ⟨_, rfl⟩
      rw [eF] at hcF
      have hnx := pieces_take fs C k hlt X eX
      rw [Int.toNat_natCast, eF] at hnx
      have hps := pieces_pos fs C k (by omega)
      have hsm := pieces_small fs C k (by omega)
      obtain ⟨ps, eps⟩ : ∃ ps, piecesT fs (C.take k) = ps := ⟨_, rfl⟩
      rw [eps] at hnx hps hsm
      have HP : Hid (RowsO 22 3 w3.heap.size wr.heap.size wr (.slice pa pn pc) ps ∧ ps.length = pn ∧ Grew w3 wr) := by rw [← eps]; exact HI.out
      have HNX := Lib.hid hnx
      have HPS := Lib.hid hps
      have HSM := Lib.hid hsm
      have hpn : pn ≤ 25 := by have := HP.out.2.1; omega
      have r1 : (k : Int) < C.length := by omega
      have r2 : (0 : Int) ≤ k := by omega
      have r3 : (X : Int) < N := by omega
      have r4 : (0 : Int) ≤ X := by omega
      have w1' : IntKind.i64.wrap ((k : Int) + 1) = (k : Int) + 1 := IntWalk.i64_in _ (by omega)
      obtain ⟨wo, rfl⟩ : ∃ wo : World, wo = wr := ⟨_, rfl⟩
      have HcF := Lib.hid hcF
      clear eX eF hnx hps hsm eps HI hcF
      go_wp2
      go_loopw [27] (fun jv wr => ∃ j : Nat, jv = .int .i64 j ∧ j ≤ pn ∧ Hid ((∀ i, i < j → (ps.getD i []).getD 0 0 ≠ F) ∧ Grew wo wr)) (fun jv _ => pn - (intOf jv).toNat)
      case atStart => exact ⟨0, rfl, Nat.zero_le _, fun i hi => absurd hi (Nat.not_lt_zero _), Grew.refl _⟩
      case round =>
        obtain ⟨j, rfl, hj, HJ⟩ := hrel
        by_cases hltj : j < pn
        · have hjp : j < ps.length := by have := HP.out.2.1; omega
          obtain ⟨gp, cp, ep, _⟩ := HP.out.1.pos (by omega)
          simp only [Value.slice.injEq] at ep
          obtain ⟨rfl, -, rfl⟩ := ep
          have HRJ := Lib.hid (HP.out.1.grew HJ.out.2)
          obtain ⟨u, hcu, hu⟩ := HRJ.out.at rfl hjp
          obtain ⟨gr, cr, rfl, _, _, hrc, _⟩ := hu.pos (HPS.out j hjp)
          have hch := (hu.at rfl (HPS.out j hjp)).1
          obtain ⟨row, erow⟩ : ∃ row, ps.getD j [] = row := ⟨_, rfl⟩
          rw [erow] at hcu hu hch hrc
          have hrl : 0 < row.length ∧ row.length ≤ 25 := by
            have h1 := HPS.out j hjp
            have h2 := HSM.out.2 j hjp
            rw [erow] at h1 h2
            omega
          obtain ⟨hd, ehd⟩ : ∃ hd, row.getD 0 0 = hd := ⟨_, rfl⟩
          rw [ehd] at hch
          have hcF := HJ.out.2.cell HcF.out
          have hfr := HRJ.out.frozenAt rfl j
          obtain ⟨hne, hl1, hl2, _⟩ := HRJ.out.ne (by decide) rfl hjp hcu
          have HU := Lib.hid hu.at1
          have HROW := Lib.hid (And.intro erow ehd)
          have HCU := Lib.hid hcu
          have s1 : (j : Int) < pn := by omega
          have s2 : (0 : Int) ≤ j := by omega
          have s3 : (0 : Int) < row.length := by omega
          have s4 : 0 < row.length := hrl.1
          have w2' : IntKind.i64.wrap ((j : Int) + 1) = (j : Int) + 1 := IntWalk.i64_in _ (by omega)
          clear erow ehd hu hrc
          by_cases hhd : hd = F
          · subst hhd
            have hnx := addAt_found hd X ps j hjp HJ.out.1 (by rw [HROW.out.1]; exact HROW.out.2)
            rw [HROW.out.1] at hnx
            have HN := Lib.hid (HNX.out.trans hnx)
            clear hnx
            go_wp2
            go_quiet (fail)
            generalize hW4 : World.drewN wr _ = w4
            have hG4 : Grew wr w4 := by rw [← hW4]; exact (Grew.refl _).drewN _
            have hsz4 : w4.heap.size = wr.heap.size := by rw [← hW4]; simp
            have HG4 := Lib.hid hG4
            have hcu4 := hG4.cell HCU.out
            have HU4 := Lib.hid (HU.out.grew hG4)
            have HR4 := Lib.hid (HRJ.out.grew hG4)
            have hfr4 := HR4.out.frozenAt rfl j
            have HSZ := Lib.hid hsz4
            clear hW4 hG4 hcu hfr hch hcF hsz4
            go_wp2_with (at_builtin; refine wpList_append_int_at rfl (.tmp 42) (.tmp 44) 22 rfl Tryd.underlying22 Tryd.infoI rfl rfl (by simp) HU4.out (by omega) rfl ?_; intro g8 c8 w8 hO8 hW8 hat8 hlt8; have hcu8 := hW8.cell hcu4 (show gp < gr ∨ gr + 1 ≤ gp by omega); have hfr8 := hW8.frozen hcu4 hfr4 (show gp < gr ∨ gr + 1 ≤ gp by omega))
            have hrg := HR4.out.regrow (by decide) rfl hjp hcu4 hW8 hO8 hat8
            have HF : Hid (RowsO 22 3 w3.heap.size (w8.setCell ⟨gp, j, none⟩ (.slice (some ⟨g8, 0, none⟩) (row.length + 1) c8)).heap.size (w8.setCell ⟨gp, j, none⟩ (.slice (some ⟨g8, 0, none⟩) (row.length + 1) c8)) (.slice (some ⟨gp, 0, none⟩) pn pc) (piecesT fs (C.take (k + 1))) ∧ (piecesT fs (C.take (k + 1))).length = pn ∧ Grew w3 (w8.setCell ⟨gp, j, none⟩ (.slice (some ⟨g8, 0, none⟩) (row.length + 1) c8))) := by
              rw [HN.out]
              refine ⟨by simpa using hrg.1, by rw [List.length_set]; exact HP.out.2.1, Within.grew ((HP.out.2.2.trans HJ.out.2).trans HG4.out) hrg.2 (Nat.le_refl _)⟩
            clear hrg hO8 hW8 hat8 hlt8 hcu8 hfr8 hcu4 hfr4
            go_wp2
            go_roundw
            case rel => exact ⟨k + 1, pn, _, pc, rfl, by go_num, by omega, HF.out⟩
            case measure => simp [intOf]; omega
          · have hhb : (hd == F) = false := beq_eq_false_iff_ne.2 hhd
            have HQ : Hid (∀ i, i < j + 1 → (ps.getD i []).getD 0 0 ≠ F) := fun i hi => by
              by_cases e : i = j
              · rw [e, HROW.out.1, HROW.out.2]; exact hhd
              · exact HJ.out.1 i (by omega)
            go_wp2
            go_quiet (fail)
            generalize hW4 : World.drewN wr _ = w4
            have hG4 : Grew wr w4 := by rw [← hW4]; exact (Grew.refl _).drewN _
            have HG4 := Lib.hid (HJ.out.2.trans hG4)
            clear hW4 hG4 hcu hfr hch hcF
            go_wp2
            go_roundw
            case rel => exact ⟨j + 1, by go_num, by omega, HQ.out, HG4.out⟩
            case measure => simp [intOf]; omega
        · obtain rfl : j = pn := by omega
          have hnx := addAt_none F X ps (fun i hi => HJ.out.1 i (by have := HP.out.2.1; omega))
          have HN := Lib.hid (HNX.out.trans hnx)
          have HRJ := Lib.hid ((HP.out.1.grew HJ.out.2).wide (Nat.le_refl _) HJ.out.2.size)
          have HLT : Hid (IntsO 3 wr.heap.size (wr.heap.size + 1) (wr.alloc (.cells #[.int .i64 X] 3)) (.slice (some ⟨wr.heap.size, 0, none⟩) 1 1) [(X : Int)]) := by
            have := IntsO.lit 3 wr.heap.size wr [(X : Int)] #[.int .i64 X] rfl (Nat.le_refl _) (by unfold maxLen; simp)
            exact Lib.hid (by simpa using this)
          have HRA := Lib.hid (HRJ.out.grew ((Grew.refl wr).alloc (.cells #[.int .i64 X] 3)))
          have hsz3 : w3.heap.size ≤ wr.heap.size := (HP.out.2.2.trans HJ.out.2).size
          have HG4 := Lib.hid ((HP.out.2.2.trans HJ.out.2).alloc (.cells #[.int .i64 X] 3))
          clear hnx
          go_wp2_with (at_builtin; refine wpList_append_row rfl (.tmp 48) (.tmp 51) 32 rfl (by decide) Tryd.underlying32 Tryd.infoIs rfl rfl (by simp) HRA.out HLT.out (by have := HP.out.2.1; omega) (by simp; omega) hsz3 ?_; intro g8 c8 w8 hO8 hW8 hS8)
          have HF : Hid (RowsO 22 3 w3.heap.size w8.heap.size w8 (.slice (some ⟨g8, 0, none⟩) (j + 1) c8) (piecesT fs (C.take (k + 1))) ∧ (piecesT fs (C.take (k + 1))).length = j + 1 ∧ Grew w3 w8) := by
            rw [HN.out]
            rw [HP.out.2.1] at hO8
            exact ⟨hO8, by rw [List.length_append, HP.out.2.1]; rfl, Within.grew HG4.out hW8 (Nat.le_refl _)⟩
          have HPL := Lib.hid HP.out.2.1
          rw [HPL.out]
          clear hO8 hW8 hS8
          go_wp2
          go_roundw
          case rel => exact ⟨k + 1, j + 1, _, c8, rfl, by go_num, by omega, HF.out⟩
          case measure => simp [intOf]; omega
    · obtain rfl : k = C.length := by omega
      have hCt : C.take C.length = C := List.take_of_length_le (Nat.le_refl _)
      have HF : Hid (RowsO 22 3 w.heap.size wr.heap.size wr (.slice pa pn pc) (piecesT fs C) ∧ Grew w wr) := by
        have := HI.out
        rw [hCt] at this
        exact ⟨this.1.wide H3.out.2.2.size (Nat.le_refl _), H3.out.2.2.trans this.2.2⟩
      clear hCt
      go_wp2
      rw [Exit.noGoto_ret]
      go_ret
      exact ⟨_, fs, rfl, HF.out.1, H2.out.2.1, HF.out.2⟩
end Go.Proofs.YtaeenedjmakelaaDoor.Tc
