/- First cells of pieces. -/
import Derived.Test.YtaeenedjmakelaaDoorCells
import Derived.Test.YtaeenedjmakelaaDoorBase
import Derived.Test.YtaeenedjmakelaaDoorRepeat
import Derived.Test.YtaeenedjmakelaaDoorAroundOf
import Derived.Shelf.Abstract
/- The contract of impl.firstsOfPieces, for whatever function value tells what is joined. -/
namespace Go.Proofs.YtaeenedjmakelaaDoor
open Go.RowKit

def FlatsPost (n m : Nat) (J : Nat → Nat → Bool) (w : World) (e : Ending) (w' : World) : Prop :=
  ∃ g c fs, e = .returned (.slice (some ⟨g, 0, none⟩) (n * m) c) ∧ IntsO 3 w.heap.size w'.heap.size w' (.slice (some ⟨g, 0, none⟩) (n * m) c) fs ∧ Flats n m J fs ∧ Grew w w'
/-- A function value (function fk, what it captured: lb) that tells of two cells whether they are joined. -/
def Joins (fk : Nat) (lb : Array Value) (N : Nat) (J : Nat → Nat → Bool) (w : World) : Prop :=
  ∀ (I K : Nat) (W : World), Grew w W → I < N → K < N → Calls Tryd.prog fk (#[.int .i64 I, .int .i64 K] ++ lb) W fun e w' => e = .returned (.bool (J I K)) ∧ ∃ q, w' = W.drewN q

set_option maxRecDepth 100000 in
set_option maxHeartbeats 400000 in
theorem firstsOfPieces_any (v : Value) (h : List (List Int)) (n m : Nat) (J : Nat → Nat → Bool) (hJ : Symm J) (fk : Nat) (lb : Array Value) (eg : ∀ (args : Array Value) (w : World), (callFunc fk args).run Tryd.prog w = .ok (.enter fk args) w)
    (w : World) (hv : RowsV w v h) (hg : vGrid h = true) (hS : Steps w) (en : h.length = n) (em : (h.getD 0 []).length = m) (hC : Joins fk lb (n * m) J w) :
    Calls Tryd.prog 106 #[v, .func (.func 72) #[] #[], .func (.func fk) #[] lb] w (FlatsPost n m J w) := by
  have G := Grid.of hg
  have hn5 := G.n5
  have hn1 := G.n1
  have hm5 := G.m5
  have hm1 := G.m1
  rw [en] at hn5 hn1
  rw [em] at hm5 hm1
  have hN25 : n * m ≤ 25 := Nat.mul_le_mul hn5 hm5
  have hN1 : 1 ≤ n * m := Nat.mul_pos hn1 hm1
  obtain ⟨N, eN⟩ : ∃ N, n * m = N := ⟨_, rfl⟩
  have HNM := Lib.hid (And.intro hn5 (And.intro hm5 eN))
  have hF : FlatsPost n m J w = fun e w' => ∃ g c fs, e = .returned (.slice (some ⟨g, 0, none⟩) N c) ∧ IntsO 3 w.heap.size w'.heap.size w' (.slice (some ⟨g, 0, none⟩) N c) fs ∧ Flats n m J fs ∧ Grew w w' := by
    funext e w'; rw [FlatsPost, eN]
  have HB : Hid (∀ (I : Nat) (W : World), Grew w W → I < N → Calls Tryd.prog 72 #[v, .int .i64 I] W (OwnI W (aroundL n m I))) :=
    Lib.hid fun I W hW hI => by
      have := cellsBeside_any v h I W (hv.grew hW) hg (by rw [en, em, eN]; exact hI) (hS.grew hW)
      rwa [en, em] at this
  rw [eN] at hC
  have HC := Lib.hid hC
  obtain ⟨a, b, o, c, rfl, ⟨hlc, hcb⟩, ha, HCR⟩ := hv.shape
  obtain rfl := ha (by omega)
  obtain ⟨u0, hcu0, hu0⟩ := HCR.out 0 (by omega)
  rw [Nat.add_zero] at hcu0
  obtain ⟨a0, b0, o0, c0, rfl, _, _, _⟩ := hu0.shape
  rw [em] at hcu0
  rw [en] at hlc HB ⊢
  have hcu1 : (w.alloc (.cells #[.int .i64 (-1)] 3)).cell? ⟨b, o, none⟩ = some (.slice a0 m c0) := ((Grew.refl w).alloc _).cell hcu0
  have hmul : (n : Int) * (m : Int) = (N : Int) := by rw [← eN]; simp
  rw [eN] at hN25 hN1
  clear hv hg hS G hm5 hm1 hC ha HCR hcu0 hu0
  rw [hF]
  clear hF eN en em
  go_enter Tryd.func106, Tryd.ntmps106
  go_wp2_with (fail)
  refine (slicesRepeat_any _ 0 1 (-1) N _ (by simp) hN1 hN25).mono ?_
  rintro e w2 ⟨g2, c2, rfl, hO2, hg2⟩
  rw [List.length_replicate] at hO2 ⊢
  have hga : Grew w w2 := ((Grew.refl w).alloc _).trans hg2
  have H2 : Hid (IntsO 3 w.heap.size w2.heap.size w2 (.slice (some ⟨g2, 0, none⟩) N c2) (List.replicate N (-1)) ∧ Grew w w2 ∧ w.heap.size ≤ w2.heap.size) :=
    Lib.hid ⟨hO2.wide (by simp) (Nat.le_refl _), hga, hga.size⟩
  clear hO2 hg2 hga hcu1 hmul
  go_wp2
  go_loopw [24] (fun i wr => ∃ k : Nat, k ≤ N ∧ i = .int .i64 k ∧ Hid (∃ fs, IntsO 3 w.heap.size w2.heap.size wr (.slice (some ⟨g2, 0, none⟩) N c2) fs ∧ Between n m J k fs ∧ Grew w wr ∧ w2.heap.size ≤ wr.heap.size)) (fun i _ => N - (intOf i).toNat)
  case atStart => exact ⟨0, Nat.zero_le _, rfl, _, H2.out.1, by have := between_start n m J; rwa [HNM.out.2.2] at this, H2.out.2.1, Nat.le_refl _⟩
  case round =>
    obtain ⟨k, hk, rfl, HI⟩ := hrel
    by_cases hlt : k < N
    · obtain ⟨fs, hf, hB, hgr, hsz⟩ := HI.out
      have hfl : fs.length = N := by rw [hB.len]; exact HNM.out.2.2
      obtain ⟨hel, hfr⟩ := hf.at rfl (i := k) (by omega)
      obtain ⟨y, ey⟩ : ∃ y, fs.getD k 0 = y := ⟨_, rfl⟩
      rw [ey] at hel
      by_cases hy : y = -1
      · subst hy
        have hgb := hf.blk
        have hwi : Within w.heap.size w2.heap.size wr (wr.setCell ⟨g2, k, none⟩ (.int .i64 k)) := (Within.refl _ _ _).setCell (p := ⟨g2, k, none⟩) hgb.1 hgb.2 _
        have hal : Grew (wr.setCell ⟨g2, k, none⟩ (.int .i64 k)) ((wr.setCell ⟨g2, k, none⟩ (.int .i64 k)).alloc (.cells #[.int .i64 k] 3)) := (Grew.refl _).alloc _
        have hszs : (wr.setCell ⟨g2, k, none⟩ (.int .i64 k)).heap.size = wr.heap.size := by simp
        have hlit := IntsO.lit 3 (wr.setCell ⟨g2, k, none⟩ (.int .i64 k)).heap.size (wr.setCell ⟨g2, k, none⟩ (.int .i64 k)) [(k : Int)] #[.int .i64 k] rfl (Nat.le_refl _) (show 1 ≤ maxLen by decide)
        rw [hszs] at hlit
        have HF : Hid (∃ fs1, IntsO 3 w.heap.size w2.heap.size ((wr.setCell ⟨g2, k, none⟩ (.int .i64 k)).alloc (.cells #[.int .i64 k] 3)) (.slice (some ⟨g2, 0, none⟩) N c2) fs1 ∧ IntsO 3 wr.heap.size (wr.heap.size + 1) ((wr.setCell ⟨g2, k, none⟩ (.int .i64 k)).alloc (.cells #[.int .i64 k] 3)) (.slice (some ⟨wr.heap.size, 0, none⟩) 1 1) [(k : Int)] ∧
            Going n m J k fs1 [(k : Int)] 0 ∧ Grew w ((wr.setCell ⟨g2, k, none⟩ (.int .i64 k)).alloc (.cells #[.int .i64 k] 3)) ∧ w2.heap.size ≤ ((wr.setCell ⟨g2, k, none⟩ (.int .i64 k)).alloc (.cells #[.int .i64 k] 3)).heap.size ∧ w2.heap.size ≤ wr.heap.size) :=
          Lib.hid ⟨_, (hf.set rfl k k).grew hal, hlit.at1, hB.going (by rw [HNM.out.2.2]; exact hlt) ey, (Within.grew hgr hwi (Nat.le_refl _)).trans hal, by simp; omega, hsz⟩
        clear hf hB hgr hsz ey hfl hgb hwi hal hszs hlit
        go_wp2
        go_loopg [9, 10] N (fun gk v i wm => ∃ q met g c', v = .slice (some ⟨g, 0, none⟩) (List.length met) c' ∧ i = .int .i64 ((q : Nat) : Int) ∧ q ≤ List.length met ∧ List.length met ≤ N ∧ N ≤ gk + q ∧
          Hid (∃ fs, IntsO 3 w.heap.size w2.heap.size wm (.slice (some ⟨g2, 0, none⟩) N c2) fs ∧ IntsO 3 g (g + 1) wm v met ∧ Going n m J k fs met q ∧ Grew w wm ∧ w2.heap.size ≤ wm.heap.size ∧ w2.heap.size ≤ g))
        case atStart => exact ⟨0, [(k : Int)], _, _, rfl, rfl, by simp, by simpa using hN1, by omega, HF.out⟩
        case round =>
          obtain ⟨q, met, g, c', rfl, rfl, hq1, hq3, hq2, HM⟩ := hrel
          by_cases hlq : q < met.length
          · obtain ⟨fs1, hf, hm, hG, hgr, hsz, hgl⟩ := HM.out
            obtain ⟨X, hX1, hX2, hX3⟩ := hG.mets q hlq
            rw [HNM.out.2.2] at hX2
            obtain ⟨hel, _⟩ := hm.at rfl hlq
            rw [hX1] at hel
            have HBX := Lib.hid (HB.out X wr hgr hX2)
            have HX := Lib.hid (And.intro hX1 hX2)
            have hw2n := hsz
            have HL4 : Hid ((aroundL n m X).length ≤ 4) := Lib.hid (around_facts HNM.out.1 HNM.out.2.1 (by rw [HNM.out.2.2]; exact hX2)).2.2
            obtain ⟨wn, rfl⟩ : ∃ wn : World, wn = wr := ⟨_, rfl⟩
            have HZ := Lib.hid hw2n
            clear hw2n
            obtain ⟨go, rfl⟩ : ∃ go : Nat, go = gk := ⟨_, rfl⟩
            clear hf hm hG hgr hsz hgl hX1 hX2 hX3 HF
            go_wp2_with (fail)
            refine HBX.out.mono ?_
            rintro e w3 ho3
            obtain ⟨a3, c3, rfl, hw3, hg3⟩ := ho3.shape
            obtain ⟨L, eL⟩ : ∃ L, aroundL n m X = L := ⟨_, rfl⟩
            rw [eL] at hw3 HL4 ⊢
            have hl4 := HL4.out
            have H3 : Hid (∃ fs, IntsO 3 w.heap.size w2.heap.size w3 (.slice (some ⟨g2, 0, none⟩) N c2) fs ∧ IntsO 3 wn.heap.size w3.heap.size w3 (.slice a3 L.length c3) L ∧ IntsO 3 g (g + 1) w3 (.slice (some ⟨g, 0, none⟩) met.length c') met ∧ Going n m J k fs met q ∧ Done n m J k fs met q 0 ∧ met.getD q 0 = X ∧ Grew w w3 ∧ w3.heap.size ≤ w3.heap.size ∧ w2.heap.size ≤ g ∧ (g < wn.heap.size ∨ w3.heap.size ≤ g)) := by
              obtain ⟨fs1, hf, hm, hG, hgr, hsz, hgl⟩ := HM.out
              exact Lib.hid ⟨fs1, hf.grew hg3, hw3, hm.grew hg3, hG, done_zero _ _ _ _ _ _ _, HX.out.1, hgr.trans hg3, Nat.le_refl _, hgl, .inl hm.blkLt⟩
            have HEL := Lib.hid eL
            have HZ3 : Hid (w2.heap.size ≤ w3.heap.size) := Lib.hid (Nat.le_trans HZ.out hg3.size)
            clear hw3 eL hel ho3 hg3
            go_wp2
            go_loopg [9, 52] L.length (fun gl v i wi => ∃ t met g c', v = .slice (some ⟨g, 0, none⟩) (List.length met) c' ∧ i = .int .i64 ((t : Nat) : Int) ∧ t ≤ L.length ∧ q < List.length met ∧ List.length met ≤ N ∧ L.length ≤ gl + t ∧
              Hid (∃ fs, IntsO 3 w.heap.size w2.heap.size wi (.slice (some ⟨g2, 0, none⟩) N c2) fs ∧ IntsO 3 wn.heap.size w3.heap.size wi (.slice a3 L.length c3) L ∧ IntsO 3 g (g + 1) wi v met ∧ Going n m J k fs met q ∧ Done n m J k fs met q t ∧ met.getD q 0 = X ∧ Grew w wi ∧ w3.heap.size ≤ wi.heap.size ∧ w2.heap.size ≤ g ∧ (g < wn.heap.size ∨ w3.heap.size ≤ g)))
            case atStart => exact ⟨0, met, _, _, rfl, rfl, Nat.zero_le _, hlq, hq3, Nat.le_refl _, H3.out⟩
            case round =>
              obtain ⟨t, met1, gm, c5, rfl, rfl, ht1, hqm, hm3, ht2, HT⟩ := hrel
              clear H3
              by_cases hlt2 : t < L.length
              · obtain ⟨fs1, hf, hL, hm, hG, hD, hX, hgr, hsz, hgl, hgd⟩ := HT.out
                obtain ⟨a6, b6, o6, c6, e6, _, ha6, HC6⟩ := hL.toV.shape
                obtain ⟨rfl, rfl⟩ : a3 = a6 ∧ c3 = c6 := by simp at e6; exact e6
                obtain rfl := ha6 (by omega)
                have hlc := HC6.out t hlt2
                have hA := (around_facts HNM.out.1 HNM.out.2.1 (I := X) (by rw [HNM.out.2.2]; exact HX.out.2)).1
                rw [HEL.out] at hA
                have hmem : L.getD t 0 ∈ L := by
                  rw [List.getD_eq_getElem?_getD, List.getElem?_eq_getElem hlt2]; exact List.getElem_mem hlt2
                obtain ⟨y, ey⟩ : ∃ y, L.getD t 0 = y := ⟨_, rfl⟩
                rw [ey] at hlc hmem
                have hy := hA y hmem
                obtain ⟨K, rfl⟩ := Int.eq_ofNat_of_zero_le hy.1
                have hKN : K < N := by have := hy.2.1; rw [HNM.out.2.2] at this; omega
                have hfl : fs1.length = N := by rw [hG.len]; exact HNM.out.2.2
                obtain ⟨hel, hfr⟩ := hf.at rfl (i := K) (by omega)
                obtain ⟨hmq, _⟩ := hm.at rfl hqm
                rw [hX] at hmq
                obtain ⟨f, ef⟩ : ∃ f, fs1.getD K 0 = f := ⟨_, rfl⟩
                rw [ef] at hel
                have hEY : (aroundL n m (met1.getD q 0).toNat).getD t 0 = K := by rw [hX, Int.toNat_natCast, HEL.out]; exact ey
                have hEL2 : t < (aroundL n m (met1.getD q 0).toNat).length := by rw [hX, Int.toNat_natCast, HEL.out]; exact hlt2
                have hskip : f ≠ -1 ∨ J X K = false → Done n m J k fs1 met1 q (t + 1) := fun hc => hG.skip hJ HNM.out.1 HNM.out.2.1 hqm hD hEL2 hEY (by rw [ef, hX, Int.toNat_natCast]; exact hc)
                by_cases hf1 : f = -1
                · subst hf1
                  have HCX := HC.out X K wr hgr HX.out.2 hKN
                  cases hjk : J X K with
                  | true =>
                    rw [hjk] at HCX
                    obtain ⟨hM1, hM2, hM3⟩ := hG.mark hJ HNM.out.1 HNM.out.2.1 hqm hD hEL2 hEY ef (by rw [hX, Int.toNat_natCast]; exact hjk)
                    have hroom : met1.length + 1 ≤ N := by
                      have := hM1.room
                      rw [HNM.out.2.2, List.length_append, List.length_singleton] at this
                      omega
                    have HE0 := Lib.hid (And.intro hf (And.intro hL (And.intro hm (And.intro hM1 (And.intro hM2 (And.intro (hM3.trans hX) (And.intro hgr (And.intro hsz (And.intro hgl (And.intro hgd hfl))))))))))
                    have HJ := Lib.hid HCX
                    clear hf hL hm hG hD hX hgr hsz hgl hgd e6 ha6 HC6 hA hmem ey hy hfl ef hEY hEL2 hskip hM1 hM2 hM3 HCX hjk
                    go_wp2_with (fail)
                    refine HJ.out.mono ?_
                    rintro e wq ⟨rfl, hq⟩
                    have hdr := quiet_grew hq
                    have hf' := HE0.out.1.grew hdr
                    obtain ⟨hel', hfr'⟩ := hf'.at rfl (i := K) (by rw [HE0.out.2.2.2.2.2.2.2.2.2.2]; exact hKN)
                    have hgb := hf'.blk
                    have hwi : Within w.heap.size w2.heap.size wr (wq.setCell ⟨g2, K, none⟩ (.int .i64 k)) := (hdr.within _ _).trans ((Within.refl _ _ _).setCell (p := ⟨g2, K, none⟩) hgb.1 hgb.2 _)
                    have hszs : (wq.setCell ⟨g2, K, none⟩ (.int .i64 k)).heap.size = wq.heap.size := by simp
                    have hszq := hdr.size
                    have HE : Hid (IntsO 3 w.heap.size w2.heap.size (wq.setCell ⟨g2, K, none⟩ (.int .i64 k)) (.slice (some ⟨g2, 0, none⟩) N c2) (fs1.set K k) ∧ IntsO 3 wn.heap.size w3.heap.size (wq.setCell ⟨g2, K, none⟩ (.int .i64 k)) (.slice (some ⟨b6, o6, none⟩) L.length c3) L ∧ IntsO 3 gm (gm + 1) (wq.setCell ⟨g2, K, none⟩ (.int .i64 k)) (.slice (some ⟨gm, 0, none⟩) met1.length c5) met1 ∧ Grew w (wq.setCell ⟨g2, K, none⟩ (.int .i64 k)) ∧ w3.heap.size ≤ wq.heap.size ∧ (wq.setCell ⟨g2, K, none⟩ (.int .i64 k)).heap.size = wq.heap.size) := by
                      obtain ⟨e1, e2, e3, _, _, _, e7, e8, e9, _⟩ := HE0.out
                      exact Lib.hid ⟨hf'.set rfl K k, e2.within hwi (.inr HZ.out), e3.within hwi (.inr e9), Within.grew e7 hwi (Nat.le_refl _), Nat.le_trans e8 hszq, hszs⟩
                    clear hq hdr hf' hgb hwi hszs hszq
                    go_wp2_with (at_builtin; refine wpList_append_int_at rfl (.tmp 74) (.tmp 76) 22 rfl Tryd.underlying22 Tryd.infoI rfl rfl (by simp) HE.out.2.2.1 (by omega) rfl ?_; intro g5 c5' w5 hO5 hW5 hat5 hlt5)
                    have HX2 : Hid (∃ fs, IntsO 3 w.heap.size w2.heap.size w5 (.slice (some ⟨g2, 0, none⟩) N c2) fs ∧ IntsO 3 wn.heap.size w3.heap.size w5 (.slice (some ⟨b6, o6, none⟩) L.length c3) L ∧ IntsO 3 g5 (g5 + 1) w5 (.slice (some ⟨g5, 0, none⟩) (met1.length + 1) c5') (met1 ++ [(K : Int)]) ∧ Going n m J k fs (met1 ++ [(K : Int)]) q ∧ Done n m J k fs (met1 ++ [(K : Int)]) q (t + 1) ∧ (met1 ++ [(K : Int)]).getD q 0 = X ∧ Grew w w5 ∧ w3.heap.size ≤ w5.heap.size ∧ w2.heap.size ≤ g5 ∧ (g5 < wn.heap.size ∨ w3.heap.size ≤ g5)) := by
                      obtain ⟨_, _, _, e4, e5, e6, _, _, e9, e10, _⟩ := HE0.out
                      obtain ⟨d1, d2, d3, d4, d5, d6⟩ := HE.out
                      have hww := hW5.size
                      have hz3 := HZ3.out
                      have h22 := H2.out.2.2
                      rw [d6] at hat5 hww
                      refine Lib.hid ⟨_, d1.within hW5 (.inl e9), d2.within hW5 ?_, hO5, e4, e5, e6, Within.grew d4 hW5 (by omega), by omega, ?_, ?_⟩
                      · rcases e10 with h | h
                        · exact .inr (by omega)
                        · exact .inl h
                      · rcases hat5 with h | h <;> omega
                      · rcases hat5 with h | h <;> omega
                    clear HE HE0 hO5 hW5 hat5
                    go_wp2
                    go_roundg (gk - 1)
                    case measure => omega
                    case rel => exact ⟨t + 1, met1 ++ [(K : Int)], g5, c5', by simp, by go_num, by omega, by simp; omega, by simp; omega, by omega, HX2⟩
                  | false =>
                    rw [hjk] at HCX
                    have HE0 : Hid (∃ fs, IntsO 3 w.heap.size w2.heap.size wr (.slice (some ⟨g2, 0, none⟩) N c2) fs ∧ IntsO 3 wn.heap.size w3.heap.size wr (.slice (some ⟨b6, o6, none⟩) L.length c3) L ∧ IntsO 3 gm (gm + 1) wr (.slice (some ⟨gm, 0, none⟩) met1.length c5) met1 ∧ Going n m J k fs met1 q ∧ Done n m J k fs met1 q (t + 1) ∧ met1.getD q 0 = X ∧ Grew w wr ∧ w3.heap.size ≤ wr.heap.size ∧ w2.heap.size ≤ gm ∧ (gm < wn.heap.size ∨ w3.heap.size ≤ gm)) := Lib.hid ⟨fs1, hf, hL, hm, hG, hskip (.inr hjk), hX, hgr, hsz, hgl, hgd⟩
                    have HJ := Lib.hid HCX
                    clear hf hL hm hG hD hX hgr hsz hgl hgd e6 ha6 HC6 hA hmem ey hy hfl ef hEY hEL2 hskip HCX hjk
                    go_wp2_with (fail)
                    refine HJ.out.mono ?_
                    rintro e wq ⟨rfl, hq⟩
                    have hdr := quiet_grew hq
                    have HE : Hid (∃ fs, IntsO 3 w.heap.size w2.heap.size wq (.slice (some ⟨g2, 0, none⟩) N c2) fs ∧ IntsO 3 wn.heap.size w3.heap.size wq (.slice (some ⟨b6, o6, none⟩) L.length c3) L ∧ IntsO 3 gm (gm + 1) wq (.slice (some ⟨gm, 0, none⟩) met1.length c5) met1 ∧ Going n m J k fs met1 q ∧ Done n m J k fs met1 q (t + 1) ∧ met1.getD q 0 = X ∧ Grew w wq ∧ w3.heap.size ≤ wq.heap.size ∧ w2.heap.size ≤ gm ∧ (gm < wn.heap.size ∨ w3.heap.size ≤ gm)) := by
                      obtain ⟨fs, d1, d2, d3, d4, d5, d6, d7, d8, d9, d10⟩ := HE0.out
                      exact Lib.hid ⟨fs, d1.grew hdr, d2.grew hdr, d3.grew hdr, d4, d5, d6, d7.trans hdr, Nat.le_trans d8 hdr.size, d9, d10⟩
                    clear hq hdr HE0
                    go_wp2
                    go_roundg (gk - 1)
                    case measure => omega
                    case rel => exact ⟨t + 1, met1, gm, c5, rfl, by go_num, by omega, hqm, hm3, by omega, HE.out⟩
                · have HE : Hid (∃ fs, IntsO 3 w.heap.size w2.heap.size wr (.slice (some ⟨g2, 0, none⟩) N c2) fs ∧ IntsO 3 wn.heap.size w3.heap.size wr (.slice (some ⟨b6, o6, none⟩) L.length c3) L ∧ IntsO 3 gm (gm + 1) wr (.slice (some ⟨gm, 0, none⟩) met1.length c5) met1 ∧ Going n m J k fs met1 q ∧ Done n m J k fs met1 q (t + 1) ∧ met1.getD q 0 = X ∧ Grew w wr ∧ w3.heap.size ≤ wr.heap.size ∧ w2.heap.size ≤ gm ∧ (gm < wn.heap.size ∨ w3.heap.size ≤ gm)) := Lib.hid ⟨fs1, hf, hL, hm, hG, hskip (.inl hf1), hX, hgr, hsz, hgl, hgd⟩
                  clear hf hL hm hG hD hX hgr hsz hgl hgd e6 ha6 HC6 hA hmem ey hy hfl ef hEY hEL2 hskip
                  have hfb : (f == -1) = false := beq_eq_false_iff_ne.2 hf1
                  go_wp2
                  go_roundg (gk - 1)
                  case measure => omega
                  case rel => exact ⟨t + 1, met1, gm, c5, rfl, by go_num, by omega, hqm, hm3, by omega, HE.out⟩
              · have HE : Hid (∃ fs, IntsO 3 w.heap.size w2.heap.size wr (.slice (some ⟨g2, 0, none⟩) N c2) fs ∧ IntsO 3 gm (gm + 1) wr (.slice (some ⟨gm, 0, none⟩) met1.length c5) met1 ∧ Going n m J k fs met1 (q + 1) ∧ Grew w wr ∧ w2.heap.size ≤ wr.heap.size ∧ w2.heap.size ≤ gm) := by
                  obtain ⟨fs1, hf, hL, hm, hG, hD, hX, hgr, hsz, hgl, _⟩ := HT.out
                  obtain rfl : t = L.length := by omega
                  refine Lib.hid ⟨fs1, hf, hm, hG.next hqm ?_, hgr, ?_, hgl⟩
                  · rw [hX, Int.toNat_natCast, HEL.out]; exact hD
                  · have := hm.blkLt; omega
                go_wp2
                go_roundg (go - 1)
                case measure => omega
                case rel => exact ⟨q + 1, met1, gm, c5, rfl, by go_num, by omega, hm3, by omega, HE.out⟩
          · obtain ⟨fs1, hf, hm, hG, hgr, hsz, hgl⟩ := HM.out
            obtain rfl : q = met.length := by omega
            have HE := Lib.hid (And.intro hf (And.intro hG.between (And.intro hgr hsz)))
            clear hf hm hG hgr hsz hgl HF
            go_wp2
            go_roundw
            case rel => exact ⟨k + 1, by omega, by go_num, _, HE.out⟩
            case measure => simp [intOf]; omega
      · have HF := Lib.hid (And.intro hf (And.intro (hB.next (by rw [ey]; exact hy)) (And.intro hgr hsz)))
        clear hf hB hgr hsz ey hfl
        go_wp2
        go_roundw
        case rel => exact ⟨k + 1, by omega, by go_num, fs, HF.out.1, HF.out.2.1, HF.out.2.2⟩
        case measure => simp [intOf]; omega
    · obtain ⟨fs, hf, hB, hgr, hsz⟩ := HI.out
      obtain rfl : k = N := by omega
      have HF : Hid (IntsO 3 w.heap.size wr.heap.size wr (.slice (some ⟨g2, 0, none⟩) k c2) fs ∧ Flats n m J fs ∧ Grew w wr) :=
        Lib.hid ⟨hf.wide (Nat.le_refl _) hsz, Between.flats (by rw [HNM.out.2.2]; exact hB), hgr⟩
      clear hf hB hgr hsz
      go_wp2
      go_ret
      exact ⟨_, _, fs, rfl, HF.out⟩
end Go.Proofs.YtaeenedjmakelaaDoor

/- The contract of impl.firstsOf: cells joined as they are of one height. -/
namespace Go.Proofs.YtaeenedjmakelaaDoor
open Go.RowKit

/-- The one thing of which P holds. -/
noncomputable def pickL {α : Type} [Inhabited α] (P : α → Prop) : α := @dite α (∃ x, P x) (Classical.propDecidable _) (fun h => Classical.choose h) (fun _ => default)
theorem pickL_eq {α : Type} [Inhabited α] {P : α → Prop} {x : α} (h : P x) (hu : ∀ y, P y → y = x) : pickL P = x := by
  have he : ∃ x, P x := ⟨x, h⟩
  unfold pickL
  rw [dif_pos he]
  exact hu _ (Classical.choose_spec he)
theorem pickL_ok {α : Type} [Inhabited α] {P : α → Prop} (h : ∃ x, P x) : P (pickL P) := by
  unfold pickL
  rw [dif_pos h]
  exact Classical.choose_spec h
noncomputable def flatsL (n m : Nat) (J : Nat → Nat → Bool) : List Int := pickL (Flats n m J)
theorem Flats.eq {n m : Nat} {J : Nat → Nat → Bool} {fs : List Int} (hn : n ≤ 5) (hm : m ≤ 5) (F : Flats n m J fs) : flatsL n m J = fs := pickL_eq F fun _ G => G.uniq hn hm F

theorem least_of (P : Nat → Prop) (k : Nat) (hk : P k) : ∃ j, P j ∧ ∀ i, P i → j ≤ i := by
  induction k using Nat.strongRecOn with
  | ind k ih =>
    by_cases h : ∃ i, i < k ∧ P i
    · obtain ⟨i, hi, hp⟩ := h
      exact ih i hi hp
    · exact ⟨k, hk, fun i hi => Nat.le_of_not_lt fun hlt => h ⟨i, hlt, hi⟩⟩
theorem flats_exists {n m : Nat} {J : Nat → Nat → Bool} (hJ : Symm J) (hn : n ≤ 5) (hm : m ≤ 5) : ∃ f, Flats n m J f := by
  have hl : ∀ i, ∃ j, Reach n m J i j ∧ ∀ k, Reach n m J i k → j ≤ k := fun i => least_of _ i .refl
  obtain ⟨F, eF⟩ : ∃ F : Nat → Nat, ∀ i, Reach n m J i (F i) ∧ ∀ k, Reach n m J i k → F i ≤ k := ⟨fun i => Classical.choose (hl i), fun i => Classical.choose_spec (hl i)⟩
  have e : ∀ i, i < n * m → ((List.range (n * m)).map fun i => (F i : Int)).getD i 0 = F i := fun i hi => by simp [hi]
  refine ⟨(List.range (n * m)).map fun i => (F i : Int), by simp, fun i hi => ⟨F i, e i hi, (eF i).2 i .refl, (eF i).1⟩, fun i hi k hk hj => ?_⟩
  have hkN := around_lt hn hm hi hk
  rw [e i hi, e k hkN]
  have h1 : Reach n m J i k := .step .refl hk hj
  have h2 : Reach n m J k i := .step .refl (around_back hn hm hi hk) (hJ _ _ hj)
  have h3 := (eF i).2 _ (h1.trans (eF k).1)
  have h4 := (eF k).2 _ (h2.trans (eF i).1)
  omega
theorem flatsL_ok {n m : Nat} {J : Nat → Nat → Bool} (hJ : Symm J) (hn : n ≤ 5) (hm : m ≤ 5) : Flats n m J (flatsL n m J) := pickL_ok (flats_exists hJ hn hm)

theorem FlatsPost.from {n m : Nat} {J : Nat → Nat → Bool} {w w1 : World} {e : Ending} {w' : World} (h : FlatsPost n m J w1 e w') (hg : Grew w w1) : FlatsPost n m J w e w' := by
  obtain ⟨g, c, fs, he, hO, hF, hG⟩ := h
  exact ⟨g, c, fs, he, hO.wide hg.size (Nat.le_refl _), hF, hg.trans hG⟩

set_option maxRecDepth 100000 in
set_option maxHeartbeats 1000000 in
theorem sameClo_any (B g c N I K : Nat) (p : List Int) (W : World) (hB : W.cell? ⟨B, 0, none⟩ = some (.slice (some ⟨g, 0, none⟩) N c)) (hI : I < N) (hK : K < N)
    (h1 : W.cell? ⟨g, I, none⟩ = some (.int .i64 (p.getD I 0))) (h2 : W.cell? ⟨g, K, none⟩ = some (.int .i64 (p.getD K 0))) :
    Calls Tryd.prog 118 #[.int .i64 I, .int .i64 K, .pointer (some ⟨B, 0, none⟩)] W fun e w' => e = .returned (.bool (sameH p I K)) ∧ ∃ q, w' = W.drewN q := by
  obtain ⟨x, ex⟩ : ∃ x, p.getD I 0 = x := ⟨_, rfl⟩
  obtain ⟨y, ey⟩ : ∃ y, p.getD K 0 = y := ⟨_, rfl⟩
  have HS : Hid (sameH p I K = (x == y)) := Lib.hid (by
    rw [sameH, ex, ey]
    by_cases h : x = y <;> simp [h])
  rw [ex] at h1
  rw [ey] at h2
  have hI' : (I : Int) < (N : Int) := by omega
  have hK' : (K : Int) < (N : Int) := by omega
  clear ex ey
  go_enter Tryd.func118, Tryd.ntmps118
  go_wp2
  go_quiet (fail)
  go_wp2
  go_ret
  exact ⟨ret_bool HS.out.symm, _, rfl⟩

set_option maxRecDepth 100000 in
set_option maxHeartbeats 1000000 in
theorem firstsOf_any (v : Value) (h : List (List Int)) (n m : Nat) (w : World) (hv : RowsV w v h) (hg : vGrid h = true) (hS : Steps w) (en : h.length = n) (em : (h.getD 0 []).length = m) :
    Calls Tryd.prog 101 #[v] w (FlatsPost n m (sameH h.flatten) w) := by
  have G := Grid.of hg
  have hK := slicesConcat_any v h w hv G.n1 (Nat.le_trans G.n5 (by decide)) (fun r hr => by have := G.len r hr; have := G.m1; have := G.m5; omega)
  have hpl := flat_grid_len G
  rw [en, em] at hpl
  obtain ⟨p, ep⟩ : ∃ p, h.flatten = p := ⟨_, rfl⟩
  rw [ep] at hK hpl ⊢
  have HK := Lib.hid hK
  obtain ⟨N, eN⟩ : ∃ N, n * m = N := ⟨_, rfl⟩
  rw [eN] at hpl
  have HP : Hid (∀ (B g c : Nat) (w1 : World), Grew w w1 → B < w1.heap.size → w1.cell? ⟨B, 0, none⟩ = some (.slice (some ⟨g, 0, none⟩) N c) → IntsO 3 w.heap.size w1.heap.size w1 (.slice (some ⟨g, 0, none⟩) N c) p →
      Calls Tryd.prog 106 #[v, .func (.func 72) #[] #[], .func (.func 118) #[] #[.pointer (some ⟨B, 0, none⟩)]] w1 (FlatsPost n m (sameH p) w)) := by
    refine Lib.hid fun B g c w1 hg1 hB hcB hO => ?_
    refine (firstsOfPieces_any v h n m (sameH p) (sameH_symm p) 118 #[.pointer (some ⟨B, 0, none⟩)] (enters_of Tryd.func118 (by kernel_rfl) rfl) w1 (hv.grew hg1) hg (hS.grew hg1) en em ?_).mono fun e w' hh => hh.from hg1
    intro I K W hW hI hK
    rw [eN] at hI hK
    have hOW := hO.grew hW
    exact sameClo_any B g c N I K p W (hW.cell hcB) hI hK (hOW.at rfl (by omega)).1 (hOW.at rfl (by omega)).1
  obtain ⟨a, b, o, c, rfl, _, _, _⟩ := hv.shape
  clear hv hg hS G hK en em ep eN
  have hmf : ∀ (fn : Fn) (first cap : Array Value) (w : World), (Instr.makeFunc fn first cap).run Tryd.prog w = .ok (.func fn first cap) w := fun _ _ _ _ => rfl
  go_enter Tryd.func101, Tryd.ntmps101
  go_wp2_with (fail)
  refine HK.out.mono ?_
  rintro e w1 ⟨g1, c1, rfl, hO1, hg1⟩
  rw [hpl] at hO1 ⊢
  have H1 : Hid (IntsO 3 w.heap.size (w1.alloc (.cells #[.slice (some ⟨g1, 0, none⟩) N c1] 22)).heap.size (w1.alloc (.cells #[.slice (some ⟨g1, 0, none⟩) N c1] 22)) (.slice (some ⟨g1, 0, none⟩) N c1) p ∧ Grew w (w1.alloc (.cells #[.slice (some ⟨g1, 0, none⟩) N c1] 22))) :=
    Lib.hid ⟨(hO1.grew ((Grew.refl w1).alloc _)).wide (Nat.le_refl _) (by simp), hg1.alloc _⟩
  clear hO1 hg1 hpl
  go_wp2_with (fail)
  refine (HP.out w1.heap.size g1 c1 _ H1.out.2 (by simp) (by simp) H1.out.1).mono ?_
  rintro e w2 ⟨g2, c2, fs, rfl, hO2, hF2, hg2⟩
  have HF := Lib.hid (And.intro hO2 (And.intro hF2 hg2))
  clear hO2 hF2 hg2
  go_wp2
  go_ret
  exact ⟨g2, c2, fs, rfl, HF.out⟩
end Go.Proofs.YtaeenedjmakelaaDoor
