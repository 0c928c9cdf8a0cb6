/- The contract of spec.pieces: a search among all cells, over and over. -/
import Derived.Test.YtaeenedjmakelaaDoorSTouch
namespace Go.Proofs.YtaeenedjmakelaaDoor
open Go.RowKit

def belX (p : List Int) (t : Int) (ab : Bool) (i : Nat) : Bool := above p t i == ab
set_option maxRecDepth 100000 in
set_option maxHeartbeats 4000000 in
theorem spieces_any (v : Value) (h : List (List Int)) (t : Int) (ab cor : Bool) (w : World) (hv : RowsV w v h) (hg : vGrid h = true) :
    Calls Tryd.prog 75 #[v, .int .i64 t, .bool ab, .bool cor] w fun e w' => e = .returned (.int .i64 (cntT (h.length * (h.getD 0 []).length) (touchB (h.getD 0 []).length cor) (belX h.flatten t ab) (h.length * (h.getD 0 []).length))) ∧ Grew w w' := by
  have G := Grid.of hg
  have hn5 := G.n5
  have hn1 := G.n1
  have hm5 := G.m5
  have hm1 := G.m1
  obtain ⟨N, eN⟩ : ∃ N, h.length * (h.getD 0 []).length = N := ⟨_, rfl⟩
  have hN25 : N ≤ 25 := by rw [← eN]; exact Nat.mul_le_mul hn5 hm5
  have HCE : Hid (∀ W, Grew w W → Calls Tryd.prog 89 #[v] W fun e w' => e = .returned (.int .i64 (N : Int)) ∧ W = w') := fun W hW => by
    have := cells_any v h W (hv.grew hW) hn1 (by omega) (by omega)
    rwa [eN] at this
  have HAT : Hid (∀ (I : Nat) (W : World), Grew w W → I < N → Calls Tryd.prog 93 #[v, .int .i64 I] W fun e w' => e = .returned (.int .i64 (h.flatten.getD I 0)) ∧ ∃ q, w' = W.drewN q) := fun I W hW hI => at_any v h I W (hv.grew hW) hg (by rw [eN]; exact hI)
  have HTO : Hid (∀ (i k : Nat) (W : World), Grew w W → i < N → k < N → Calls Tryd.prog 109 #[v, .int .i64 i, .int .i64 k, .bool cor] W fun e w' => e = .returned (.bool (touchB (h.getD 0 []).length cor i k)) ∧ Grew W w') := fun i k W hW hi hk => touching_any v h i k cor W (hv.grew hW) hg (by rw [eN]; exact hi) (by rw [eN]; exact hk)
  rw [eN]
  obtain ⟨p, ep⟩ : ∃ p, h.flatten = p := ⟨_, rfl⟩
  obtain ⟨T, eT⟩ : ∃ T, touchB (h.getD 0 []).length cor = T := ⟨_, rfl⟩
  obtain ⟨bel, eb⟩ : ∃ bel, belX p t ab = bel := ⟨_, rfl⟩
  rw [ep] at HAT ⊢
  rw [eT] at HTO ⊢
  rw [eb]
  have HB : Hid (∀ i x d, p.getD i 0 = x → decide (t < x) = d → bel i = (d == ab)) := Lib.hid fun i x d h1 h2 => by
    rw [← eb, belX, above, h1, h2]
  obtain ⟨a, b, o, c, rfl, ⟨hlc, hcb⟩, _, _⟩ := hv.shape
  clear hv hg G hm5 hm1 hn5 hn1 ep eN eT eb
  go_enter Tryd.func75, Tryd.ntmps75
  go_wp2_with (fail)
  refine (HCE.out w (Grew.refl _)).mono ?_
  rintro e w1 ⟨rfl, rfl⟩
  go_wp2_with (at_make; refine wpList_make_bools rfl (.tmp 18) (.tmp 18) 29 rfl Tryd.underlying29 Tryd.infoBool rfl rfl rfl rfl (by omega) ?_; intro w3 hO3 hg3 hs3)
  obtain ⟨gs, egs⟩ : ∃ gs, w.heap.size = gs := ⟨_, rfl⟩
  obtain ⟨B0, eB0⟩ : ∃ B0, w3.heap.size = B0 := ⟨_, rfl⟩
  have H0 : Hid (BoolsO 4 gs B0 w3 (.slice (some ⟨gs, 0, none⟩) N N) (List.replicate N false) ∧ Grew w w3 ∧ B0 ≤ w3.heap.size) := Lib.hid ⟨by rw [← egs, ← eB0]; exact hO3, hg3, by omega⟩
  rw [egs]
  clear hO3 hg3 hs3 eB0
  go_wp2
  go_loopw [11, 12] (fun ov iv wr => ∃ (i : Nat) (out : Int), iv = .int .i64 i ∧ ov = .int .i64 out ∧ i ≤ N ∧ Hid (∃ sb, BoolsO 4 gs B0 wr (.slice (some ⟨gs, 0, none⟩) N N) sb ∧ TOut N T bel i sb out ∧ Grew w wr ∧ B0 ≤ wr.heap.size)) (fun _ iv _ => N - (intOf iv).toNat)
  case atStart => exact ⟨0, 0, rfl, rfl, Nat.zero_le _, _, H0.out.1, tOut_start N T bel, H0.out.2.1, H0.out.2.2⟩
  case round =>
    obtain ⟨i, out, rfl, rfl, hi, HI⟩ := hrel
    clear H0
    by_cases hlt : i < N
    · obtain ⟨sb, hf, hT, hgr, hB⟩ := HI.out
      have hii : (i : Int) < (N : Int) := by omega
      have hoc := cntT_le N T bel i
      rw [← hT.cnt] at hoc
      obtain ⟨hel, hfr⟩ := hf.at rfl (i := i) (by rw [hT.len]; exact hlt)
      cases hs : sb.getD i false with
      | true =>
        rw [hs] at hel
        have HE : Hid (∃ sb, BoolsO 4 gs B0 wr (.slice (some ⟨gs, 0, none⟩) N N) sb ∧ TOut N T bel (i + 1) sb out ∧ Grew w wr ∧ B0 ≤ wr.heap.size) := Lib.hid ⟨sb, hf, hT.skip hlt (.inl hs), hgr, hB⟩
        clear HI hf hT hgr hB hs hfr hoc
        go_wp2
        go_roundw
        case rel => exact ⟨i + 1, out, by go_num, rfl, by omega, HE.out⟩
        case measure => simp [intOf]; omega
      | false =>
        rw [hs] at hel
        have hat := HAT.out i wr hgr hlt
        obtain ⟨x, ex⟩ : ∃ x, p.getD i 0 = x := ⟨_, rfl⟩
        rw [ex] at hat
        obtain ⟨d, ed⟩ : ∃ d, decide (t < x) = d := ⟨_, rfl⟩
        have hbel := HB.out i x d ex ed
        have HA := Lib.hid hat
        have HD : Hid (∀ W, Grew wr W → ∃ sb, BoolsO 4 gs B0 W (.slice (some ⟨gs, 0, none⟩) N N) sb ∧ TOut N T bel i sb out ∧ Grew w W ∧ B0 ≤ W.heap.size ∧ sb.getD i false = false) := Lib.hid fun W hW => ⟨sb, hf.grew hW, hT, hgr.trans hW, Nat.le_trans hB hW.size, hs⟩
        clear HI hf hT hgr hB hs hat ex
        go_wp2_with (fail)
        refine HA.out.mono ?_
        rintro e wq ⟨rfl, hq⟩
        have hdr := quiet_grew hq
        have HQ := Lib.hid hdr
        have HD2 := Lib.hid (HD.out wq hdr)
        clear hq HA hel hfr
        by_cases hne : (d == ab) = true
        · rw [hne] at hbel
          obtain ⟨sb, hf, hT, hgr, hB, hs⟩ := HD2.out
          obtain ⟨hel, hfr⟩ := hf.at rfl (i := i) (by rw [hT.len]; exact hlt)
          rw [hs] at hel
          have hgb := hf.blk
          have hwi : Within gs B0 wq (wq.setCell ⟨gs, i, none⟩ (.bool true)) := (Within.refl _ _ _).setCell (p := ⟨gs, i, none⟩) hgb.1 hgb.2 _
          have hszs : (wq.setCell ⟨gs, i, none⟩ (.bool true)).heap.size = wq.heap.size := by simp
          have hlit := IntsO.lit 3 (wq.setCell ⟨gs, i, none⟩ (.bool true)).heap.size (wq.setCell ⟨gs, i, none⟩ (.bool true)) [(i : Int)] #[.int .i64 i] rfl (Nat.le_refl _) (show 1 ≤ maxLen by decide)
          rw [hszs] at hlit
          have hal : Grew (wq.setCell ⟨gs, i, none⟩ (.bool true)) ((wq.setCell ⟨gs, i, none⟩ (.bool true)).alloc (.cells #[.int .i64 i] 3)) := (Grew.refl _).alloc _
          have hin := hT.begin hlt hs hbel
          obtain ⟨BL, eBL⟩ : ∃ BL, wq.heap.size = BL := ⟨_, rfl⟩
          rw [eBL] at hlit hB hszs
          have HF : Hid (∃ sb, BoolsO 4 gs B0 ((wq.setCell ⟨gs, i, none⟩ (.bool true)).alloc (.cells #[.int .i64 i] 3)) (.slice (some ⟨gs, 0, none⟩) N N) sb ∧ IntsO 3 BL (BL + 1) ((wq.setCell ⟨gs, i, none⟩ (.bool true)).alloc (.cells #[.int .i64 i] 3)) (.slice (some ⟨BL, 0, none⟩) 1 1) [(i : Int)] ∧ TIn N T bel i sb (out + 1) [(i : Int)] 0 0 ∧ Grew w ((wq.setCell ⟨gs, i, none⟩ (.bool true)).alloc (.cells #[.int .i64 i] 3)) ∧ B0 ≤ ((wq.setCell ⟨gs, i, none⟩ (.bool true)).alloc (.cells #[.int .i64 i] 3)).heap.size ∧ B0 ≤ BL) :=
            Lib.hid ⟨_, ((hf.set rfl i true).grew hal), hlit.at1, hin, (Within.grew hgr hwi (by omega)).trans hal, by simp; omega, hB⟩
          clear hf hT hgr hB hs hgb hwi hlit hal hin HD HD2 HQ hdr hbel
          go_wp2_with (fail)
          try rw [hszs]
          try rw [eBL]
          clear hszs eBL hel hfr
          go_loopg [13, 14] N (fun gk v kv wm => ∃ q ls g c', v = .slice (some ⟨g, 0, none⟩) (List.length ls) c' ∧ kv = .int .i64 ((q : Nat) : Int) ∧ q ≤ List.length ls ∧ List.length ls ≤ N ∧ N ≤ gk + q ∧
            Hid (∃ sb, BoolsO 4 gs B0 wm (.slice (some ⟨gs, 0, none⟩) N N) sb ∧ IntsO 3 g (g + 1) wm v ls ∧ TIn N T bel i sb (out + 1) ls q 0 ∧ Grew w wm ∧ B0 ≤ wm.heap.size ∧ B0 ≤ g))
          case atStart => exact ⟨0, [(i : Int)], _, _, rfl, rfl, by simp, by simp; omega, by omega, HF.out⟩
          case round =>
            obtain ⟨q, ls, g, c', rfl, rfl, hq1, hq3, hq2, HM⟩ := hrel
            clear HF
            by_cases hlq : q < ls.length
            · obtain ⟨wm, rfl⟩ : ∃ wm : World, wm = wr := ⟨_, rfl⟩
              obtain ⟨gm, rfl⟩ : ∃ gm : Nat, gm = gk := ⟨_, rfl⟩
              have hqi : (q : Int) < (ls.length : Int) := by omega
              go_wp2
              go_loopg [13, 15] N (fun gl v xv wi => ∃ x ls g c', v = .slice (some ⟨g, 0, none⟩) (List.length ls) c' ∧ xv = .int .i64 ((x : Nat) : Int) ∧ x ≤ N ∧ q < List.length ls ∧ List.length ls ≤ N ∧ N ≤ gl + x ∧
                Hid (∃ sb, BoolsO 4 gs B0 wi (.slice (some ⟨gs, 0, none⟩) N N) sb ∧ IntsO 3 g (g + 1) wi v ls ∧ TIn N T bel i sb (out + 1) ls q x ∧ Grew w wi ∧ B0 ≤ wi.heap.size ∧ B0 ≤ g))
              case atStart => exact ⟨0, ls, _, _, rfl, rfl, Nat.zero_le _, hlq, hq3, by omega, HM.out⟩
              case round =>
                obtain ⟨x, ls1, g1, c1, rfl, rfl, hx1, hqm, hm3, hx2, HX⟩ := hrel
                clear HM
                by_cases hlx : x < N
                · obtain ⟨sb, hf, hm, hG, hgr, hB, hgl⟩ := HX.out
                  obtain ⟨X, hX1, hXN, _, _⟩ := hG.mem q hqm
                  have hxi : (x : Int) < (N : Int) := by omega
                  have hqi1 : (q : Int) < (ls1.length : Int) := by omega
                  obtain ⟨hel, hfr⟩ := hf.at rfl (i := x) (by rw [hG.len]; exact hlx)
                  cases hs : sb.getD x false with
                  | true =>
                    rw [hs] at hel
                    have HE : Hid (∃ sb, BoolsO 4 gs B0 wr (.slice (some ⟨gs, 0, none⟩) N N) sb ∧ IntsO 3 g1 (g1 + 1) wr (.slice (some ⟨g1, 0, none⟩) ls1.length c1) ls1 ∧ TIn N T bel i sb (out + 1) ls1 q (x + 1) ∧ Grew w wr ∧ B0 ≤ wr.heap.size ∧ B0 ≤ g1) := Lib.hid ⟨sb, hf, hm, hG.pass hX1 (.inl hs), hgr, hB, hgl⟩
                    clear HX hf hm hG hgr hB hgl hX1 hXN hs hfr
                    go_wp2
                    go_roundg (gk - 1)
                    case measure => omega
                    case rel => exact ⟨x + 1, ls1, g1, c1, rfl, by go_num, by omega, hqm, hm3, by omega, HE.out⟩
                  | false =>
                    rw [hs] at hel
                    have hat := HAT.out x wr hgr hlx
                    obtain ⟨px, epx⟩ : ∃ y, p.getD x 0 = y := ⟨_, rfl⟩
                    rw [epx] at hat
                    obtain ⟨d2, ed2⟩ : ∃ d, decide (t < px) = d := ⟨_, rfl⟩
                    have hbx := HB.out x px d2 epx ed2
                    have HA2 := Lib.hid hat
                    have HD3 : Hid (∀ W, Grew wr W → BoolsO 4 gs B0 W (.slice (some ⟨gs, 0, none⟩) N N) sb ∧ IntsO 3 g1 (g1 + 1) W (.slice (some ⟨g1, 0, none⟩) ls1.length c1) ls1 ∧ Grew w W ∧ B0 ≤ W.heap.size) := Lib.hid fun W hW => ⟨hf.grew hW, hm.grew hW, hgr.trans hW, Nat.le_trans hB hW.size⟩
                    have HG := Lib.hid (And.intro hG (And.intro hgl (And.intro hX1 (And.intro hXN hs))))
                    clear HX hf hm hG hgr hB hgl hX1 hXN hs hat epx
                    go_wp2_with (fail)
                    refine HA2.out.mono ?_
                    rintro e wq2 ⟨rfl, hq⟩
                    have hdr := quiet_grew hq
                    have HQ2 := Lib.hid hdr
                    have hlk : wq2.cell? ⟨g1, q, none⟩ = some (.int .i64 (X : Int)) := by
                      rw [← HG.out.2.2.1]
                      exact ((HD3.out wq2 hdr).2.1.at rfl hqm).1
                    clear hq hdr HA2 hel hfr
                    cases hb2 : (d2 == ab) with
                    | false =>
                      have HE : Hid (∃ sb, BoolsO 4 gs B0 wq2 (.slice (some ⟨gs, 0, none⟩) N N) sb ∧ IntsO 3 g1 (g1 + 1) wq2 (.slice (some ⟨g1, 0, none⟩) ls1.length c1) ls1 ∧ TIn N T bel i sb (out + 1) ls1 q (x + 1) ∧ Grew w wq2 ∧ B0 ≤ wq2.heap.size ∧ B0 ≤ g1) := by
                        obtain ⟨e1, e2, e3, e4⟩ := HD3.out wq2 HQ2.out
                        exact Lib.hid ⟨sb, e1, e2, HG.out.1.pass HG.out.2.2.1 (.inr (.inl (by rw [hbx, hb2]))), e3, e4, HG.out.2.1⟩
                      clear HD3 HG HQ2 hlk hbx
                      go_wp2
                      go_roundg (gk - 1)
                      case measure => omega
                      case rel => exact ⟨x + 1, ls1, g1, c1, rfl, by go_num, by omega, hqm, hm3, by omega, HE.out⟩
                    | true =>
                      have HTX := Lib.hid (HTO.out X x wq2 (HD3.out wq2 HQ2.out).2.2.1 HG.out.2.2.2.1 hlx)
                      rw [hb2] at hbx
                      have HBX := Lib.hid hbx
                      clear hbx
                      go_wp2_with (fail)
                      refine HTX.out.mono ?_
                      rintro e w6 ⟨rfl, hg6⟩
                      have HG6 := Lib.hid (HQ2.out.trans hg6)
                      clear hg6 hlk HQ2 HTX
                      cases htt : T X x with
                      | false =>
                        have HE : Hid (∃ sb, BoolsO 4 gs B0 w6 (.slice (some ⟨gs, 0, none⟩) N N) sb ∧ IntsO 3 g1 (g1 + 1) w6 (.slice (some ⟨g1, 0, none⟩) ls1.length c1) ls1 ∧ TIn N T bel i sb (out + 1) ls1 q (x + 1) ∧ Grew w w6 ∧ B0 ≤ w6.heap.size ∧ B0 ≤ g1) := by
                          obtain ⟨e1, e2, e3, e4⟩ := HD3.out w6 HG6.out
                          exact Lib.hid ⟨sb, e1, e2, HG.out.1.pass HG.out.2.2.1 (.inr (.inr htt)), e3, e4, HG.out.2.1⟩
                        clear HD3 HG HG6 htt
                        go_wp2
                        go_roundg (gk - 1)
                        case measure => omega
                        case rel => exact ⟨x + 1, ls1, g1, c1, rfl, by go_num, by omega, hqm, hm3, by omega, HE.out⟩
                      | true =>
                        obtain ⟨e1, e2, e3, e4⟩ := HD3.out w6 HG6.out
                        have htell := HG.out.1.tell hqm hlx HG.out.2.2.2.2 HBX.out HG.out.2.2.1 htt
                        have hroom : ls1.length + 1 ≤ N := by
                          have := htell.lslen
                          rwa [List.length_append, List.length_singleton] at this
                        obtain ⟨hel, hfr⟩ := e1.at rfl (i := x) (by rw [HG.out.1.len]; exact hlx)
                        have hgb := e1.blk
                        have hgl := HG.out.2.1
                        have hwi : Within gs B0 w6 (w6.setCell ⟨gs, x, none⟩ (.bool true)) := (Within.refl _ _ _).setCell (p := ⟨gs, x, none⟩) hgb.1 hgb.2 _
                        have hszs : (w6.setCell ⟨gs, x, none⟩ (.bool true)).heap.size = w6.heap.size := by simp
                        have HE1 : Hid (BoolsO 4 gs B0 (w6.setCell ⟨gs, x, none⟩ (.bool true)) (.slice (some ⟨gs, 0, none⟩) N N) (sb.set x true) ∧ IntsO 3 g1 (g1 + 1) (w6.setCell ⟨gs, x, none⟩ (.bool true)) (.slice (some ⟨g1, 0, none⟩) ls1.length c1) ls1 ∧ Grew w (w6.setCell ⟨gs, x, none⟩ (.bool true)) ∧ B0 ≤ (w6.setCell ⟨gs, x, none⟩ (.bool true)).heap.size ∧ B0 ≤ g1 ∧ TIn N T bel i (sb.set x true) (out + 1) (ls1 ++ [(x : Int)]) q (x + 1)) :=
                          Lib.hid ⟨e1.set rfl x true, e2.within hwi (.inr hgl), Within.grew e3 hwi (by omega), by rw [hszs]; exact e4, hgl, htell⟩
                        clear e1 e2 e3 e4 htell hgb hgl hwi hszs HD3 HG HG6 HBX htt
                        go_wp2_with (at_builtin; refine wpList_append_int_at rfl (.tmp 83) (.tmp 85) 22 rfl Tryd.underlying22 Tryd.infoI rfl rfl (by simp) HE1.out.2.1 (by omega) rfl ?_; intro g8 c8 w8 hO8 hW8 hat8 hlt8)
                        have HX2 : Hid (∃ sb, BoolsO 4 gs B0 w8 (.slice (some ⟨gs, 0, none⟩) N N) sb ∧ IntsO 3 g8 (g8 + 1) w8 (.slice (some ⟨g8, 0, none⟩) (ls1.length + 1) c8) (ls1 ++ [(x : Int)]) ∧ TIn N T bel i sb (out + 1) (ls1 ++ [(x : Int)]) q (x + 1) ∧ Grew w w8 ∧ B0 ≤ w8.heap.size ∧ B0 ≤ g8) := by
                          obtain ⟨d1, d2, d3, d4, d5, d6⟩ := HE1.out
                          have hww := hW8.size
                          have hb0 := d1.blk
                          refine Lib.hid ⟨_, d1.within hW8 (.inl d5), hO8, d6, Within.grew d3 hW8 (by omega), by omega, ?_⟩
                          rcases hat8 with h | h <;> omega
                        clear HE1 hO8 hW8 hat8
                        go_wp2
                        go_roundg (gk - 1)
                        case measure => omega
                        case rel => exact ⟨x + 1, ls1 ++ [(x : Int)], g8, c8, by simp, by go_num, by omega, by simp; omega, by simp; omega, by omega, HX2⟩
                · obtain rfl : x = N := by omega
                  have HE : Hid (∃ sb, BoolsO 4 gs B0 wr (.slice (some ⟨gs, 0, none⟩) x x) sb ∧ IntsO 3 g1 (g1 + 1) wr (.slice (some ⟨g1, 0, none⟩) ls1.length c1) ls1 ∧ TIn x T bel i sb (out + 1) ls1 (q + 1) 0 ∧ Grew w wr ∧ B0 ≤ wr.heap.size ∧ B0 ≤ g1) := by
                    obtain ⟨sb, h1, h2, h3, h4⟩ := HX.out
                    exact Lib.hid ⟨sb, h1, h2, h3.next, h4⟩
                  clear HX
                  go_wp2
                  go_roundg (gm - 1)
                  case measure => omega
                  case rel => exact ⟨q + 1, ls1, g1, c1, rfl, by go_num, by omega, hm3, by omega, HE.out⟩
            · have HE : Hid (∃ sb, BoolsO 4 gs B0 wr (.slice (some ⟨gs, 0, none⟩) N N) sb ∧ TOut N T bel (i + 1) sb (out + 1) ∧ Grew w wr ∧ B0 ≤ wr.heap.size) := by
                obtain ⟨sb, h1, _, h3, h4, h5, _⟩ := HM.out
                obtain rfl : q = ls.length := by omega
                exact Lib.hid ⟨sb, h1, h3.finish, h4, h5⟩
              clear HM
              go_wp2
              go_roundw
              case rel => exact ⟨i + 1, out + 1, by go_num, by go_num, by omega, HE.out⟩
              case measure => simp [intOf]; omega
        · simp only [Bool.not_eq_true] at hne
          rw [hne] at hbel
          have HE : Hid (∃ sb, BoolsO 4 gs B0 wq (.slice (some ⟨gs, 0, none⟩) N N) sb ∧ TOut N T bel (i + 1) sb out ∧ Grew w wq ∧ B0 ≤ wq.heap.size) := by
            obtain ⟨sb, h1, h2, h3, h4, _⟩ := HD2.out
            exact Lib.hid ⟨sb, h1, h2.skip hlt (.inr hbel), h3, h4⟩
          clear HD HD2 HQ hdr hbel
          go_wp2
          go_roundw
          case rel => exact ⟨i + 1, out, by go_num, rfl, by omega, HE.out⟩
          case measure => simp [intOf]; omega
    · obtain rfl : i = N := by omega
      have HF : Hid (out = cntT i T bel i ∧ Grew w wr) := by
        obtain ⟨sb, _, h2, h3, _⟩ := HI.out
        exact Lib.hid ⟨h2.cnt, h3⟩
      clear HI
      go_wp2
      go_ret
      exact ⟨ret_int HF.out.1, HF.out.2⟩
end Go.Proofs.YtaeenedjmakelaaDoor
