/- FnExactSpringsOf: for every input the law returns true, and the input reads as it did, where the table of steps reads as the program's text lays it; tied to that text. Its conditions: that one listed variable, tied. -/
import Derived.Test.YtekhjjcgkmnmlaaDoorExact
import Derived.Test.YtekhjjcgkmnmlaaDoorBase
import Derived.Test.YtekhjjcgkmnmlaaDoorSOrders
import Derived.Test.YtekhjjcgkmnmlaaDoorSFlow
import Derived.Test.YtekhjjcgkmnmlaaDoorMark
import Derived.Test.YtekhjjcgkmnmlaaDoorStrT
import Derived.Test.YtekhjjcgkmnmlaaDoorCameRows
import Derived.Test.YtekhjjcgkmnmlaaDoorTied
import Derived.Test.YtekhjjcgkmnmlaaDoorWords
import Derived.Test.YtekhjjcgkmnmlaaDoorTie
import Derived.Test.YtekhjjcgkmnmlaaDoorCards
import Derived.SevenTiedAt
/- The contracts of laws.eqIntS and laws.eqIntSS. -/
namespace Go.Proofs.YtekhjjcgkmnmlaaDoor
open Go.RowKit

set_option maxRecDepth 100000 in
set_option maxHeartbeats 1000000 in
theorem eqIntS_any (v1 v2 : Value) (xs ys : List Int) (w : World) (hv1 : IntsV w v1 xs) (hv2 : IntsV w v2 ys) :
    Calls Tryd.prog 63 #[v1, v2] w (QuietBool (decide (xs = ys)) w) := by
  obtain ⟨a, b, o, c, rfl, ⟨hlc, hcb⟩, ha, HC⟩ := hv1.shape
  obtain ⟨a2, b2, o2, c2, rfl, ⟨hlc2, hcb2⟩, ha2, HC2⟩ := hv2.shape
  have HA := Lib.hid ha
  have HA2 := Lib.hid ha2
  clear hv1 hv2 ha ha2
  by_cases hl : xs.length = ys.length
  · have hn : ((xs.length : Int) != (ys.length : Int)) = false := by simp [hl]
    have HL := Lib.hid hl
    clear hl
    go_enter Tryd.func63, Tryd.ntmps63
    go_wp2
    clear hn
    go_loopw [5] (fun i wr => ∃ k : Nat, k ≤ xs.length ∧ i = .int .i64 k ∧ Hid (xs.take k = ys.take k ∧ ∃ n, wr = w.drewN n)) (fun i _ => xs.length - (intOf i).toNat)
    case atStart => exact ⟨0, Nat.zero_le _, rfl, rfl, 0, rfl⟩
    case round =>
      obtain ⟨k, hk, rfl, HI⟩ := hrel
      have HW := Lib.hid (quiet_grew HI.out.2)
      by_cases hlt : k < xs.length
      · have hlt2 : k < ys.length := by have := HL.out; omega
        obtain rfl := HA.out (by omega)
        obtain rfl := HA2.out (by omega)
        have hc1 := HW.out.cell (HC.out k hlt)
        have hc2 := HW.out.cell (HC2.out k hlt2)
        obtain ⟨x, ex⟩ : ∃ x, xs.getD k 0 = x := ⟨_, rfl⟩
        obtain ⟨y, ey⟩ : ∃ y, ys.getD k 0 = y := ⟨_, rfl⟩
        rw [ex] at hc1
        rw [ey] at hc2
        have HE := Lib.hid (And.intro ex ey)
        have r1 : (k : Int) < xs.length := by omega
        have r2 : (k : Int) < ys.length := by omega
        have r3 : (0 : Int) ≤ k := by omega
        clear ex ey
        by_cases hxy : x = y
        · have ht : (x != y) = false := by simp [hxy]
          have HXY := Lib.hid hxy
          clear hxy
          go_wp2
          go_quiet (fail)
          go_wp2
          go_roundw
          case rel => exact ⟨k + 1, by omega, by go_num, take_eq_snoc 0 hlt hlt2 HI.out.1 (by rw [HE.out.1, HE.out.2, HXY.out]), quiet_step HI.out.2 _⟩
          case measure => simp [intOf]; omega
        · have ht : (x != y) = true := by simp [hxy]
          have HXY := Lib.hid hxy
          clear hxy
          go_wp2
          go_quiet (fail)
          go_wp2
          go_ret
          refine ⟨ret_bool ?_, quiet_step HI.out.2 _⟩
          have : xs ≠ ys := fun e => HXY.out (by rw [← HE.out.1, ← HE.out.2, e])
          simp [this]
      · go_wp2
        go_ret
        refine ⟨ret_bool ?_, HI.out.2⟩
        have := HI.out.1
        rw [List.take_of_length_le (by omega), List.take_of_length_le (by have := HL.out; omega)] at this
        simp [this]
  · have hn : ((xs.length : Int) != (ys.length : Int)) = true := by simp; omega
    have HL := Lib.hid hl
    clear hl
    go_enter Tryd.func63, Tryd.ntmps63
    go_wp2
    go_ret
    refine ⟨ret_bool ?_, 0, rfl⟩
    have : xs ≠ ys := fun e => HL.out (by rw [e])
    simp [this]

set_option maxRecDepth 100000 in
set_option maxHeartbeats 1000000 in
theorem eqIntSS_any (v1 v2 : Value) (xs ys : List (List Int)) (w : World) (hv1 : RowsV w v1 xs) (hv2 : RowsV w v2 ys) :
    Calls Tryd.prog 37 #[v1, v2] w (QuietBool (decide (xs = ys)) w) := by
  obtain ⟨a, b, o, c, rfl, ⟨hlc, hcb⟩, ha, HC⟩ := hv1.shape
  obtain ⟨a2, b2, o2, c2, rfl, ⟨hlc2, hcb2⟩, ha2, HC2⟩ := hv2.shape
  have HA := Lib.hid ha
  have HA2 := Lib.hid ha2
  clear hv1 hv2 ha ha2
  by_cases hl : xs.length = ys.length
  · have hn : ((xs.length : Int) != (ys.length : Int)) = false := by simp [hl]
    have HL := Lib.hid hl
    clear hl
    go_enter Tryd.func37, Tryd.ntmps37
    go_wp2
    clear hn
    go_loopw [5] (fun i wr => ∃ k : Nat, k ≤ xs.length ∧ i = .int .i64 k ∧ Hid (xs.take k = ys.take k ∧ ∃ n, wr = w.drewN n)) (fun i _ => xs.length - (intOf i).toNat)
    case atStart => exact ⟨0, Nat.zero_le _, rfl, rfl, 0, rfl⟩
    case round =>
      obtain ⟨k, hk, rfl, HI⟩ := hrel
      have HW := Lib.hid (quiet_grew HI.out.2)
      by_cases hlt : k < xs.length
      · have hlt2 : k < ys.length := by have := HL.out; omega
        obtain rfl := HA.out (by omega)
        obtain rfl := HA2.out (by omega)
        obtain ⟨u1, hc1', hu1⟩ := HC.out k hlt
        obtain ⟨u2, hc2', hu2⟩ := HC2.out k hlt2
        have hc1 := HW.out.cell hc1'
        have hc2 := HW.out.cell hc2'
        obtain ⟨x, ex⟩ : ∃ x, xs.getD k [] = x := ⟨_, rfl⟩
        obtain ⟨y, ey⟩ : ∃ y, ys.getD k [] = y := ⟨_, rfl⟩
        rw [ex] at hu1
        rw [ey] at hu2
        have HK : Hid (∀ m, Calls Tryd.prog 63 #[u1, u2] (wr.drewN m) fun e w' => e = .returned (.bool (decide (x = y))) ∧ ∃ k, w' = (wr.drewN m).drewN k) := fun m => eqIntS_any u1 u2 x y _ (hu1.grew (HW.out.drewN m)) (hu2.grew (HW.out.drewN m))
        obtain ⟨a3, b3, o3, c3, rfl, _, _, _⟩ := hu1.shape
        obtain ⟨a4, b4, o4, c4, rfl, _, _, _⟩ := hu2.shape
        have HE := Lib.hid (And.intro ex ey)
        have r1 : (k : Int) < xs.length := by omega
        have r2 : (k : Int) < ys.length := by omega
        have r3 : (0 : Int) ≤ k := by omega
        clear ex ey hu1 hu2 hc1' hc2'
        by_cases hxy : x = y
        · have HK2 := HK.out
          have e : decide (x = y) = true := by simp [hxy]
          rw [e] at HK2
          have HK3 := Lib.hid HK2
          have HXY := Lib.hid hxy
          clear hxy HK2 HK e
          go_wp2
          go_quiet ((go_at_call 63; exact Calls.quiet_of (HK3.out _)))
          go_wp2
          go_roundw
          case rel => exact ⟨k + 1, by omega, by go_num, take_eq_snoc [] hlt hlt2 HI.out.1 (by rw [HE.out.1, HE.out.2, HXY.out]), quiet_step HI.out.2 _⟩
          case measure => simp [intOf]; omega
        · have HK2 := HK.out
          have e : decide (x = y) = false := by simp [hxy]
          rw [e] at HK2
          have HK3 := Lib.hid HK2
          have HXY := Lib.hid hxy
          clear hxy HK2 HK e
          go_wp2
          go_quiet ((go_at_call 63; exact Calls.quiet_of (HK3.out _)))
          go_wp2
          go_ret
          refine ⟨ret_bool ?_, quiet_step HI.out.2 _⟩
          have : xs ≠ ys := fun e => HXY.out (by rw [← HE.out.1, ← HE.out.2, e])
          simp [this]
      · go_wp2
        go_ret
        refine ⟨ret_bool ?_, HI.out.2⟩
        have := HI.out.1
        rw [List.take_of_length_le (by omega), List.take_of_length_le (by have := HL.out; omega)] at this
        simp [this]
  · have hn : ((xs.length : Int) != (ys.length : Int)) = true := by simp; omega
    have HL := Lib.hid hl
    clear hl
    go_enter Tryd.func37, Tryd.ntmps37
    go_wp2
    go_ret
    refine ⟨ret_bool ?_, 0, rfl⟩
    have : xs ≠ ys := fun e => HL.out (by rw [e])
    simp [this]
end Go.Proofs.YtekhjjcgkmnmlaaDoor
/- The contract of laws.toIntSS. -/
namespace Go.Proofs.YtekhjjcgkmnmlaaDoor
open Go.RowKit

/-- The first k rows, empty ones behind. -/
def upToR (h : List (List Int)) (k : Nat) : List (List Int) := h.take k ++ List.replicate (h.length - k) []
theorem upToR_len (h : List (List Int)) (k : Nat) (hk : k ≤ h.length) : (upToR h k).length = h.length := by simp [upToR]; omega
theorem upToR_set (h : List (List Int)) (k : Nat) (hk : k < h.length) : (upToR h k).set k (h.getD k []) = upToR h (k + 1) := by
  unfold upToR
  have e1 : (h.take k).length = k := by simp; omega
  have e2 : h.length - k = (h.length - (k + 1)) + 1 := by omega
  rw [List.set_append_right _ _ (by omega), e1, Nat.sub_self, e2, List.replicate_succ, List.set_cons_zero, List.take_succ_eq_append_getElem hk, List.append_assoc]
  simp [hk]

def CopyRows (w : World) (h : List (List Int)) (e : Ending) (w' : World) : Prop := ∃ g c, e = .returned (.slice (some ⟨g, 0, none⟩) h.length c) ∧ RowsO 27 3 w.heap.size w'.heap.size w' (.slice (some ⟨g, 0, none⟩) h.length c) h ∧ Grew w w'

set_option maxRecDepth 100000 in
set_option maxHeartbeats 1000000 in
theorem toIntSS_any (v : Value) (h : List (List Int)) (w : World) (hv : RowsV w v h) (hx : h.length ≤ 1048576) (hr : ∀ r, r < h.length → (h.getD r []).length ≤ 1048576) :
    Calls Tryd.prog 36 #[v] w (CopyRows w h) := by
  obtain ⟨a, b, o, c, rfl, ⟨hlc, hcb⟩, ha, HC⟩ := hv.shape
  have HA := Lib.hid ha
  have HR := Lib.hid hr
  clear hv ha hr
  go_enter Tryd.func36, Tryd.ntmps36
  go_wp2_with (at_make; refine wpList_make_rows rfl (.tmp 6) (.tmp 6) 23 rfl Tryd.underlying23 Tryd.infoT (E := 3) rfl rfl rfl rfl (by omega) ?_; intro w1 hO1 hg1 hs1)
  have HO : Hid (RowsO 27 3 w.heap.size w1.heap.size w1 (.slice (some ⟨w.heap.size, 0, none⟩) h.length h.length) (upToR h 0) ∧ Grew w w1) := ⟨by simpa [upToR] using hO1, hg1⟩
  clear hO1 hg1
  go_loopw [4] (fun i wr => ∃ k : Nat, k ≤ h.length ∧ i = .int .i64 k ∧ Hid (RowsO 27 3 w.heap.size wr.heap.size wr (.slice (some ⟨w.heap.size, 0, none⟩) h.length h.length) (upToR h k) ∧ Grew w wr ∧ w.heap.size < wr.heap.size)) (fun i _ => h.length - (intOf i).toNat)
  case atStart => exact ⟨0, Nat.zero_le _, rfl, HO.out.1, HO.out.2, hs1⟩
  case round =>
    obtain ⟨k, hk, rfl, HI⟩ := hrel
    clear HO
    by_cases hlt : k < h.length
    · obtain rfl := HA.out (by omega)
      obtain ⟨u, hck, hu⟩ := HC.out k hlt
      have hck' := HI.out.2.1.cell hck
      have hrk := HR.out k hlt
      obtain ⟨row, er⟩ : ∃ row, h.getD k [] = row := ⟨_, rfl⟩
      rw [er] at hu hrk
      have HE := Lib.hid er
      have HT := Lib.hid (toIntS_any u row wr (hu.grew HI.out.2.1) (by omega))
      clear er
      obtain ⟨a1, b1, o1, c1, rfl, _, _, _⟩ := hu.shape
      clear hck hu
      go_wp2_with (fail)
      refine HT.out.mono ?_
      rintro e w2 ⟨v2, rfl, hO2, hg2, hs2, g2, c2, rfl⟩
      obtain ⟨u0, hcu, _⟩ := HI.out.1.at rfl (i := k) (by rw [upToR_len h k hk]; exact hlt)
      have hcu2 := hg2.cell hcu
      have hfr2 := (HI.out.1.grew hg2).frozenAt rfl k
      have HF := Lib.hid (And.intro hO2 (And.intro hg2 hs2))
      clear hO2 hg2 hs2 hcu
      go_wp2
      go_roundw
      case rel => exact ⟨k + 1, by omega, by go_num, by
        have hs : (w2.setCell ⟨w.heap.size, k, none⟩ (.slice (some ⟨g2, 0, none⟩) row.length c2)).heap.size = w2.heap.size := by simp [World.setCell]
        have := (HI.out.1.grew HF.out.2.1).put (by decide) rfl (i := k) (by rw [upToR_len h k hk]; exact hlt) HF.out.1 (by have := HI.out.2.2; omega) (by have := HF.out.2.2; omega)
        rw [← HE.out, upToR_set h k hlt] at this
        rw [HE.out] at this
        refine ⟨?_, ?_, ?_⟩
        · rw [hs]; exact this
        · exact Within.grew (lo := w.heap.size) (hi := w.heap.size + 1) (HI.out.2.1.trans HF.out.2.1) ((Within.refl _ _ _).setCell (p := ⟨w.heap.size, k, none⟩) (Nat.le_refl _) (Nat.lt_succ_self _) _) (Nat.le_refl _)
        · rw [hs]; have := HI.out.2.2; have := HF.out.2.2; omega⟩
      case measure => simp [intOf]; omega
    · go_wp2
      go_ret
      refine ⟨_, _, rfl, ?_, HI.out.2.1⟩
      have := HI.out.1
      rwa [upToR, List.take_of_length_le (by omega), show h.length - k = 0 by omega, List.replicate_zero, List.append_nil] at this

theorem sz_small2 {h : List (List Int)} (hn : 0 ≤ (1048576 : Int) - h.length - total h) : h.length ≤ 1048576 ∧ ∀ r, r < h.length → (h.getD r []).length ≤ 1048576 :=
  ⟨by omega, fun r hr => by have := row_le_total h r hr; omega⟩
end Go.Proofs.YtekhjjcgkmnmlaaDoor
/- spec's StreamOrders and SpringsOf. -/
namespace Go.Proofs.YtekhjjcgkmnmlaaDoor
open Go.RowKit

set_option maxRecDepth 100000 in
set_option maxHeartbeats 4000000 in
theorem SStreamOrders_any (v : Value) (h : List (List Int)) (w : World) (hv : RowsV w v h) :
    Calls Tryd.prog 28 #[v] w (NewRows w (toldX (phiO false) h)) := by
  have HK := sValidGrid_any v h w hv
  cases hg : vGrid h with
  | false =>
    rw [hg] at HK
    have HK2 := Lib.hid HK
    rw [toldX_no hg]
    obtain ⟨a, b, o, c, rfl, _, _, _⟩ := hv.shape
    clear hv HK hg
    go_enter Tryd.func28, Tryd.ntmps28
    go_wp2_with (fail)
    refine HK2.out.mono ?_
    rintro e w1 ⟨rfl, hG⟩
    have HG := Lib.hid hG
    clear hG
    go_wp2
    go_ret
    exact ⟨_, rfl, RowsO.nil _ _ _ _ _, HG.out⟩
  | true =>
    rw [hg] at HK
    have HK2 := Lib.hid HK
    have G := Grid.of hg
    have hRun := tgts_run hg
    obtain ⟨n, en⟩ : ∃ n, h.length = n := ⟨_, rfl⟩
    obtain ⟨m, em⟩ : ∃ m, (h.getD 0 []).length = m := ⟨_, rfl⟩
    obtain ⟨N, eN⟩ : ∃ N, n * m = N := ⟨_, rfl⟩
    have HF := Lib.hid fun W (hW : Grew w W) => sflow_any v h n m N W (hv.grew hW) hg en em eN
    have hTl : (tgtsL h).length = N := by rw [tgtsL, tgtsU_len, en, em, eN]
    rw [en, em, eN] at hRun
    obtain ⟨ts, ets⟩ : ∃ ts, tgtsL h = ts := ⟨_, rfl⟩
    have HR : Hid (toldX (phiO false) h = shapeL (toldU ((phiO false) ts) N) m n) := Lib.hid (by unfold toldX; rw [if_pos hg, ets, en, em, eN])
    rw [ets] at HF hTl hRun
    have HRUN := Lib.hid hRun
    have hn5 := G.n5
    have hn1 := G.n1
    have hm5 := G.m5
    have hm1 := G.m1
    rw [en] at hn5 hn1
    rw [em] at hm5 hm1
    have hN1 : 1 ≤ N := by rw [← eN]; exact Nat.mul_pos hn1 hm1
    have hN25 : N ≤ 25 := by rw [← eN]; exact Nat.mul_le_mul hn5 hm5
    obtain ⟨a, b, o, c, rfl, ⟨hlc, hcb⟩, ha, HCR⟩ := hv.shape
    obtain rfl := ha (by omega)
    obtain ⟨u0, hcu0, hu0⟩ := HCR.out 0 (by omega)
    rw [Nat.add_zero] at hcu0
    obtain ⟨a0, b0, o0, c0, rfl, _, _, _⟩ := hu0.shape
    rw [em] at hcu0
    rw [en] at HK2 HF hlc ⊢
    have hn0 : (0 : Int) < (n : Int) := by omega
    have HNM : Hid (n ≤ 5 ∧ 1 ≤ m ∧ m ≤ 5 ∧ n * m = N ∧ ts.length = N) := Lib.hid ⟨hn5, hm1, hm5, eN, hTl⟩
    have HSL : Hid (∀ (lo hi : Nat) (xs : List Int) (a : Option Addr) (c : Nat) W, xs.length = N → IntsO 3 lo hi W (.slice a N c) xs → ∃ g, a = some ⟨g, 0, none⟩) := Lib.hid fun lo hi xs a c W hl hO => by
      obtain ⟨g, c', e, _⟩ := hO.pos (by rw [hl]; omega)
      simp only [Value.slice.injEq] at e
      exact ⟨g, e.1⟩
    have HIN := Lib.hid fun v W (hi : IntsV W v ts) => sorders_any false v ts N W hi hRun hN25 hN1
    obtain ⟨R, eR⟩ : ∃ R, toldX (phiO false) h = R := ⟨_, rfl⟩
    rw [eR] at HR ⊢
    have HUL := Lib.hid (toldU_len ((phiO false) ts) N)
    obtain ⟨us, eus⟩ : ∃ us, toldU ((phiO false) ts) N = us := ⟨_, rfl⟩
    rw [eus] at HR HIN HUL
    clear hv HK hg G ha HCR hu0 en em eN ets hTl eR hRun eus hm5 hn5
    go_enter Tryd.func28, Tryd.ntmps28
    go_wp2_with (fail)
    refine HK2.out.mono ?_
    rintro e w1 ⟨rfl, hG1⟩
    have HG1 := Lib.hid hG1
    have H0 := Lib.hid (hG1.cell hcu0)
    have hcu1 := H0.out
    clear hG1 hcu0
    go_wp2
    go_region_with (first
      | (go_at_call 48; refine (HF.out _ (HG1.out.drew)).mono ?_; rintro e w2 ⟨a2, c2, rfl, hO2, hg2⟩; rw [HNM.out.2.2.2.2] at hO2 ⊢; obtain ⟨g2, rfl⟩ := HSL.out _ _ _ a2 c2 w2 HNM.out.2.2.2.2 hO2; have H2 := Lib.hid (And.intro hO2 hg2); have hcu2 := hg2.cell H0.out; clear hO2 hg2)
      | (go_at_call 59; refine (HIN.out _ _ (by first | exact H2.out.1.toV | exact H2.out.1.toV.grew (Grew.refl _).drew)).mono ?_; rintro e w3 ⟨a3, c3, rfl, hO3, hg3⟩; rw [HUL.out] at hO3 ⊢; obtain ⟨g3, rfl⟩ := HSL.out _ _ _ a3 c3 w3 HUL.out hO3; have H3 := Lib.hid (And.intro hO3 hg3); have hcu3 := hg3.cell hcu2; clear hO3 hg3)
      | (go_at_call 46; refine (shaped_own H3.out.1 (by rw [HUL.out, HNM.out.2.2.2.1]) HNM.out.1 HNM.out.2.1 HNM.out.2.2.1).mono ?_; rintro e w4 ⟨v4, rfl, hO4, hg4⟩; obtain ⟨a4, c4, rfl⟩ := hO4.sh; have H4 := Lib.hid (And.intro hO4 hg4); clear hO4 hg4))
    all_goals
      go_wp2
      go_ret
      rw [HR.out]
      exact ⟨_, rfl, H4.out.1.wide (Nat.le_trans HG1.out.size (Nat.le_trans H2.out.2.size H3.out.2.size)) (Nat.le_refl _), HG1.out.drew.trans (H2.out.2.trans (H3.out.2.trans H4.out.2))⟩

set_option maxRecDepth 100000 in
set_option maxHeartbeats 4000000 in
theorem SSpringsOf_any (v : Value) (h : List (List Int)) (w : World) (hv : RowsV w v h) :
    Calls Tryd.prog 32 #[v] w (NewRows w (toldX (phiO true) h)) := by
  have HK := sValidGrid_any v h w hv
  cases hg : vGrid h with
  | false =>
    rw [hg] at HK
    have HK2 := Lib.hid HK
    rw [toldX_no hg]
    obtain ⟨a, b, o, c, rfl, _, _, _⟩ := hv.shape
    clear hv HK hg
    go_enter Tryd.func32, Tryd.ntmps32
    go_wp2_with (fail)
    refine HK2.out.mono ?_
    rintro e w1 ⟨rfl, hG⟩
    have HG := Lib.hid hG
    clear hG
    go_wp2
    go_ret
    exact ⟨_, rfl, RowsO.nil _ _ _ _ _, HG.out⟩
  | true =>
    rw [hg] at HK
    have HK2 := Lib.hid HK
    have G := Grid.of hg
    have hRun := tgts_run hg
    obtain ⟨n, en⟩ : ∃ n, h.length = n := ⟨_, rfl⟩
    obtain ⟨m, em⟩ : ∃ m, (h.getD 0 []).length = m := ⟨_, rfl⟩
    obtain ⟨N, eN⟩ : ∃ N, n * m = N := ⟨_, rfl⟩
    have HF := Lib.hid fun W (hW : Grew w W) => sflow_any v h n m N W (hv.grew hW) hg en em eN
    have hTl : (tgtsL h).length = N := by rw [tgtsL, tgtsU_len, en, em, eN]
    rw [en, em, eN] at hRun
    obtain ⟨ts, ets⟩ : ∃ ts, tgtsL h = ts := ⟨_, rfl⟩
    have HR : Hid (toldX (phiO true) h = shapeL (toldU ((phiO true) ts) N) m n) := Lib.hid (by unfold toldX; rw [if_pos hg, ets, en, em, eN])
    rw [ets] at HF hTl hRun
    have HRUN := Lib.hid hRun
    have hn5 := G.n5
    have hn1 := G.n1
    have hm5 := G.m5
    have hm1 := G.m1
    rw [en] at hn5 hn1
    rw [em] at hm5 hm1
    have hN1 : 1 ≤ N := by rw [← eN]; exact Nat.mul_pos hn1 hm1
    have hN25 : N ≤ 25 := by rw [← eN]; exact Nat.mul_le_mul hn5 hm5
    obtain ⟨a, b, o, c, rfl, ⟨hlc, hcb⟩, ha, HCR⟩ := hv.shape
    obtain rfl := ha (by omega)
    obtain ⟨u0, hcu0, hu0⟩ := HCR.out 0 (by omega)
    rw [Nat.add_zero] at hcu0
    obtain ⟨a0, b0, o0, c0, rfl, _, _, _⟩ := hu0.shape
    rw [em] at hcu0
    rw [en] at HK2 HF hlc ⊢
    have hn0 : (0 : Int) < (n : Int) := by omega
    have HNM : Hid (n ≤ 5 ∧ 1 ≤ m ∧ m ≤ 5 ∧ n * m = N ∧ ts.length = N) := Lib.hid ⟨hn5, hm1, hm5, eN, hTl⟩
    have HSL : Hid (∀ (lo hi : Nat) (xs : List Int) (a : Option Addr) (c : Nat) W, xs.length = N → IntsO 3 lo hi W (.slice a N c) xs → ∃ g, a = some ⟨g, 0, none⟩) := Lib.hid fun lo hi xs a c W hl hO => by
      obtain ⟨g, c', e, _⟩ := hO.pos (by rw [hl]; omega)
      simp only [Value.slice.injEq] at e
      exact ⟨g, e.1⟩
    have HIN := Lib.hid fun v W (hi : IntsV W v ts) => sorders_any true v ts N W hi hRun hN25 hN1
    obtain ⟨R, eR⟩ : ∃ R, toldX (phiO true) h = R := ⟨_, rfl⟩
    rw [eR] at HR ⊢
    have HUL := Lib.hid (toldU_len ((phiO true) ts) N)
    obtain ⟨us, eus⟩ : ∃ us, toldU ((phiO true) ts) N = us := ⟨_, rfl⟩
    rw [eus] at HR HIN HUL
    clear hv HK hg G ha HCR hu0 en em eN ets hTl eR hRun eus hm5 hn5
    go_enter Tryd.func32, Tryd.ntmps32
    go_wp2_with (fail)
    refine HK2.out.mono ?_
    rintro e w1 ⟨rfl, hG1⟩
    have HG1 := Lib.hid hG1
    have H0 := Lib.hid (hG1.cell hcu0)
    have hcu1 := H0.out
    clear hG1 hcu0
    go_wp2
    go_region_with (first
      | (go_at_call 48; refine (HF.out _ (HG1.out.drew)).mono ?_; rintro e w2 ⟨a2, c2, rfl, hO2, hg2⟩; rw [HNM.out.2.2.2.2] at hO2 ⊢; obtain ⟨g2, rfl⟩ := HSL.out _ _ _ a2 c2 w2 HNM.out.2.2.2.2 hO2; have H2 := Lib.hid (And.intro hO2 hg2); have hcu2 := hg2.cell H0.out; clear hO2 hg2)
      | (go_at_call 59; refine (HIN.out _ _ (by first | exact H2.out.1.toV | exact H2.out.1.toV.grew (Grew.refl _).drew)).mono ?_; rintro e w3 ⟨a3, c3, rfl, hO3, hg3⟩; rw [HUL.out] at hO3 ⊢; obtain ⟨g3, rfl⟩ := HSL.out _ _ _ a3 c3 w3 HUL.out hO3; have H3 := Lib.hid (And.intro hO3 hg3); have hcu3 := hg3.cell hcu2; clear hO3 hg3)
      | (go_at_call 46; refine (shaped_own H3.out.1 (by rw [HUL.out, HNM.out.2.2.2.1]) HNM.out.1 HNM.out.2.1 HNM.out.2.2.1).mono ?_; rintro e w4 ⟨v4, rfl, hO4, hg4⟩; obtain ⟨a4, c4, rfl⟩ := hO4.sh; have H4 := Lib.hid (And.intro hO4 hg4); clear hO4 hg4))
    all_goals
      go_wp2
      go_ret
      rw [HR.out]
      exact ⟨_, rfl, H4.out.1.wide (Nat.le_trans HG1.out.size (Nat.le_trans H2.out.2.size H3.out.2.size)) (Nat.le_refl _), HG1.out.drew.trans (H2.out.2.trans (H3.out.2.trans H4.out.2))⟩
end Go.Proofs.YtekhjjcgkmnmlaaDoor
/- The law FnExactSpringsOf returns true. -/
namespace Go.Proofs.YtekhjjcgkmnmlaaDoor
open Go.RowKit

set_option maxRecDepth 100000 in
set_option maxHeartbeats 4000000 in
theorem FnExactSpringsOf_any (v : Value) (h : List (List Int))  (w : World) (hv : RowsV w v h)  (hS : Steps w) :
    Calls Tryd.prog 13 #[v] w fun e w' => e = .returned (.bool true) ∧ Grew w w' := by
  have HV := Lib.hid hv
  have HS0 := Lib.hid hS
  have HTT0 := toldX_total (phiO true) h
  obtain ⟨M, eM⟩ : ∃ M, toldX (phiO true) h = M := ⟨_, rfl⟩
  have HI : ∀ (v : Value) (W : World), RowsV W v h → Grew w W → Calls Tryd.prog 29 #[v] W (NewRows W M) := fun v W a b => by
    have := SpringsOf_any v h W a (hS.grew b)
    rwa [eM] at this
  have HP : ∀ (v : Value) (W : World), RowsV W v h → Calls Tryd.prog 32 #[v] W (NewRows W M) := fun v W a => by
    have := SSpringsOf_any v h W a
    rwa [eM] at this
  have HI' := Lib.hid HI
  have HP' := Lib.hid HP
  rw [eM] at HTT0
  have HTT := Lib.hid HTT0
  clear HTT0
  clear HI HP eM
  obtain ⟨a, b, o, c, rfl, _, _, _⟩ := hv.shape
  clear hv hS
  go_enter Tryd.func13, Tryd.ntmps13
  go_wp2_with (fail)
  refine (szIntSS_any _ h 1048576 w HV.out (by omega) (by omega)).mono ?_
  rintro e w1 ⟨n, rfl, hn, rfl⟩
  by_cases hneg : n < 0
  · clear hn
    go_wp2
    go_ret
    exact ⟨rfl, Grew.refl _⟩
  · have HS := Lib.hid (sz_small2 (h := h) (by omega))
    have HT : Hid (total h ≤ 1048576) := Lib.hid (by omega)
    clear hn
    go_wp2_with (fail)
    refine (toIntSS_any _ h _ HV.out HS.out.1 HS.out.2).mono ?_
    rintro e w2 ⟨g2, c2, rfl, hO2, hg2⟩
    have H2 := Lib.hid (And.intro hO2.toV hg2)
    clear hO2 hg2
    go_wp2_with (fail)
    refine (HP'.out _ _ H2.out.1).mono ?_
    rintro e w3 ⟨v3, rfl, hw3, hg3⟩
    obtain ⟨a3, c3, rfl⟩ := hw3.sh
    have H3 := Lib.hid (And.intro hw3 (H2.out.2.trans hg3))
    clear hw3 hg3
    go_wp2_with (fail)
    refine (toIntSS_any _ h _ (HV.out.grew H3.out.2) HS.out.1 HS.out.2).mono ?_
    rintro e w4 ⟨g4, c4, rfl, hO4, hg4⟩
    have H4 := Lib.hid (And.intro hO4 hg4)
    clear hO4 hg4
    go_wp2_with (fail)
    refine (HI'.out _ _ H4.out.1.toV (H3.out.2.trans H4.out.2)).mono ?_
    rintro e w5 ⟨v5, rfl, hw5, hg5⟩
    obtain ⟨a5, c5, rfl⟩ := hw5.sh
    have H5 : Hid (RowsO 27 3 w2.heap.size w3.heap.size w5 (.slice a3 M.length c3) M ∧ RowsO 27 3 w3.heap.size w4.heap.size w5 (.slice (some ⟨g4, 0, none⟩) h.length c4) h ∧ RowsO 27 3 w4.heap.size w5.heap.size w5 (.slice a5 M.length c5) M ∧ Grew w w5 ∧ (w.heap.size ≤ w3.heap.size ∧ w3.heap.size ≤ w4.heap.size ∧ w4.heap.size ≤ w5.heap.size)) :=
      Lib.hid ⟨H3.out.1.grew (H4.out.2.trans hg5), H4.out.1.grew hg5, hw5, H3.out.2.trans (H4.out.2.trans hg5), H3.out.2.size, H4.out.2.size, hg5.size⟩
    clear hw5 hg5 H2 H3 H4
    go_wp2_with (fail)
    refine (eqIntSS_any _ _ M M _ H5.out.2.2.1.toV H5.out.1.toV).mono ?_
    rw [decide_eq_true (rfl : M = M)]
    rintro e w6 ⟨rfl, hq⟩
    have hg6 := quiet_grew hq
    have H6 : Hid (RowsO 27 3 w2.heap.size w3.heap.size w6 (.slice a3 M.length c3) M ∧ RowsO 27 3 w3.heap.size w4.heap.size w6 (.slice (some ⟨g4, 0, none⟩) h.length c4) h ∧ RowsO 27 3 w4.heap.size w5.heap.size w6 (.slice a5 M.length c5) M ∧ Grew w w6 ∧ (w.heap.size ≤ w3.heap.size ∧ w3.heap.size ≤ w4.heap.size ∧ w4.heap.size ≤ w5.heap.size)) :=
      Lib.hid ⟨H5.out.1.grew hg6, H5.out.2.1.grew hg6, H5.out.2.2.1.grew hg6, H5.out.2.2.2.1.trans hg6, H5.out.2.2.2.2⟩
    clear hq hg6 H5
    go_wp2_with (fail)
    refine (toIntSS_any _ h _ (HV.out.grew H6.out.2.2.2.1) HS.out.1 HS.out.2).mono ?_
    rintro e w7 ⟨g7, c7, rfl, hO7, hg7⟩
    have H7 := Lib.hid (And.intro hO7.toV hg7)
    clear hO7 hg7
    go_wp2_with (fail)
    refine (eqIntSS_any _ _ h h _ (H6.out.2.1.toV.grew H7.out.2) H7.out.1).mono ?_
    rw [decide_eq_true (rfl : h = h)]
    rintro e w8 ⟨rfl, hq⟩
    have hg8 := H7.out.2.trans (quiet_grew hq)
    have H8 : Hid (RowsO 27 3 w2.heap.size w3.heap.size w8 (.slice a3 M.length c3) M ∧ RowsO 27 3 w3.heap.size w4.heap.size w8 (.slice (some ⟨g4, 0, none⟩) h.length c4) h ∧ RowsO 27 3 w4.heap.size w5.heap.size w8 (.slice a5 M.length c5) M ∧ Grew w w8 ∧ (w.heap.size ≤ w3.heap.size ∧ w3.heap.size ≤ w4.heap.size ∧ w4.heap.size ≤ w5.heap.size)) :=
      Lib.hid ⟨H6.out.1.grew hg8, H6.out.2.1.grew hg8, H6.out.2.2.1.grew hg8, H6.out.2.2.2.1.trans hg8, H6.out.2.2.2.2⟩
    clear hq hg8 H6 H7
    go_wp2_with (fail)
    refine (markIntSS_any w3.heap.size w4.heap.size _ h 1 _ H8.out.2.1 (by decide) (by have := HT.out; omega)).mono ?_
    rintro e w9 ⟨rfl, hm9, hw9⟩
    have H9 : Hid (RowsO 27 3 w2.heap.size w3.heap.size w9 (.slice a3 M.length c3) M ∧ RowsO 27 3 w4.heap.size w5.heap.size w9 (.slice a5 M.length c5) M ∧ Grew w w9 ∧ (w.heap.size ≤ w3.heap.size ∧ w3.heap.size ≤ w4.heap.size ∧ w4.heap.size ≤ w5.heap.size)) :=
      Lib.hid ⟨H8.out.1.within hw9 (.inl (Nat.le_refl _)), H8.out.2.2.1.within hw9 (.inr (Nat.le_refl _)), Within.grew H8.out.2.2.2.1 hw9 H8.out.2.2.2.2.1, H8.out.2.2.2.2⟩
    clear hm9 hw9 H8
    have e9 : ¬ (1 + total h : Int) < 0 := by omega
    go_wp2_with (fail)
    refine (eqIntSS_any _ _ M M _ H9.out.2.1.toV H9.out.1.toV).mono ?_
    rw [decide_eq_true (rfl : M = M)]
    rintro e w10 ⟨rfl, hq⟩
    have hg10 := quiet_grew hq
    have H10 : Hid (RowsO 27 3 w2.heap.size w3.heap.size w10 (.slice a3 M.length c3) M ∧ RowsO 27 3 w4.heap.size w5.heap.size w10 (.slice a5 M.length c5) M ∧ Grew w w10 ∧ (w.heap.size ≤ w3.heap.size ∧ w3.heap.size ≤ w4.heap.size ∧ w4.heap.size ≤ w5.heap.size)) :=
      Lib.hid ⟨H9.out.1.grew hg10, H9.out.2.1.grew hg10, H9.out.2.2.1.trans hg10, H9.out.2.2.2⟩
    clear hq hg10 H9
    go_wp2_with (fail)
    refine (markIntSS_any w4.heap.size w5.heap.size _ M 1 _ H10.out.2.1 (by decide) (by have := HTT.out; omega)).mono ?_
    rintro e w11 ⟨rfl, hm11, hw11⟩
    have H11 : Hid (RowsO 27 3 w2.heap.size w3.heap.size w11 (.slice a3 M.length c3) M ∧ RowsO 27 3 w4.heap.size w5.heap.size w11 (.slice a5 M.length c5) (markL 1 M) ∧ Grew w w11) :=
      Lib.hid ⟨H10.out.1.within hw11 (.inl H10.out.2.2.2.2.1), hm11, Within.grew H10.out.2.2.1 hw11 (Nat.le_trans H10.out.2.2.2.1 H10.out.2.2.2.2.1)⟩
    clear hm11 hw11 H10
    go_wp2_with (fail)
    refine (heldIntSS_any _ M 1 _ H11.out.2.1.toV (by decide) (by have := HTT.out; omega)).mono ?_
    rintro e w12 ⟨rfl, rfl⟩
    have e12 : ¬ (1 + (total M : Int)) < 0 := by omega
    go_wp2_with (fail)
    refine (toIntSS_any _ h _ (HV.out.grew H11.out.2.2) HS.out.1 HS.out.2).mono ?_
    rintro e w13 ⟨g13, c13, rfl, hO13, hg13⟩
    have H13 := Lib.hid (And.intro hO13.toV hg13)
    clear hO13 hg13
    go_wp2_with (fail)
    refine (HI'.out _ _ H13.out.1 (H11.out.2.2.trans H13.out.2)).mono ?_
    rintro e w14 ⟨v14, rfl, hw14, hg14⟩
    obtain ⟨a14, c14, rfl⟩ := hw14.sh
    have hgt := H13.out.2.trans hg14
    have H14 : Hid (RowsV w14 (.slice a14 M.length c14) M ∧ RowsV w14 (.slice a3 M.length c3) M ∧ RowsV w14 (.slice a5 M.length c5) (markL 1 M) ∧ Grew w w14) :=
      Lib.hid ⟨hw14.toV, (H11.out.1.grew hgt).toV, (H11.out.2.1.grew hgt).toV, H11.out.2.2.trans hgt⟩
    clear hw14 hg14 hgt H11 H13
    go_wp2_with (fail)
    refine (eqIntSS_any _ _ M M _ H14.out.1 H14.out.2.1).mono ?_
    rw [decide_eq_true (rfl : M = M)]
    rintro e w15 ⟨rfl, hq⟩
    have hg15 := quiet_grew hq
    have H15 := Lib.hid (And.intro (H14.out.2.2.1.grew hg15) (H14.out.2.2.2.trans hg15))
    clear hq hg15 H14
    go_wp2_with (fail)
    refine (heldIntSS_any _ M 1 _ H15.out.1 (by decide) (by have := HTT.out; omega)).mono ?_
    rintro e w16 ⟨rfl, rfl⟩
    go_wp2
    go_ret
    exact ⟨rfl, H15.out.2⟩
end Go.Proofs.YtekhjjcgkmnmlaaDoor
namespace Go.Proofs.YtekhjjcgkmnmlaaDoor.pExactSpringsOf
open Go.RowKit Go.ChangeShapes Go.WideShapes Go.ChangeAt

set_option maxRecDepth 100000 in
theorem lifted (os : Os) (started : os.Started) (H : Type) (enc : TypeId × Value → H) :
    ReturnsInHanded {} Tryd.checked os 13 .any (fun w args => (Rows.fnExactSpringsOfSpec.pre enc Tryd.prog Tryd.f13 [] false w args ∧ laidMetH Tryd.prog laid1 w) ∧ sizedMet enc Tryd.prog Tryd.f13 (OpenSpec.ofChange Rows.fnExactSpringsOfSpec) false w args)
      (Rows.fnExactSpringsOfSpec.post enc Tryd.prog Tryd.f13 false true false false) := by
  refine returnsInHanded_of_change_and (C := Tryd.checked) (X := fun w _ => laidMetH Tryd.prog laid1 w) (fun _ _ _ hh h => h.of_heap hh) Tryd.own started (by kernel_rfl) Tryd.func13
    (ChangeSpec.witness_shaped (enc := enc) (C := Tryd.checked) (os := os) (X := fun w _ => laidMetH Tryd.prog laid1 w) false (World.doorLaid Tryd.prog 400 os) #[.slice none 0 0] 8 rfl (World.shaped_of_RefB (by kernel_rfl) (by kernel_rfl)) (by kernel_rfl) (by kernel_rfl) (by kernel_rfl) (door_met os _)) ?_
  intro W base args ds gs before hval0 hW _ _ hL _
  have hval : ∀ (j : Nat) t v, Tryd.f13.params[j]? = some t → args[j]? = some v → Value.okWide Tryd.prog W .any base t v := hval0
  have hW' := hW
  obtain ⟨p, q, hA0, hV, rfl, _, _⟩ := hW
  have hA : DataW.TrodAll enc Tryd.prog W 0 (fun _ => true) true Tryd.f13.params.toList args.toList ds p := hA0
  rw [Tryd.params13] at hA hval
  obtain ⟨v0, d0, rfl, rfl, h0⟩ := trodAll_one hA
  have hV' := hV
  obtain ⟨_, _, _, _, dv, _, rfl, _⟩ := trodVars_one hV
  obtain ⟨a0, len0, cap0, rfl⟩ := okWide_slice Tryd.underlying23 (hval 0 23 v0 rfl rfl)
  have k0 := h0
  have lt0 : ∀ x ∈ p, x.block < W.heap.size := by obtain ⟨m, hm⟩ := k0; exact DataW.trod_lt m _ _ _ hm
  obtain ⟨bs0, hn0⟩ := rows_came h0
  have HS := steps_of_laid hL
  clear hA0 hval0
  refine (FnExactSpringsOf_any _ bs0 W hn0 HS).mono fun e W' ⟨he, bel⟩ => ?_
  subst he
  exact ⟨_, rfl, _, _, _, [], _, q, hW', trodAll_mk1 (shut_bool Tryd.underlying4 _), (trodAll_mk1 (Below.trod Tryd.laidOut (by kernel_rfl) (of_decide_eq_true (by kernel_rfl)) k0 bel lt0)), Below.trodVars Tryd.laidOut bel (by kernel_rfl) hV', Below.frame bel _, fun h => by cases h⟩

theorem row_proved : Rows.FnExactSpringsOfSaid :=
  OpenClaim.holds_of_wide 13 Tryd.f13 rfl rfl rfl rfl rfl rfl rfl ⟨rfl, rfl, rfl, rfl, rfl⟩ rfl rfl rfl rfl rfl (by kernel_rfl) Tryd.func13
    (show joinedFacts Tryd.prog 13 Tryd.f13 Rows.fnExactSpringsOfSpec Rows.fnExactSpringsOfRow = true by unfold joinedFacts; rw [Tryd.makeG, Tryd.liftsG, Tryd.enterG]; kernel_rfl)
    (of_decide_eq_true (by kernel_rfl)) (by unfold Func.isWrapper; first | (rw [if_pos (by decide +kernel)]; kernel_rfl) | (rw [if_neg (by decide +kernel)]; exact ⟨rfl, rfl⟩))
    (fun os started H enc _ => lifted os started H enc)

theorem proved : Rows.FnExactSpringsOfCardSaid :=
  Claim7.holds_tied_plain_at .later [] [.data] true Rows.fnExactSpringsOfCard.stood.harness Rows.fnExactSpringsOfCard.stood.looks
    row_proved (fun _ h => by cases h) (by kernel_rfl) (fun _ h => by cases h) fnExactSpringsOf_row_tie rfl ⟨rfl, rfl⟩ (show Tryd.prog.mainIs = some (Rows.fnExactSpringsOfCard.stood.harness.1, Rows.fnExactSpringsOfCard.stood.harness.2.toList) from Tryd.mainG) rfl
    (fun f fn hf hfn => by
      obtain rfl : f = 13 := Option.some.inj ((show Tryd.prog.funcNamed "loop.example/wateronheights/laws.FnExactSpringsOf" = some 13 by kernel_rfl).symm.trans hf) |>.symm
      obtain rfl : fn = Tryd.f13 := (Option.some.inj (Tryd.func13.symm.trans hfn)).symm
      exact ⟨by kernel_rfl, fun j t ht => by
        rw [Tryd.params13] at ht
        have hm : t ∈ [23] := by simpa using Array.mem_of_getElem? ht
        have hall : ([23].all fun u => !Tryd.prog.wantsStandIn u) = true := by kernel_rfl
        exact (show Tryd.prog.wantsStandIn t = false by simpa using List.all_eq_true.1 hall t hm)⟩)
    (by kernel_rfl)
#print axioms proved
end Go.Proofs.YtekhjjcgkmnmlaaDoor.pExactSpringsOf
