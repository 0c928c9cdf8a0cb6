/- FnTopplesOf: for every input the law returns true, and the input reads as it did, where the table of steps reads as the program's text lays it; tied to that text. Its conditions: that one listed variable, tied. -/
import Derived.Test.YthgafljbbkgldaaDoorEqualInts
import Derived.Test.YthgafljbbkgldaaDoorSandL
import Derived.Test.YthgafljbbkgldaaDoorDraws10
import Derived.Test.YthgafljbbkgldaaDoorRowOf
import Derived.Test.YthgafljbbkgldaaDoorCameRows
import Derived.Test.YthgafljbbkgldaaDoorTied
import Derived.Test.YthgafljbbkgldaaDoorWords
import Derived.Test.YthgafljbbkgldaaDoorTie
import Derived.Test.YthgafljbbkgldaaDoorCards
import Derived.SevenTiedAt
/- The contract of laws.equalRows. -/
namespace Go.Proofs.YthgafljbbkgldaaDoor
open Go.RowKit

set_option maxRecDepth 100000 in
set_option maxHeartbeats 1000000 in
theorem equalRows_any (v1 v2 : Value) (xs ys : List (List Int)) (w : World) (hv1 : RowsV w v1 xs) (hv2 : RowsV w v2 ys) :
    Calls Tryd.prog 19 #[v1, v2] w (QuietBool (decide (xs = ys)) w) := by
  obtain ⟨a, b, o, c, rfl, ⟨hlc, hcb⟩, ha, HC⟩ := hv1.shape
  obtain ⟨a2, b2, o2, c2, rfl, ⟨hlc2, hcb2⟩, ha2, HC2⟩ := hv2.shape
  have HA := Lib.hid ha
  have HA2 := Lib.hid ha2
  clear hv1 hv2 ha ha2
  by_cases hl : xs.length = ys.length
  · have hn : ((xs.length : Int) != (ys.length : Int)) = false := by simp [hl]
    have HL := Lib.hid hl
    clear hl
    go_enter Tryd.func19, Tryd.ntmps19
    go_wp2
    clear hn
    go_loopw [5] (fun i wr => ∃ k : Nat, k ≤ xs.length ∧ i = .int .i64 k ∧ Hid (xs.take k = ys.take k ∧ ∃ n, wr = w.drewN n)) (fun i _ => xs.length - (intOf i).toNat)
    case atStart => exact ⟨0, Nat.zero_le _, rfl, rfl, 0, rfl⟩
    case round =>
      obtain ⟨k, hk, rfl, HI⟩ := hrel
      have HW := Lib.hid (quiet_grew HI.out.2)
      by_cases hlt : k < xs.length
      · have hlt2 : k < ys.length := by have := HL.out; omega
        obtain rfl := HA.out (by omega)
        obtain rfl := HA2.out (by omega)
        obtain ⟨u1, hc1', hu1⟩ := HC.out k hlt
        obtain ⟨u2, hc2', hu2⟩ := HC2.out k hlt2
        have hc1 := HW.out.cell hc1'
        have hc2 := HW.out.cell hc2'
        obtain ⟨x, ex⟩ : ∃ x, xs.getD k [] = x := ⟨_, rfl⟩
        obtain ⟨y, ey⟩ : ∃ y, ys.getD k [] = y := ⟨_, rfl⟩
        rw [ex] at hu1
        rw [ey] at hu2
        have HK : Hid (∀ m, Calls Tryd.prog 50 #[u1, u2] (wr.drewN m) fun e w' => e = .returned (.bool (decide (x = y))) ∧ ∃ k, w' = (wr.drewN m).drewN k) := fun m => equalInts_any u1 u2 x y _ (hu1.grew (HW.out.drewN m)) (hu2.grew (HW.out.drewN m))
        obtain ⟨a3, b3, o3, c3, rfl, _, _, _⟩ := hu1.shape
        obtain ⟨a4, b4, o4, c4, rfl, _, _, _⟩ := hu2.shape
        have HE := Lib.hid (And.intro ex ey)
        have r1 : (k : Int) < xs.length := by omega
        have r2 : (k : Int) < ys.length := by omega
        have r3 : (0 : Int) ≤ k := by omega
        clear ex ey hu1 hu2 hc1' hc2'
        by_cases hxy : x = y
        · have HK2 := HK.out
          have e : decide (x = y) = true := by simp [hxy]
          rw [e] at HK2
          have HK3 := Lib.hid HK2
          have HXY := Lib.hid hxy
          clear hxy HK2 HK e
          go_wp2
          go_quiet ((go_at_call 50; exact Calls.quiet_of (HK3.out _)))
          go_wp2
          go_roundw
          case rel => exact ⟨k + 1, by omega, by go_num, take_eq_snoc [] hlt hlt2 HI.out.1 (by rw [HE.out.1, HE.out.2, HXY.out]), quiet_step HI.out.2 _⟩
          case measure => simp [intOf]; omega
        · have HK2 := HK.out
          have e : decide (x = y) = false := by simp [hxy]
          rw [e] at HK2
          have HK3 := Lib.hid HK2
          have HXY := Lib.hid hxy
          clear hxy HK2 HK e
          go_wp2
          go_quiet ((go_at_call 50; exact Calls.quiet_of (HK3.out _)))
          go_wp2
          go_ret
          refine ⟨ret_bool ?_, quiet_step HI.out.2 _⟩
          have : xs ≠ ys := fun e => HXY.out (by rw [← HE.out.1, ← HE.out.2, e])
          simp [this]
      · go_wp2
        go_ret
        refine ⟨ret_bool ?_, HI.out.2⟩
        have := HI.out.1
        rw [List.take_of_length_le (by omega), List.take_of_length_le (by have := HL.out; omega)] at this
        simp [this]
  · have hn : ((xs.length : Int) != (ys.length : Int)) = true := by simp; omega
    have HL := Lib.hid hl
    clear hl
    go_enter Tryd.func19, Tryd.ntmps19
    go_wp2
    go_ret
    refine ⟨ret_bool ?_, 0, rfl⟩
    have : xs ≠ ys := fun e => HL.out (by rw [e])
    simp [this]
end Go.Proofs.YthgafljbbkgldaaDoor
/- The law FnTopplesOf returns true. -/
namespace Go.Proofs.YthgafljbbkgldaaDoor
open Go.RowKit

theorem sumT_le {n m : Nat} {x : List Int} (h : Sandy n m x) : ∀ k, k < n * m → 0 ≤ (timesL n m x).getD k 0 ∧ (timesL n m x).getD k 0 ≤ 960 := fun k hk => by
  have := (h.calm.1.le h.box k hk).2
  have := h.phi
  omega
theorem nearT_succ (m i : Nat) (t : List Int) (k : Nat) : nearT m i t (k + 1) = nearT m i t k + (if ((i / m : Nat) - (k / m : Nat) : Int) * ((i / m : Nat) - (k / m : Nat)) + ((i % m : Nat) - (k % m : Nat) : Int) * ((i % m : Nat) - (k % m : Nat)) = 1 then t.getD k 0 else 0) := rfl
theorem nearT_le {m i : Nat} {t : List Int} {N : Nat} (ht : ∀ k, k < N → 0 ≤ t.getD k 0 ∧ t.getD k 0 ≤ 960) : ∀ k, k ≤ N → 0 ≤ nearT m i t k ∧ nearT m i t k ≤ 960 * (k : Int) := by
  intro k
  induction k with
  | zero => intro _; exact ⟨Int.le_refl _, Int.le_refl _⟩
  | succ k ih =>
    intro hk
    have h1 := ih (by omega)
    have h2 := ht k (by omega)
    rw [nearT_succ]
    split <;> omega
theorem sq_le {d : Int} (h : -3 ≤ d ∧ d ≤ 3) : 0 ≤ d * d ∧ d * d ≤ 9 := by
  have : d = -3 ∨ d = -2 ∨ d = -1 ∨ d = 0 ∨ d = 1 ∨ d = 2 ∨ d = 3 := by omega
  rcases this with rfl | rfl | rfl | rfl | rfl | rfl | rfl <;> decide

set_option maxRecDepth 100000 in
set_option maxHeartbeats 8000000 in
theorem FnTopplesOf_any (v : Value) (bs : List Int) (w : World) (hv : NumsV .u8 w v bs) (hb : ∀ i, i < bs.length → 0 ≤ bs.getD i 0 ∧ bs.getD i 0 ≤ 255) (hS : Steps w) :
    Calls Tryd.prog 5 #[v] w fun e w' => e = .returned (.bool true) ∧ Grew w w' := by
  have HD := Lib.hid (DrawTopplesOf_any v bs w hv hb)
  have HS := Lib.hid hS
  obtain ⟨a, b, o, c, rfl, ⟨hlc, hcb⟩, _, _⟩ := hv.shape
  clear hv hb hS
  by_cases hbig : 1048576 < bs.length
  · go_enter Tryd.func5, Tryd.ntmps5
    go_wp2
    go_ret
    exact ⟨rfl, Grew.refl _⟩
  · go_enter Tryd.func5, Tryd.ntmps5
    go_wp2_with (fail)
    refine HD.out.mono ?_
    rintro e w0 ⟨v0, H, rfl, hO0, hg0⟩
    obtain ⟨a0, c0, rfl⟩ := hO0.sh
    have H0 : Hid (Grew w w0 ∧ RowsV w0 (.slice a0 H.length c0) H) := Lib.hid ⟨hg0, hO0.toV⟩
    clear hO0 hg0 HD
    obtain ⟨T, eT⟩ : ∃ T, timesX H = T := ⟨_, rfl⟩
    have HT := Lib.hid eT
    obtain ⟨M, eM⟩ : ∃ M, calmX H = M := ⟨_, rfl⟩
    have HM := Lib.hid eM
    have HCI : Hid (∀ (v : Value) (W : World), RowsV W v H → Grew w W → Calls Tryd.prog 28 #[v] W (NewRows W T)) := Lib.hid fun v W hv hW => by
      have := TopplesOf_any v _ W hv (HS.out.grew hW)
      rwa [HT.out] at this
    have HCS : Hid (∀ (v : Value) (W : World), RowsV W v H → Grew w W → Calls Tryd.prog 29 #[v] W (NewRows W T)) := Lib.hid fun v W hv hW => by
      have := STopplesOf_any v _ W hv
      rwa [HT.out] at this
    have HCF : Hid (∀ (v : Value) (W : World), RowsV W v H → Grew w W → Calls Tryd.prog 18 #[v] W (NewRows W M)) := Lib.hid fun v W hv hW => by
      have := CalmFirst_any v _ W hv (HS.out.grew hW)
      rwa [HM.out] at this
    clear eT eM
    go_wp2_with (fail)
    refine (HCI.out _ _ (H0.out.2) (H0.out.1)).mono ?_
    rintro e w1 ⟨v1, rfl, hO1, hg1⟩
    obtain ⟨a1, c1, rfl⟩ := hO1.sh
    have H1 : Hid (Grew w w1 ∧ RowsV w1 (.slice a0 H.length c0) H ∧ RowsV w1 (.slice a1 T.length c1) T) := Lib.hid ⟨H0.out.1.trans hg1, (H0.out.2).grew hg1, hO1.toV⟩
    clear hO1 hg1 H0
    go_wp2_with (fail)
    refine (HCS.out _ _ (H1.out.2.1) (H1.out.1)).mono ?_
    rintro e w2 ⟨v2, rfl, hO2, hg2⟩
    obtain ⟨a2, c2, rfl⟩ := hO2.sh
    have H2 : Hid (Grew w w2 ∧ RowsV w2 (.slice a0 H.length c0) H ∧ RowsV w2 (.slice a1 T.length c1) T ∧ RowsV w2 (.slice a2 T.length c2) T) := Lib.hid ⟨H1.out.1.trans hg2, (H1.out.2.1).grew hg2, (H1.out.2.2).grew hg2, hO2.toV⟩
    clear hO2 hg2 H1
    go_wp2_with (fail)
    refine (equalRows_any _ _ T T _ (H2.out.2.2.1) (H2.out.2.2.2)).mono ?_
    rw [decide_eq_true (rfl : T = T)]
    rintro e w3 ⟨rfl, hq3⟩
    have hg3 := quiet_grew hq3
    have H3 : Hid (Grew w w3 ∧ RowsV w3 (.slice a0 H.length c0) H ∧ RowsV w3 (.slice a1 T.length c1) T ∧ RowsV w3 (.slice a2 T.length c2) T) := Lib.hid ⟨H2.out.1.trans hg3, (H2.out.2.1).grew hg3, (H2.out.2.2.1).grew hg3, (H2.out.2.2.2).grew hg3⟩
    clear hq3 hg3 H2
    by_cases hz : T.length = 0
    · have hzb : ((T.length : Int) == 0) = true := by simp [hz]
      clear hz
      go_wp2_with (fail)
      refine (HCS.out _ _ (H3.out.2.1) (H3.out.1)).mono ?_
      rintro e w4 ⟨v4, rfl, hO4, hg4⟩
      obtain ⟨a4, c4, rfl⟩ := hO4.sh
      have H4 : Hid (Grew w w4 ∧ RowsV w4 (.slice a0 H.length c0) H ∧ RowsV w4 (.slice a1 T.length c1) T ∧ RowsV w4 (.slice a2 T.length c2) T ∧ RowsV w4 (.slice a4 T.length c4) T) := Lib.hid ⟨H3.out.1.trans hg4, (H3.out.2.1).grew hg4, (H3.out.2.2.1).grew hg4, (H3.out.2.2.2).grew hg4, hO4.toV⟩
      clear hO4 hg4 H3
      go_wp2_with (fail)
      refine (equalRows_any _ _ T T _ (H4.out.2.2.1) (H4.out.2.2.2.2)).mono ?_
      rw [decide_eq_true (rfl : T = T)]
      rintro e w5 ⟨rfl, hq5⟩
      have hg5 := quiet_grew hq5
      have H5 : Hid (Grew w w5 ∧ RowsV w5 (.slice a0 H.length c0) H ∧ RowsV w5 (.slice a1 T.length c1) T ∧ RowsV w5 (.slice a2 T.length c2) T ∧ RowsV w5 (.slice a4 T.length c4) T) := Lib.hid ⟨H4.out.1.trans hg5, (H4.out.2.1).grew hg5, (H4.out.2.2.1).grew hg5, (H4.out.2.2.2.1).grew hg5, (H4.out.2.2.2.2).grew hg5⟩
      clear hq5 hg5 H4
      go_wp2
      go_ret
      exact ⟨rfl, H5.out.1⟩
    · have hzb : ((T.length : Int) == 0) = false := beq_eq_false_iff_ne.2 (by omega)
      have hs := times_yes (h := H) (by rw [HT.out]; exact hz)
      obtain ⟨_, sd, num, hg⟩ := sand_of hs
      have G := Grid.of hg
      have hLEN := G.len
      have hHT : T = shapeL (timesL H.length (H.getD 0 []).length H.flatten) (H.getD 0 []).length H.length := by rw [← HT.out, timesX, if_pos hs]
      have hHM : M = shapeL (calmL H.length (H.getD 0 []).length H.flatten) (H.getD 0 []).length H.length := by rw [← HM.out, calmX_yes hs]
      have htl := sd.calm.1.tlen
      have hcl := sd.calm_len
      have hsum := sumT_le sd
      have htold := times_told sd
      have hbox := sd.box
      have hHl := sd.len
      obtain ⟨m, em⟩ : ∃ m, (H.getD 0 []).length = m := ⟨_, rfl⟩
      rw [em] at hLEN hHT hHM htl hcl hsum htold hbox hHl num
      obtain ⟨tl, etl⟩ : ∃ tl, timesL H.length m H.flatten = tl := ⟨_, rfl⟩
      obtain ⟨ml, eml⟩ : ∃ ml, calmL H.length m H.flatten = ml := ⟨_, rfl⟩
      obtain ⟨hl, ehl⟩ : ∃ hl, H.flatten = hl := ⟨_, rfl⟩
      have hn4 := hbox.1.2
      have hn1 := hbox.1.1
      have hm1 := hbox.2.1
      have hm4 := hbox.2.2
      have HRT : Hid (∀ (v : Value) (W : World), RowsV W v T → Calls Tryd.prog 21 #[v] W (FlatPost W tl)) := Lib.hid fun v W hv => by
        have := rowOf_any v T W hv (by rw [hHT, shapeL_len]; omega) (fun r hr => by rw [hHT, shapeL_len] at hr; rw [hHT, shapeL_row _ _ _ _ htl hr]; omega)
        rwa [hHT, shapeL_flat _ _ _ htl, etl] at this
      have HRM : Hid (∀ (v : Value) (W : World), RowsV W v M → Calls Tryd.prog 21 #[v] W (FlatPost W ml)) := Lib.hid fun v W hv => by
        have := rowOf_any v M W hv (by rw [hHM, shapeL_len]; omega) (fun r hr => by rw [hHM, shapeL_len] at hr; rw [hHM, shapeL_row _ _ _ _ hcl hr]; omega)
        rwa [hHM, shapeL_flat _ _ _ hcl, eml] at this
      have HRH : Hid (∀ (v : Value) (W : World), RowsV W v H → Calls Tryd.prog 21 #[v] W (FlatPost W hl)) := Lib.hid fun v W hv => by
        have := rowOf_any v H W hv (by omega) (fun r hr => by rw [hLEN r hr]; omega)
        rwa [ehl] at this
      rw [etl] at hsum htold htl
      rw [eml] at hcl htold
      rw [ehl] at htold hHl num
      have hN16 : H.length * m ≤ 16 := Nat.mul_le_mul hn4 hm4
      have hdiv : ∀ i, i < H.length * m → i / m ≤ 3 ∧ i % m ≤ 3 := fun i hi => by
        have h1 : i / m < H.length := Nat.div_lt_of_lt_mul (by rw [Nat.mul_comm]; exact hi)
        have h2 : i % m < m := Nat.mod_lt _ (by omega)
        omega
      rw [← htl] at hHl hcl hsum htold hN16 hdiv num
      have HNR : Hid (∀ i k, k ≤ tl.length → 0 ≤ nearT m i tl k ∧ nearT m i tl k ≤ 960 * (k : Int)) := Lib.hid fun i k hk => nearT_le hsum k hk
      have HL : Hid (∀ i, i < tl.length → (0 ≤ hl.getD i 0 ∧ hl.getD i 0 ≤ 9) ∧ (0 ≤ tl.getD i 0 ∧ tl.getD i 0 ≤ 960) ∧ ml.getD i 0 = hl.getD i 0 - 4 * tl.getD i 0 + nearT m i tl tl.length ∧ i / m ≤ 3 ∧ i % m ≤ 3) := Lib.hid fun i hi => ⟨num i hi, hsum i hi, htold i hi, hdiv i hi⟩
      have hll : hl.length = tl.length := hHl
      have hml : ml.length = tl.length := hcl
      have hm0 : ((m : Int) == 0) = false := beq_eq_false_iff_ne.2 (by omega)
      have h0n : (0 : Int) < H.length := by omega
      have HEM := Lib.hid em
      clear hz hs sd num hg G hHT hHM htl hcl hsum htold hbox hHl etl eml ehl em hdiv hn4 hm4
      go_wp2_with (fail)
      refine (HRT.out _ _ (H3.out.2.2.1)).mono ?_
      rintro e w4 ⟨g4, c4, rfl, hO4, hg4⟩
      have H4 : Hid (Grew w w4 ∧ RowsV w4 (.slice a0 H.length c0) H ∧ IntsV w4 (.slice (some ⟨g4, 0, none⟩) tl.length c4) tl) := Lib.hid ⟨H3.out.1.trans hg4, (H3.out.2.1).grew hg4, hO4.toV⟩
      clear hO4 hg4 H3
      go_wp2_with (fail)
      refine (HRH.out _ _ (H4.out.2.1)).mono ?_
      rintro e w5 ⟨g5, c5, rfl, hO5, hg5⟩
      have H5 : Hid (Grew w w5 ∧ RowsV w5 (.slice a0 H.length c0) H ∧ IntsV w5 (.slice (some ⟨g4, 0, none⟩) tl.length c4) tl ∧ IntsV w5 (.slice (some ⟨g5, 0, none⟩) hl.length c5) hl) := Lib.hid ⟨H4.out.1.trans hg5, (H4.out.2.1).grew hg5, (H4.out.2.2).grew hg5, hO5.toV⟩
      clear hO5 hg5 H4
      go_wp2_with (fail)
      refine (HCF.out _ _ (H5.out.2.1) (H5.out.1)).mono ?_
      rintro e w6 ⟨v6, rfl, hO6, hg6⟩
      obtain ⟨a6, c6, rfl⟩ := hO6.sh
      have H6 : Hid (Grew w w6 ∧ RowsV w6 (.slice a0 H.length c0) H ∧ IntsV w6 (.slice (some ⟨g4, 0, none⟩) tl.length c4) tl ∧ IntsV w6 (.slice (some ⟨g5, 0, none⟩) hl.length c5) hl ∧ RowsV w6 (.slice a6 M.length c6) M) := Lib.hid ⟨H5.out.1.trans hg6, (H5.out.2.1).grew hg6, (H5.out.2.2.1).grew hg6, (H5.out.2.2.2).grew hg6, hO6.toV⟩
      clear hO6 hg6 H5
      go_wp2_with (fail)
      refine (HRM.out _ _ (H6.out.2.2.2.2)).mono ?_
      rintro e w7 ⟨g7, c7, rfl, hO7, hg7⟩
      have H7 : Hid (Grew w w7 ∧ RowsV w7 (.slice a0 H.length c0) H ∧ IntsV w7 (.slice (some ⟨g4, 0, none⟩) tl.length c4) tl ∧ IntsV w7 (.slice (some ⟨g5, 0, none⟩) hl.length c5) hl ∧ IntsV w7 (.slice (some ⟨g7, 0, none⟩) ml.length c7) ml) := Lib.hid ⟨H6.out.1.trans hg7, (H6.out.2.1).grew hg7, (H6.out.2.2.1).grew hg7, (H6.out.2.2.2.1).grew hg7, hO7.toV⟩
      clear hO7 hg7 H6
      have HLT : Hid (∀ k, k < tl.length → w7.cell? ⟨g4, k, none⟩ = some (.int .i64 (tl.getD k 0))) := Lib.hid fun k hk => (H7.out.2.2.1).at k hk
      have HLA : Hid (∀ k, k < tl.length → w7.cell? ⟨g5, k, none⟩ = some (.int .i64 (hl.getD k 0))) := Lib.hid fun k hk => (H7.out.2.2.2.1).at k (by rw [hll]; exact hk)
      have HLB : Hid (∀ k, k < tl.length → w7.cell? ⟨g7, k, none⟩ = some (.int .i64 (ml.getD k 0))) := Lib.hid fun k hk => (H7.out.2.2.2.2).at k (by rw [hml]; exact hk)
      obtain ⟨aH, bH, oH, cH, eH, _, haH, HCH⟩ := (H7.out.2.1).shape
      simp only [Value.slice.injEq, true_and] at eH
      obtain ⟨rfl, rfl⟩ := eH
      obtain rfl := haH hn1
      obtain ⟨u0, hcu0, hu0⟩ := HCH.out 0 hn1
      obtain ⟨ra, rb, ro, rc, eu0, _⟩ := hu0.shape
      rw [HEM.out] at eu0
      rw [eu0, Nat.add_zero] at hcu0
      have HG0 : Hid (Grew w w7) := Lib.hid H7.out.1
      clear haH hu0 eu0 hn1
      go_wp2_with (fail)
      clear hcu0
      go_loopw [9] (fun iv wr => ∃ i : Nat, iv = .int .i64 i ∧ i ≤ tl.length ∧ Hid (Grew w7 wr)) (fun iv _ => tl.length - (intOf iv).toNat)
      case atStart => exact ⟨0, rfl, Nat.zero_le _, Grew.refl _⟩
      case round =>
        obtain ⟨i, rfl, hi, HI⟩ := hrel
        by_cases hlt : i < tl.length
        · obtain ⟨wo, rfl⟩ : ∃ wo : World, wo = wr := ⟨_, rfl⟩
          have hcT := HI.out.cell (HLT.out i hlt)
          have hcA := HI.out.cell (HLA.out i hlt)
          obtain ⟨ba, bt, htold, hd1, hd2⟩ := HL.out i hlt
          obtain ⟨ai, eai⟩ : ∃ x, hl.getD i 0 = x := ⟨_, rfl⟩
          obtain ⟨ti, eti⟩ : ∃ x, tl.getD i 0 = x := ⟨_, rfl⟩
          rw [eai] at hcA ba htold
          rw [eti] at hcT bt htold
          have HTI := Lib.hid eti
          have HTOLD := Lib.hid htold
          obtain ⟨ri, eri⟩ : ∃ x, i / m = x := ⟨_, rfl⟩
          obtain ⟨qi, eqi⟩ : ∃ x, i % m = x := ⟨_, rfl⟩
          rw [eri] at hd1
          rw [eqi] at hd2
          have t1 : (i : Int).tdiv m = (ri : Int) := by rw [← eri]; exact (Int.ofNat_tdiv _ _).symm
          have t2 : (i : Int).tmod m = (qi : Int) := by rw [← eqi]; exact (Int.ofNat_tmod _ _).symm
          have t3 : (i : Int) / m = (ri : Int) := by rw [← eri]; rfl
          have t4 : (i : Int) % m = (qi : Int) := by rw [← eqi]; rfl
          have HRQ := Lib.hid (And.intro eri eqi)
          have hin : (i : Int) < tl.length := by omega
          have hinl : (i : Int) < hl.length := by omega
          have hinm : (i : Int) < ml.length := by omega
          clear eai eti eri eqi htold
          go_wp2
          go_quiet (fail)
          go_wp2_with (fail)
          generalize hwq : wo.drewN _ = wq
          have HQ : Hid (Grew w7 wq) := Lib.hid (by rw [← hwq]; exact HI.out.trans ((Grew.refl _).drewN _))
          clear hwq hcT hcA
          go_loopw [10, 11] (fun nv kv wr => ∃ k : Nat, nv = .int .i64 (ai - 4 * ti + nearT m i tl k) ∧ kv = .int .i64 k ∧ k ≤ tl.length ∧ Hid (Grew w7 wr)) (fun _ kv _ => tl.length - (intOf kv).toNat)
          case atStart => exact ⟨0, (by show _ = Value.int .i64 (ai - 4 * ti + 0); rw [Int.add_zero]), rfl, Nat.zero_le _, HQ.out⟩
          case round =>
            obtain ⟨k, rfl, rfl, hk, HK⟩ := hrel
            clear HQ
            have by1 := HNR.out i k hk
            by_cases hltk : k < tl.length
            · have hcK := HK.out.cell (HLT.out k hltk)
              obtain ⟨_, bk, _, hd3, hd4⟩ := HL.out k hltk
              have hsc := nearT_succ m i tl k
              obtain ⟨tk, etk⟩ : ∃ x, tl.getD k 0 = x := ⟨_, rfl⟩
              rw [etk] at hcK bk hsc
              obtain ⟨y, ey⟩ : ∃ x, nearT m i tl k = x := ⟨_, rfl⟩
              rw [ey] at by1 hsc ⊢
              rw [HRQ.out.1, HRQ.out.2] at hsc
              obtain ⟨rk, erk⟩ : ∃ x, k / m = x := ⟨_, rfl⟩
              obtain ⟨qk, eqk⟩ : ∃ x, k % m = x := ⟨_, rfl⟩
              rw [erk] at hd3 hsc
              rw [eqk] at hd4 hsc
              have s1 : (k : Int).tdiv m = (rk : Int) := by rw [← erk]; exact (Int.ofNat_tdiv _ _).symm
              have s2 : (k : Int).tmod m = (qk : Int) := by rw [← eqk]; exact (Int.ofNat_tmod _ _).symm
              have s3 : (k : Int) / m = (rk : Int) := by rw [← erk]; rfl
              have s4 : (k : Int) % m = (qk : Int) := by rw [← eqk]; rfl
              obtain ⟨dr, edr⟩ : ∃ x : Int, (ri : Int) - rk = x := ⟨_, rfl⟩
              obtain ⟨dc, edc⟩ : ∃ x : Int, (qi : Int) - qk = x := ⟨_, rfl⟩
              have p1 := sq_le (d := dr) (by omega)
              have p2 := sq_le (d := dc) (by omega)
              rw [edr, edc] at hsc
              obtain ⟨pr, epr⟩ : ∃ x : Int, dr * dr = x := ⟨_, rfl⟩
              obtain ⟨pc, epc⟩ : ∃ x : Int, dc * dc = x := ⟨_, rfl⟩
              rw [epr] at p1 hsc
              rw [epc] at p2 hsc
              have hkn : (k : Int) < tl.length := by omega
              have HKG : Hid (∀ W, Grew wr W → Grew w7 W) := Lib.hid fun W hW => HK.out.trans hW
              clear etk erk eqk HK
              by_cases hc : pr + pc = 1
              · have hcb : ((pr + pc) == 1) = true := by simp [hc]
                rw [if_pos hc] at hsc
                have HS2 := Lib.hid hsc
                clear hsc hc ey
                go_wp2
                go_quiet (fail)
                go_wp2
                go_quiet (fail)
                go_wp2
                go_roundw
                case rel => exact ⟨k + 1, (by rw [HS2.out, ← Int.add_assoc]), by go_num, by omega, HKG.out _ (by first | exact ((Grew.refl _).drewN _).drewN _ | exact (Grew.refl _).drewN _ | exact Grew.refl _)⟩
                case measure => simp [intOf]; omega
              · have hcb : ((pr + pc) == 1) = false := beq_eq_false_iff_ne.2 hc
                rw [if_neg hc, Int.add_zero] at hsc
                have HS2 := Lib.hid hsc
                clear hsc hc ey
                go_wp2
                go_quiet (fail)
                go_wp2
                go_quiet (fail)
                go_wp2
                go_roundw
                case rel => exact ⟨k + 1, (by rw [HS2.out]), by go_num, by omega, HKG.out _ (by first | exact ((Grew.refl _).drewN _).drewN _ | exact (Grew.refl _).drewN _ | exact Grew.refl _)⟩
                case measure => simp [intOf]; omega
            · obtain rfl : k = tl.length := by omega
              have hcT := HK.out.cell (HLT.out i hlt)
              have hcB := HK.out.cell (HLB.out i hlt)
              rw [HTI.out] at hcT
              have hto := HTOLD.out
              obtain ⟨bi, ebi⟩ : ∃ x, ml.getD i 0 = x := ⟨_, rfl⟩
              rw [ebi] at hcB hto
              rw [← hto]
              have hnb : (bi != bi) = false := by simp
              have htn : ¬ ti < 0 := by omega
              have hnk : ¬ (tl.length : Int) < tl.length := by omega
              clear ebi hto hk
              go_wp2
              go_roundw
              case rel => exact ⟨i + 1, by go_num, by omega, HK⟩
              case measure => simp [intOf]; omega
        · obtain rfl : i = tl.length := by omega
          have hnk : ¬ (tl.length : Int) < tl.length := by omega
          go_wp2
          go_ret
          exact ⟨rfl, HG0.out.trans HI.out⟩
end Go.Proofs.YthgafljbbkgldaaDoor
namespace Go.Proofs.YthgafljbbkgldaaDoor.pTopplesOf
open Go.RowKit Go.ChangeShapes Go.WideShapes Go.ChangeAt

set_option maxRecDepth 100000 in
theorem lifted (os : Os) (started : os.Started) (H : Type) (enc : TypeId × Value → H) :
    ReturnsInHanded {} Tryd.checked os 5 .any (fun w args => (Rows.fnTopplesOfSpec.pre enc Tryd.prog Tryd.f5 [] false w args ∧ laidMetH Tryd.prog laid1 w) ∧ sizedMet enc Tryd.prog Tryd.f5 (OpenSpec.ofChange Rows.fnTopplesOfSpec) false w args)
      (Rows.fnTopplesOfSpec.post enc Tryd.prog Tryd.f5 false true false false) := by
  refine returnsInHanded_of_change_and (C := Tryd.checked) (X := fun w _ => laidMetH Tryd.prog laid1 w) (fun _ _ _ hh h => h.of_heap hh) Tryd.own started (by kernel_rfl) Tryd.func5
    (ChangeSpec.witness_shaped (enc := enc) (C := Tryd.checked) (os := os) (X := fun w _ => laidMetH Tryd.prog laid1 w) false (World.doorLaid Tryd.prog 400 os) #[.slice none 0 0] 8 rfl (World.shaped_of_RefB (by kernel_rfl) (by kernel_rfl)) (by kernel_rfl) (by kernel_rfl) (by kernel_rfl) (door_met os _)) ?_
  intro W base args ds gs before hval0 hW _ _ hL _
  have hval : ∀ (j : Nat) t v, Tryd.f5.params[j]? = some t → args[j]? = some v → Value.okWide Tryd.prog W .any base t v := hval0
  have hW' := hW
  obtain ⟨p, q, hA0, hV, rfl, _, _⟩ := hW
  have hA : DataW.TrodAll enc Tryd.prog W 0 (fun _ => true) true Tryd.f5.params.toList args.toList ds p := hA0
  rw [Tryd.params5] at hA hval
  obtain ⟨v0, d0, rfl, rfl, h0⟩ := trodAll_one hA
  have hV' := hV
  obtain ⟨_, _, _, _, dv, _, rfl, _⟩ := trodVars_one hV
  obtain ⟨a0, len0, cap0, rfl⟩ := okWide_slice Tryd.underlying22 (hval 0 22 v0 rfl rfl)
  have k0 := h0
  have lt0 : ∀ x ∈ p, x.block < W.heap.size := by obtain ⟨m, hm⟩ := k0; exact DataW.trod_lt m _ _ _ hm
  obtain ⟨bs0, hn0, hb0⟩ := bytes_came h0
  have HS := steps_of_laid hL
  clear hA0 hval0
  refine (FnTopplesOf_any _ bs0 W hn0 hb0 HS).mono fun e W' ⟨he, bel⟩ => ?_
  subst he
  exact ⟨_, rfl, _, _, _, [], _, q, hW', trodAll_mk1 (shut_bool Tryd.underlying4 _), (trodAll_mk1 (Below.trod Tryd.laidOut (by kernel_rfl) (of_decide_eq_true (by kernel_rfl)) k0 bel lt0)), Below.trodVars Tryd.laidOut bel (by kernel_rfl) hV', Below.frame bel _, fun h => by cases h⟩

theorem row_proved : Rows.FnTopplesOfSaid :=
  OpenClaim.holds_of_wide 5 Tryd.f5 rfl rfl rfl rfl rfl rfl rfl ⟨rfl, rfl, rfl, rfl, rfl⟩ rfl rfl rfl rfl rfl (by kernel_rfl) Tryd.func5
    (show joinedFacts Tryd.prog 5 Tryd.f5 Rows.fnTopplesOfSpec Rows.fnTopplesOfRow = true by unfold joinedFacts; rw [Tryd.makeG, Tryd.liftsG, Tryd.enterG]; kernel_rfl)
    (of_decide_eq_true (by kernel_rfl)) (by unfold Func.isWrapper; first | (rw [if_pos (by decide +kernel)]; kernel_rfl) | (rw [if_neg (by decide +kernel)]; exact ⟨rfl, rfl⟩))
    (fun os started H enc _ => lifted os started H enc)

theorem proved : Rows.FnTopplesOfCardSaid :=
  Claim7.holds_tied_plain_at .later [] [.data] true Rows.fnTopplesOfCard.stood.harness Rows.fnTopplesOfCard.stood.looks
    row_proved (fun _ h => by cases h) (by kernel_rfl) (fun _ h => by cases h) fnTopplesOf_row_tie rfl ⟨rfl, rfl⟩ (show Tryd.prog.mainIs = some (Rows.fnTopplesOfCard.stood.harness.1, Rows.fnTopplesOfCard.stood.harness.2.toList) from Tryd.mainG) rfl
    (fun f fn hf hfn => by
      obtain rfl : f = 5 := Option.some.inj ((show Tryd.prog.funcNamed "loop.example/wateronheights/laws.FnTopplesOf" = some 5 by kernel_rfl).symm.trans hf) |>.symm
      obtain rfl : fn = Tryd.f5 := (Option.some.inj (Tryd.func5.symm.trans hfn)).symm
      exact ⟨by kernel_rfl, fun j t ht => by
        rw [Tryd.params5] at ht
        have hm : t ∈ [22] := by simpa using Array.mem_of_getElem? ht
        have hall : ([22].all fun u => !Tryd.prog.wantsStandIn u) = true := by kernel_rfl
        exact (show Tryd.prog.wantsStandIn t = false by simpa using List.all_eq_true.1 hall t hm)⟩)
    (by kernel_rfl)
#print axioms proved
end Go.Proofs.YthgafljbbkgldaaDoor.pTopplesOf
