/- The law FnSmoothByMeans returns true. -/
import Derived.Test.YtlifjhhjkcmneaaSMeans2
import Derived.Test.YtlifjhhjkcmneaaEqF
import Derived.Test.YtlifjhhjkcmneaaMeansM
import Derived.Test.YtlifjhhjkcmneaaDrawsP
import Derived.Test.YtlifjhhjkcmneaaAppendInts
namespace Go.Proofs.Ytlifjhhjkcmneaa
open Go.RowKit

theorem meansX_yes {p : List Int} (h : (meansX p).length ≠ 0) : vProf p = true := by
  unfold meansX at h
  cases hm : vProf p with
  | true => rfl
  | false => rw [hm, if_neg (by simp)] at h; exact absurd rfl h
theorem meansX_is {p : List Int} (h : vProf p = true) : (meansX p).length = p.length ∧ ∀ k, k < p.length → (meansX p).getD k (0, 0) = bestF' p k := by
  unfold meansX
  rw [if_pos h]
  refine ⟨by simp, fun k hk => by simp [hk]⟩
theorem bestF_nat {p : List Int} (hp : vProf p = true) (i : Nat) (hi : i < p.length) : ∃ x y : Nat, bestF' p i = ((x : Int), (y : Int)) ∧ x ≤ 108 ∧ y ≤ 9 ∧ 1 ≤ y := by
  obtain ⟨_, _, a, b, h1, h2, h3, e⟩ := bestF_is p i hi
  have hb := mF_bd hp a b h3
  have ho := mF_one p a b (by omega)
  rw [e]
  have hm : mF p a b = ((((sumP p a (b + 1)).toNat / Nat.gcd (sumP p a (b + 1)).toNat (b + 1 - a) : Nat) : Int), (((b + 1 - a) / Nat.gcd (sumP p a (b + 1)).toNat (b + 1 - a) : Nat) : Int)) := rfl
  obtain ⟨x, ex⟩ : ∃ x, (sumP p a (b + 1)).toNat / Nat.gcd (sumP p a (b + 1)).toNat (b + 1 - a) = x := ⟨_, rfl⟩
  obtain ⟨y, ey⟩ : ∃ y, (b + 1 - a) / Nat.gcd (sumP p a (b + 1)).toNat (b + 1 - a) = y := ⟨_, rfl⟩
  rw [ex, ey] at hm
  rw [hm] at hb ho ⊢
  simp only at hb ho
  exact ⟨x, y, rfl, by omega, by omega, by omega⟩
theorem frL_twelve (d : Nat) (h : 1 ≤ d) : frL (12 * d) d = (12, 1) := by
  unfold frL
  rw [Nat.gcd_mul_left_left, Nat.mul_div_cancel _ h, Nat.div_self h]
  rfl

set_option maxRecDepth 100000 in
set_option maxHeartbeats 8000000 in
theorem FnSmoothByMeans_any (v : Value) (bs : List Int) (w : World) (hv : NumsV .u8 w v bs) (hb : ∀ i, i < bs.length → 0 ≤ bs.getD i 0 ∧ bs.getD i 0 ≤ 255) :
    Calls Try.prog 4 #[v] w fun e w' => e = .returned (.bool true) ∧ Grew w w' := by
  have HD := Lib.hid (DrawSmoothByMeans_any v bs w hv hb)
  obtain ⟨a, b, o, c, rfl, ⟨hlc, hcb⟩, _, _⟩ := hv.shape
  clear hv hb
  by_cases hbig : 1048576 < bs.length
  · go_enter Try.func4, Try.ntmps4
    go_wp2
    go_ret
    exact ⟨rfl, Grew.refl _⟩
  · go_enter Try.func4, Try.ntmps4
    go_wp2_with (fail)
    refine HD.out.mono ?_
    rintro e w1 ⟨v1, p, rfl, hO, hd, hg1⟩
    have h9 := hd.1
    have HV := Lib.hid (And.intro hO.toV hg1)
    obtain ⟨a3, c3, rfl⟩ := hO.sh
    obtain ⟨M, eM⟩ : ∃ M, meansX p = M := ⟨_, rfl⟩
    have HM := Lib.hid eM
    clear hO hd hg1 HD eM
    go_wp2_with (fail)
    refine (SmoothByMeans_any _ p _ HV.out.1).mono ?_
    rw [HM.out]
    rintro e w2 ⟨v2, rfl, hO2, hg2⟩
    have H2 := Lib.hid (And.intro hO2.toV hg2)
    obtain ⟨a5, c5, rfl⟩ := hO2.sh
    clear hO2 hg2
    go_wp2_with (fail)
    refine (SSmoothByMeans_any _ p _ (HV.out.1.grew H2.out.2)).mono ?_
    rw [HM.out]
    rintro e w3 ⟨v3, rfl, hO3, hg3⟩
    have H3 := Lib.hid (And.intro hO3.toV (And.intro (H2.out.2.trans hg3) (H2.out.1.grew hg3)))
    obtain ⟨a6, c6, rfl⟩ := hO3.sh
    clear hO3 hg3
    go_wp2_with (fail)
    refine (equalFracs_any _ _ M M _ H3.out.2.2 H3.out.1).mono ?_
    rw [decide_eq_true (rfl : M = M)]
    rintro e w4 ⟨rfl, hq⟩
    have H4 := Lib.hid (And.intro (H3.out.2.2.grew (quiet_grew hq)) (H3.out.2.1.trans (quiet_grew hq)))
    clear hq
    by_cases hM : M.length = 0
    · have hM' : ((M.length : Int) == 0) = true := by simp [hM]
      clear hM
      go_wp2_with (fail)
      refine (SSmoothByMeans_any _ p _ (HV.out.1.grew H4.out.2)).mono ?_
      rw [HM.out]
      rintro e w5 ⟨v5, rfl, hO5, hg5⟩
      have H5 := Lib.hid (And.intro hO5.toV (And.intro (H4.out.1.grew hg5) (H4.out.2.trans hg5)))
      obtain ⟨a7, c7, rfl⟩ := hO5.sh
      clear hO5 hg5
      go_wp2_with (fail)
      refine (equalFracs_any _ _ M M _ H5.out.2.1 H5.out.1).mono ?_
      rw [decide_eq_true (rfl : M = M)]
      rintro e w6 ⟨rfl, hq⟩
      have H6 := Lib.hid (H5.out.2.2.trans (quiet_grew hq))
      clear hq
      go_wp2
      go_ret
      exact ⟨rfl, HV.out.2.trans H6.out⟩
    · have hp := meansX_yes (p := p) (by rw [HM.out]; exact hM)
      have hM' : ((M.length : Int) == 0) = false := beq_eq_false_iff_ne.2 (by omega)
      have hmi := meansX_is hp
      rw [HM.out] at hmi
      have hp0 := ((vProf_iff p).1 hp).1
      have HP := Lib.hid hp
      have HMI := Lib.hid hmi
      have HB := Lib.hid ((vProf_iff p).1 hp).2.2
      obtain ⟨ap, bp, op, cp, ep, _, hap, HCP⟩ := (HV.out.1.grew H4.out.2).shape
      simp only [Value.slice.injEq] at ep
      obtain ⟨rfl, _, rfl⟩ := ep
      obtain rfl := hap (by omega)
      have H0 : Hid (IntsO 3 w4.heap.size (w4.alloc (.cells #[] 3)).heap.size (w4.alloc (.cells #[] 3)) (.slice (some ⟨w4.heap.size, 0, none⟩) 0 0) ((flipD p).take 0) ∧ Grew w4 (w4.alloc (.cells #[] 3))) :=
        Lib.hid ⟨by have := IntsO.lit 3 w4.heap.size w4 [] #[] rfl (Nat.le_refl _) (by decide); simpa using this, (Grew.refl _).alloc _⟩
      have w0' : IntKind.i64.wrap ((p.length : Int) - 1) = (p.length : Int) - 1 := wrap_12 _ (by omega) (by omega)
      clear hp hmi hM hap
      go_wp2_with (fail)
      go_loopw [5, 6] (fun qv iv wr => ∃ (d g cq : Nat) (j : Int), qv = .slice (some ⟨g, 0, none⟩) d cq ∧ iv = .int .i64 j ∧ d ≤ p.length ∧ j = (p.length : Int) - 1 - d ∧ Hid (IntsO 3 w4.heap.size wr.heap.size wr qv ((flipD p).take d) ∧ Grew w4 wr)) (fun _ iv _ => (intOf iv + 1).toNat)
      case atStart => exact ⟨0, _, _, (p.length : Int) - 1, rfl, by go_num, Nat.zero_le _, by omega, H0.out.1, H0.out.2⟩
      case round =>
        obtain ⟨d, g, cq, j, rfl, rfl, hd, hj, HI⟩ := hrel
        clear H0
        have HJ := Lib.hid hj
        by_cases hlt : d < p.length
        · obtain ⟨n, rfl⟩ := Int.eq_ofNat_of_zero_le (show 0 ≤ j by omega)
          have hn : n < p.length := by omega
          have hcn := HI.out.2.cell (HCP.out n hn)
          have hbn := HB.out n hn
          have hft := flipD_take p d hlt
          rw [show p.length - 1 - d = n by omega] at hft
          obtain ⟨x, ex⟩ : ∃ x, p.getD n 0 = x := ⟨_, rfl⟩
          rw [ex] at hcn hbn hft
          have HFT := Lib.hid hft
          have HLN : Hid (((flipD p).take d).length = d) := by show _ = _; simp [flipD_len]; omega
          obtain ⟨X, hX⟩ : ∃ X, (flipD p).take d = X := ⟨_, rfl⟩
          have HX := Lib.hid hX
          rw [hX] at HLN HFT
          have HO6 : Hid (IntsO 3 w4.heap.size wr.heap.size wr (.slice (some ⟨g, 0, none⟩) d cq) X) := by rw [← HX.out]; exact HI.out.1
          have w1' : IntKind.i64.wrap (12 - x) = 12 - x := wrap_12 _ (by omega) (by omega)
          have w2' : IntKind.i64.wrap ((n : Int) - 1) = (n : Int) - 1 := wrap_12 _ (by omega) (by omega)
          have r1 : (n : Int) < p.length := by omega
          have r2 : (0 : Int) ≤ n := by omega
          have hsz := HI.out.2.size
          have HN : Hid ((n : Int) - 1 = (p.length : Int) - 1 - ((d + 1 : Nat) : Int)) := Lib.hid (by omega)
          clear hX hft ex hj
          go_wp2_with (at_builtin; refine wpList_append_int rfl (.tmp 38) (.tmp 44) 23 rfl Try.underlying23 Try.infoE rfl rfl rfl HO6.out (by rw [HLN.out]; omega) (by omega) ?_; rw [HLN.out]; intro g5 c5 w5 hO5 hW5 hS5)
          have HF : Hid (IntsO 3 w4.heap.size w5.heap.size w5 (.slice (some ⟨g5, 0, none⟩) (d + 1) c5) ((flipD p).take (d + 1)) ∧ Grew w4 w5) := by
            rw [← HFT.out]; exact ⟨hO5, Within.grew HI.out.2 hW5 (Nat.le_refl _)⟩
          clear hO5 hW5 hS5 hcn
          go_wp2
          go_roundw
          case rel => exact ⟨d + 1, g5, c5, (n : Int) - 1, rfl, by go_num, by omega, HN.out, HF.out⟩
          case measure => simp [intOf]
        · obtain rfl : d = p.length := by omega
          have hjn : j = -1 := by omega
          subst hjn
          have hfl : (flipD p).take p.length = flipD p := List.take_of_length_le (by rw [flipD_len]; omega)
          have HQ : Hid (IntsV wr (.slice (some ⟨g, 0, none⟩) p.length cq) (flipD p) ∧ Grew w4 wr) := by
            have := HI.out
            rw [hfl] at this
            exact ⟨this.1.toV, this.2⟩
          have hmi2 := meansX_is (vProf_flipD HP.out)
          rw [flipD_len] at hmi2
          obtain ⟨M2, eM2⟩ : ∃ M2, meansX (flipD p) = M2 := ⟨_, rfl⟩
          have HM2 := Lib.hid eM2
          rw [eM2] at hmi2
          have HMI2 := Lib.hid hmi2
          clear hfl hj HI eM2 hmi2
          go_wp2_with (fail)
          refine (SmoothByMeans_any _ (flipD p) _ HQ.out.1).mono ?_
          rw [HM2.out]
          rintro e w7 ⟨v7, rfl, hO7, hg7⟩
          have H7 := Lib.hid (And.intro hO7.toV (And.intro (HQ.out.2.trans hg7) (H4.out.1.grew (HQ.out.2.trans hg7))))
          obtain ⟨a8, c8, rfl⟩ := hO7.sh
          clear hO7 hg7
          obtain ⟨ao, bo, oo, co, eo, _, hao, HCO⟩ := H7.out.2.2.shape
          simp only [Value.slice.injEq] at eo
          obtain ⟨rfl, _, rfl⟩ := eo
          obtain rfl := hao (by have := HMI.out.1; omega)
          obtain ⟨at_, bt, ot, ct, et, _, hat, HCT⟩ := H7.out.1.shape
          simp only [Value.slice.injEq] at et
          obtain ⟨rfl, _, rfl⟩ := et
          obtain rfl := hat (by have := HMI2.out.1; omega)
          have hee : ((M2.length : Int) == (M.length : Int)) = true := by simp [HMI.out.1, HMI2.out.1]
          have HFO : Hid (∀ W, Calls Try.prog 21 #[.int .i64 12, .int .i64 1] W fun e w' => e = .returned (.agg #[.int .i64 12, .int .i64 1]) ∧ Grew W w') := fun W => lfracOf_any 12 1 W (by decide) (by decide) (by decide)
          have hne : ∀ W, (binOp .neq 29 (.agg #[.int .i64 12, .int .i64 1]) (.agg #[.int .i64 12, .int .i64 1])).run Try.prog W = .ok (.bool false) W := fun W => by
            have := neqFr 12 1 12 1 W
            simpa using this
          have hgd := fun op x y xs ys W => guardFr op x y xs ys W
          clear hao hat
          go_wp2_with (fail)
          go_loopw [8] (fun iv wr => ∃ k : Nat, iv = .int .i64 k ∧ k ≤ p.length ∧ Hid (Grew w7 wr)) (fun iv _ => p.length - (intOf iv).toNat)
          case atStart => exact ⟨0, rfl, Nat.zero_le _, Grew.refl _⟩
          case round =>
            obtain ⟨k, rfl, hk, HK⟩ := hrel
            by_cases hltk : k < p.length
            · obtain ⟨m, em⟩ : ∃ m, p.length - 1 - k = m := ⟨_, rfl⟩
              have hkM : k < M.length := by have := HMI.out.1; omega
              have hmM : m < M2.length := by have := HMI2.out.1; omega
              have hc1 := HK.out.cell (HCO.out k hkM).1
              have hc2 := HK.out.cell (HCO.out k hkM).2
              have hc3 := HK.out.cell (HCT.out m hmM).1
              have hc4 := HK.out.cell (HCT.out m hmM).2
              rw [HMI.out.2 k hltk] at hc1 hc2
              rw [HMI2.out.2 m (by omega)] at hc3 hc4
              have hbf := best_flip HP.out k hltk
              rw [em] at hbf
              obtain ⟨x1, y1, ef, hx1, hy1, hz1⟩ := bestF_nat HP.out k hltk
              obtain ⟨x2, y2, eg, hx2, hy2, hz2⟩ := bestF_nat (vProf_flipD HP.out) m (by rw [flipD_len]; omega)
              rw [ef] at hc1 hc2 hbf
              rw [eg] at hc3 hc4 hbf
              simp only at hc1 hc2 hc3 hc4 hbf
              have hpl : frL (x1 * y2 + x2 * y1) (y1 * y2) = (12, 1) := by
                have : x1 * y2 + x2 * y1 = 12 * (y1 * y2) := by exact_mod_cast hbf
                rw [this]
                exact frL_twelve _ (Nat.mul_pos hz1 hz2)
              have HPL := Lib.hid (fun W => plusOf_any x1 y1 x2 y2 W (by omega) (by omega) (by omega) hy2 hz1 hz2)
              rw [hpl] at HPL
              unfold frV at HPL
              have HS0 : Hid (Grew wr wr ∧ wr.cell? ⟨bo, oo + k * 2, none⟩ = some (.int .i64 x1) ∧ wr.cell? ⟨bo, oo + k * 2 + 1, none⟩ = some (.int .i64 y1) ∧ wr.cell? ⟨bt, ot + m * 2, none⟩ = some (.int .i64 x2) ∧ wr.cell? ⟨bt, ot + m * 2 + 1, none⟩ = some (.int .i64 y2)) := ⟨Grew.refl _, hc1, hc2, hc3, hc4⟩
              have HS1 : Hid (Grew wr wr.drew ∧ wr.drew.cell? ⟨bo, oo + k * 2, none⟩ = some (.int .i64 x1) ∧ wr.drew.cell? ⟨bo, oo + k * 2 + 1, none⟩ = some (.int .i64 y1) ∧ wr.drew.cell? ⟨bt, ot + m * 2, none⟩ = some (.int .i64 x2) ∧ wr.drew.cell? ⟨bt, ot + m * 2 + 1, none⟩ = some (.int .i64 y2)) := ⟨(Grew.refl _).drew, hc1, hc2, hc3, hc4⟩
              have HSM : Hid (∀ W W' : World, Grew W W' → (Grew wr W ∧ W.cell? ⟨bo, oo + k * 2, none⟩ = some (.int .i64 x1) ∧ W.cell? ⟨bo, oo + k * 2 + 1, none⟩ = some (.int .i64 y1) ∧ W.cell? ⟨bt, ot + m * 2, none⟩ = some (.int .i64 x2) ∧ W.cell? ⟨bt, ot + m * 2 + 1, none⟩ = some (.int .i64 y2)) → (Grew wr W' ∧ W'.cell? ⟨bo, oo + k * 2, none⟩ = some (.int .i64 x1) ∧ W'.cell? ⟨bo, oo + k * 2 + 1, none⟩ = some (.int .i64 y1) ∧ W'.cell? ⟨bt, ot + m * 2, none⟩ = some (.int .i64 x2) ∧ W'.cell? ⟨bt, ot + m * 2 + 1, none⟩ = some (.int .i64 y2))) :=
                fun W W' hg h => ⟨h.1.trans hg, hg.cell h.2.1, hg.cell h.2.2.1, hg.cell h.2.2.2.1, hg.cell h.2.2.2.2⟩
              have e1 : (p.length : Int) - 1 - (k : Int) = (m : Int) := by omega
              have w3' : IntKind.i64.wrap (m : Int) = (m : Int) := wrap_12 _ (by omega) (by omega)
              have w4' : IntKind.i64.wrap ((k : Int) + 1) = (k : Int) + 1 := wrap_12 _ (by omega) (by omega)
              have r1 : (k : Int) < M.length := by omega
              have r2 : (0 : Int) ≤ k := by omega
              have r3 : (m : Int) < M2.length := by omega
              have r4 : (0 : Int) ≤ m := by omega
              have HEM := Lib.hid em
              clear hc1 hc2 hc3 hc4 hbf ef eg hpl hx1 hy1 hz1 hx2 hy2 hz2 em
              go_wp2_with (fail)
              go_region_held3 (fun W => Grew wr W ∧ W.cell? ⟨bo, oo + k * 2, none⟩ = some (.int .i64 x1) ∧ W.cell? ⟨bo, oo + k * 2 + 1, none⟩ = some (.int .i64 y1) ∧ W.cell? ⟨bt, ot + m * 2, none⟩ = some (.int .i64 x2) ∧ W.cell? ⟨bt, ot + m * 2 + 1, none⟩ = some (.int .i64 y2))
                (first
                  | exact HS0.out
                  | exact HS1.out
                  | assumption
                  | exact h5c)
                (first
                  | (go_at_call 23; refine (HPL.out _).mono ?_; rintro e5 w5 ⟨rfl, hg5⟩; have h5c := HSM.out _ _ hg5 (by first | assumption | exact HS1.out))
                  | (go_at_call 21; refine (HFO.out _).mono ?_; rintro e5 w5 ⟨rfl, hg5⟩; have h5c := HSM.out _ _ hg5 (by first | assumption | exact HS1.out)))
              all_goals
                have H5 := Lib.hid (HK.out.trans h5c.1)
                clear h5c hg5
                go_wp2
                go_roundw
                case rel => exact ⟨k + 1, by go_num, by omega, H5.out⟩
                case measure => simp [intOf]; omega
            · obtain rfl : k = p.length := by omega
              have r1 : ¬ ((p.length : Int) < (M.length : Int)) := by have := HMI.out.1; omega
              go_wp2
              go_ret
              exact ⟨rfl, HV.out.2.trans (H4.out.2.trans (H7.out.2.1.trans HK.out))⟩
end Go.Proofs.Ytlifjhhjkcmneaa
