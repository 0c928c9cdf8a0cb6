/- The contract of spec.KeepsOf. -/
import Derived.Test.YtdjjimnfhfdjdaaDoorKeepG
import Derived.Test.YtdjjimnfhfdjdaaDoorSPass
namespace Go.Proofs.YtdjjimnfhfdjdaaDoor
open Go.RowKit

set_option maxRecDepth 100000 in
set_option maxHeartbeats 4000000 in
theorem SKeepsOf_any (v : Value) (h : List (List Int)) (w : World) (hv : RowsV w v h) :
    Calls Tryd.prog 34 #[v] w (OwnI w (keepsL h)) := by
  have HK := sValidGrid_any v h w hv
  cases hg : vGrid h with
  | false =>
    rw [hg] at HK
    have HK2 := Lib.hid HK
    rw [keepsL_no hg]
    obtain ⟨a, b, o, c, rfl, _, _, _⟩ := hv.shape
    clear hv HK hg
    go_enter Tryd.func34, Tryd.ntmps34
    go_wp2_with (fail)
    refine HK2.out.mono ?_
    rintro e w1 ⟨rfl, hG⟩
    have HG := Lib.hid hG
    clear hG
    go_wp2
    go_ret
    exact ownI_nil HG.out
  | true =>
    rw [hg] at HK
    have HK2 := Lib.hid HK
    have G := Grid.of hg
    obtain ⟨n, en⟩ : ∃ n, h.length = n := ⟨_, rfl⟩
    obtain ⟨m, em⟩ : ∃ m, (h.getD 0 []).length = m := ⟨_, rfl⟩
    obtain ⟨N, eN⟩ : ∃ N, n * m = N := ⟨_, rfl⟩
    have HE : Hid (∀ W, Grew w W → Calls Tryd.prog 44 #[v, .bool false] W (OwnI W (pitsL h))) := Lib.hid fun W hW => by
      have := ends_any v h false W (hv.grew hW) hg
      simp only [Bool.false_eq_true, if_false] at this
      exact this
    have hn5 := G.n5
    have hm5 := G.m5
    rw [en] at hn5
    rw [em] at hm5
    have hpn : ∀ i, i < n * m → 0 ≤ h.flatten.getD i 0 ∧ h.flatten.getD i 0 ≤ 12 := fun i hi => grid_num G i (by rw [en, em]; exact hi)
    have HPA : Hid (∀ (i k : Nat) W, Grew w W → i < N → k < N → Calls Tryd.prog 54 #[v, .int .i64 i, .int .i64 k] W fun e w' => e = .returned (.int .i64 (passN n m h.flatten i k)) ∧ Grew W w') := Lib.hid fun i k W hW hi hk => by
      have hvc : ∀ x : Nat, x < N → vCell h (x : Int) = true := fun x hx => by
        rw [vCell, hg, Bool.true_and, Bool.and_eq_true, decide_eq_true_eq, decide_eq_true_eq]
        have : ((n * m : Nat) : Int) = (n : Int) * m := by simp
        rw [en, em]
        omega
      have := SPassBetween_any v h i k W (hv.grew hW)
      rwa [passL_yes hg en em (hvc i hi) (hvc k hk)] at this
    have HPB : Hid (∀ i k, i < N → k < N → h.flatten.getD i 0 ≤ passN n m h.flatten i k ∧ passN n m h.flatten i k ≤ 12) := Lib.hid fun i k hi hk => ⟨(passN_ge hn5 hm5 hpn (by omega) (by omega)).1, (passN_top hn5 hm5 hpn (by omega) (by omega)).2⟩
    have hPl : (pitsL h).length ≤ 1000000 := pitsL_le h
    have HME := Lib.hid (pitsL_mem hg)
    obtain ⟨P, eP⟩ : ∃ P, pitsL h = P := ⟨_, rfl⟩
    have HR : Hid (keepsL h = P.map fun i => keepN n m h.flatten i.toNat) := Lib.hid (by rw [keepsL, eP, en, em])
    rw [eP] at HE hPl
    rw [eP, en, em] at HME
    obtain ⟨p, ep⟩ : ∃ p, h.flatten = p := ⟨_, rfl⟩
    obtain ⟨pf, hpf⟩ : ∃ pf : Nat → Int, ∀ i, pf i = p.getD i 0 := ⟨fun i => p.getD i 0, fun _ => rfl⟩
    have HPF := Lib.hid hpf
    have HSP := Lib.hid (specH hv hg en em eN (by rw [ep]; exact hpf))
    rw [ep] at HPA HR HPB hpn
    have HPN : Hid (∀ i, i < N → 0 ≤ pf i ∧ pf i ≤ 12) := Lib.hid fun i hi => by rw [hpf]; exact hpn i (by omega)
    obtain ⟨R, eR⟩ : ∃ R, keepsL h = R := ⟨_, rfl⟩
    rw [eR] at HR ⊢
    have hN25 : N ≤ 25 := by rw [← eN]; exact Nat.mul_le_mul hn5 hm5
    have HNM := Lib.hid eN
    obtain ⟨a, b, o, c, rfl, ⟨hlc, hcb⟩, _, _⟩ := hv.shape
    clear hv HK hg G en em eN eP ep eR hpn hpf hn5 hm5
    go_enter Tryd.func34, Tryd.ntmps34
    go_wp2_with (fail)
    refine HK2.out.mono ?_
    rintro e w1 ⟨rfl, hG⟩
    have HG := Lib.hid hG
    clear hG
    go_wp2_with (fail)
    refine (HE.out _ HG.out).mono ?_
    rintro e w2 ho2
    obtain ⟨a2, c2, rfl, hO2, hg2⟩ := ho2.shape
    obtain ⟨Q, eQ⟩ : ∃ Q, P.length = Q := ⟨_, rfl⟩
    have HQ := Lib.hid eQ
    rw [eQ] at hO2 hPl ⊢
    have H2 : Hid (IntsO 3 w.heap.size w2.heap.size w2 (.slice a2 Q c2) P ∧ Grew w w2) := Lib.hid ⟨hO2.wide HG.out.size (Nat.le_refl _), HG.out.trans hg2⟩
    clear hO2 hg2 ho2 eQ HE
    have hlit := IntsO.lit 3 w2.heap.size w2 [] #[] rfl (Nat.le_refl _) (show 0 ≤ maxLen by decide)
    have H3 : Hid (IntsO 3 w2.heap.size (w2.alloc (.cells #[] 3)).heap.size (w2.alloc (.cells #[] 3)) (.slice (some ⟨w2.heap.size, 0, none⟩) 0 0) [] ∧ IntsO 3 w.heap.size w2.heap.size (w2.alloc (.cells #[] 3)) (.slice a2 Q c2) P ∧ Grew w (w2.alloc (.cells #[] 3)) ∧ w2.heap.size ≤ (w2.alloc (.cells #[] 3)).heap.size) :=
      Lib.hid ⟨by simpa using hlit, H2.out.1.grew ((Grew.refl _).alloc _), H2.out.2.alloc _, by simp⟩
    clear hlit
    go_wp2
    go_loopg [4, 5] Q (fun gk v i wi => ∃ a5 ln c5, v = .slice a5 ln c5 ∧ i = .int .i64 ((ln : Nat) : Int) ∧ ln ≤ Q ∧ Q ≤ gk + ln ∧
      Hid (IntsO 3 w2.heap.size wi.heap.size wi v ((P.take ln).map fun i => keepN n m p i.toNat) ∧ IntsO 3 w.heap.size w2.heap.size wi (.slice a2 Q c2) P ∧ Grew w wi ∧ w2.heap.size ≤ wi.heap.size))
    case atStart => exact ⟨_, 0, 0, rfl, rfl, Nat.zero_le _, Nat.le_refl _, H3.out⟩
    case round =>
      obtain ⟨a5, ln, c5, rfl, rfl, hk1, hk2, HZ⟩ := hrel
      clear H3
      by_cases hlt : ln < Q
      · obtain ⟨a6, b6, o6, c7, e6, _, ha6, HC6⟩ := HZ.out.2.1.toV.shape
        rw [HQ.out] at e6 ha6
        obtain ⟨rfl, rfl⟩ : a2 = a6 ∧ c2 = c7 := by simpa using e6
        obtain rfl := ha6 (by omega)
        have hlc := HC6.out ln (by rw [HQ.out]; exact hlt)
        have hmem : P.getD ln 0 ∈ P := by rw [List.getD_eq_getElem?_getD, List.getElem?_eq_getElem (by rw [HQ.out]; exact hlt)]; exact List.getElem_mem _
        obtain ⟨I, eI, hI0⟩ := HME.out _ hmem
        have hI : I < N := by rw [← HNM.out]; exact hI0
        have HEI := Lib.hid eI
        rw [eI] at hlc
        have hIi : (I : Int) < (N : Int) := by omega
        clear e6 ha6 HC6 hmem eI hI0
        obtain ⟨go, rfl⟩ : ∃ go : Nat, go = gk := ⟨_, rfl⟩
        obtain ⟨wo, ewo⟩ : ∃ wo : World, wo = wr := ⟨_, rfl⟩
        rw [← ewo] at HZ hlc ⊢
        clear ewo
        go_wp2
        go_loopg [7, 8] N (fun gj bv i wi => ∃ x : Nat, x ≤ N ∧ N ≤ gj + x ∧ i = .int .i64 (x : Int) ∧ (∃ y : Int, bv = .int .i64 y ∧ -1 ≤ y ∧ y ≤ 12 ∧ Hid (y = bestU n m p I x)) ∧ Hid (Grew wo wi))
        case atStart => exact ⟨0, Nat.zero_le _, Nat.le_refl _, rfl, ⟨-1, rfl, Int.le_refl _, by omega, rfl⟩, Grew.refl _⟩
        case round =>
          obtain ⟨x, hx, hgj, rfl, ⟨y, rfl, hy1, hy2, HY⟩, HG2⟩ := hrel
          have HGW : Hid (Grew w wr) := Lib.hid (HZ.out.2.2.1.trans HG2.out)
          have HCW := Lib.hid (HSP.out.cells _ HGW.out)
          by_cases hxN : x < N
          · have hxi : (x : Int) < (N : Int) := by omega
            have HAX := Lib.hid fun W (hW : Grew w W) => HSP.out.hat x W hW hxN
            have HAI := Lib.hid fun W (hW : Grew w W) => HSP.out.hat I W hW hI
            have hbx := HPN.out x hxN
            have hbI := HPN.out I hI
            have hpx := HPF.out x
            have hpI := HPF.out I
            obtain ⟨X, eX⟩ : ∃ X, pf x = X := ⟨_, rfl⟩
            obtain ⟨Y, eY⟩ : ∃ Y, pf I = Y := ⟨_, rfl⟩
            rw [eX] at HAX hbx hpx
            rw [eY] at HAI hbI hpI
            have HEP := Lib.hid (And.intro hpx hpI)
            clear eX eY hpx hpI
            go_wp2_with (fail)
            refine HCW.out.mono ?_
            rintro e w3 ⟨rfl, rfl⟩
            go_wp2_with (fail)
            refine (HAX.out _ HGW.out).mono ?_
            rintro e w4 ⟨rfl, hq4⟩
            have HG4 : Hid (Grew w w4 ∧ Grew wo w4) := Lib.hid ⟨HGW.out.trans (quiet_grew hq4), HG2.out.trans (quiet_grew hq4)⟩
            clear hq4
            go_wp2_with (fail)
            refine (HAI.out _ HG4.out.1).mono ?_
            rintro e w5 ⟨rfl, hq5⟩
            have HG5 : Hid (Grew w w5 ∧ Grew wo w5) := Lib.hid ⟨HG4.out.1.trans (quiet_grew hq5), HG4.out.2.trans (quiet_grew hq5)⟩
            clear hq5
            by_cases hXY : Y < X
            · have HNX : Hid (y = bestU n m p I (x + 1) ∧ Grew wo w5) := Lib.hid ⟨by rw [bestU_no (Bool.eq_false_iff.2 fun h => by rw [ahead_iff, ← HEP.out.1, ← HEP.out.2] at h; omega)]; exact HY.out, HG5.out.2⟩
              go_wp2
              go_roundg (gk - 1)
              case measure => omega
              case rel => exact ⟨x + 1, by omega, by omega, by go_num, ⟨y, rfl, hy1, hy2, HNX.out.1⟩, HNX.out.2⟩
            · go_wp2_with (fail)
              refine (HAX.out _ HG5.out.1).mono ?_
              rintro e w6 ⟨rfl, hq6⟩
              have HG6 : Hid (Grew w w6 ∧ Grew wo w6) := Lib.hid ⟨HG5.out.1.trans (quiet_grew hq6), HG5.out.2.trans (quiet_grew hq6)⟩
              clear hq6
              go_wp2_with (fail)
              refine (HAI.out _ HG6.out.1).mono ?_
              rintro e w7 ⟨rfl, hq7⟩
              have HG7 : Hid (Grew w w7 ∧ Grew wo w7) := Lib.hid ⟨HG6.out.1.trans (quiet_grew hq7), HG6.out.2.trans (quiet_grew hq7)⟩
              clear hq7
              by_cases hah : X < Y ∨ x < I
              · have hA : ahead p x I = true := ahead_iff.2 (by rw [← HEP.out.1, ← HEP.out.2]; omega)
                have HA := Lib.hid hA
                have hpb := HPB.out I x hI hxN
                rw [← HEP.out.2] at hpb
                have HPX := Lib.hid fun W (hW : Grew w W) => HPA.out I x W hW hI hxN
                obtain ⟨z, ez⟩ : ∃ z, passN n m p I x = z := ⟨_, rfl⟩
                rw [ez] at hpb HPX
                have HEZ := Lib.hid ez
                clear hA ez
                have HCONT : ∀ bb : Bool, (bb = true) = ((X == Y) = true ∧ (I : Int) ≤ (x : Int)) → bb = false := fun bb hbb => by
                  refine Bool.eq_false_iff.2 fun h => ?_
                  rw [hbb] at h
                  have : X = Y := by simpa using h.1
                  omega
                by_cases hxy : X = Y
                · subst hxy
                  have hxI : ¬ (I : Int) ≤ (x : Int) := by omega
                  clear HCONT
                  go_wp2_with (fail)
                  refine (HPX.out _ HG7.out.1).mono ?_
                  rintro e w8 ⟨rfl, hg8⟩
                  have HG8 : Hid (Grew w w8 ∧ Grew wo w8) := Lib.hid ⟨HG7.out.1.trans hg8, HG7.out.2.trans hg8⟩
                  clear hg8
                  go_wp2_with (fail)
                  refine (HAI.out _ HG8.out.1).mono ?_
                  rintro e w9 ⟨rfl, hq9⟩
                  have HG9 : Hid (Grew wo w9) := Lib.hid (HG8.out.2.trans (quiet_grew hq9))
                  clear hq9
                  by_cases hbt : y < 0 ∨ z - X < y
                  · have HNX : Hid (z - X = bestU n m p I (x + 1)) := Lib.hid (by rw [bestU_yes HA.out (by rw [HEZ.out, ← HEP.out.2, ← HY.out]; exact hbt), HEZ.out, ← HEP.out.2])
                    by_cases hy0 : y < 0
                    · go_wp2
                      go_roundg (gk - 1)
                      case measure => omega
                      case rel => exact ⟨x + 1, by omega, by omega, by go_num, ⟨z - X, by go_num, by omega, by omega, HNX.out⟩, HG9.out⟩
                    · have hlt2 : z - X < y := by omega
                      go_wp2
                      go_roundg (gk - 1)
                      case measure => omega
                      case rel => exact ⟨x + 1, by omega, by omega, by go_num, ⟨z - X, by go_num, by omega, by omega, HNX.out⟩, HG9.out⟩
                  · have HNX : Hid (y = bestU n m p I (x + 1)) := Lib.hid (by rw [bestU_keep HA.out (by rw [HEZ.out, ← HEP.out.2, ← HY.out]; exact hbt)]; exact HY.out)
                    have hy0 : ¬ y < 0 := by omega
                    have hlt2 : ¬ z - X < y := by omega
                    go_wp2
                    go_roundg (gk - 1)
                    case measure => omega
                    case rel => exact ⟨x + 1, by omega, by omega, by go_num, ⟨y, rfl, hy1, hy2, HNX.out⟩, HG9.out⟩
                · have hxe : (X == Y) = false := beq_eq_false_iff_ne.2 hxy
                  clear HCONT
                  go_wp2_with (fail)
                  refine (HPX.out _ HG7.out.1).mono ?_
                  rintro e w8 ⟨rfl, hg8⟩
                  have HG8 : Hid (Grew w w8 ∧ Grew wo w8) := Lib.hid ⟨HG7.out.1.trans hg8, HG7.out.2.trans hg8⟩
                  clear hg8
                  go_wp2_with (fail)
                  refine (HAI.out _ HG8.out.1).mono ?_
                  rintro e w9 ⟨rfl, hq9⟩
                  have HG9 : Hid (Grew wo w9) := Lib.hid (HG8.out.2.trans (quiet_grew hq9))
                  clear hq9
                  by_cases hbt : y < 0 ∨ z - Y < y
                  · have HNX : Hid (z - Y = bestU n m p I (x + 1)) := Lib.hid (by rw [bestU_yes HA.out (by rw [HEZ.out, ← HEP.out.2, ← HY.out]; exact hbt), HEZ.out, ← HEP.out.2])
                    by_cases hy0 : y < 0
                    · go_wp2
                      go_roundg (gk - 1)
                      case measure => omega
                      case rel => exact ⟨x + 1, by omega, by omega, by go_num, ⟨z - Y, by go_num, by omega, by omega, HNX.out⟩, HG9.out⟩
                    · have hlt2 : z - Y < y := by omega
                      go_wp2
                      go_roundg (gk - 1)
                      case measure => omega
                      case rel => exact ⟨x + 1, by omega, by omega, by go_num, ⟨z - Y, by go_num, by omega, by omega, HNX.out⟩, HG9.out⟩
                  · have HNX : Hid (y = bestU n m p I (x + 1)) := Lib.hid (by rw [bestU_keep HA.out (by rw [HEZ.out, ← HEP.out.2, ← HY.out]; exact hbt)]; exact HY.out)
                    have hy0 : ¬ y < 0 := by omega
                    have hlt2 : ¬ z - Y < y := by omega
                    go_wp2
                    go_roundg (gk - 1)
                    case measure => omega
                    case rel => exact ⟨x + 1, by omega, by omega, by go_num, ⟨y, rfl, hy1, hy2, HNX.out⟩, HG9.out⟩
              · have hxy : X = Y := by omega
                subst hxy
                have hxI : (I : Int) ≤ (x : Int) := by omega
                have HNX : Hid (y = bestU n m p I (x + 1) ∧ Grew wo w7) := Lib.hid ⟨by rw [bestU_no (Bool.eq_false_iff.2 fun h => by rw [ahead_iff, ← HEP.out.1, ← HEP.out.2] at h; omega)]; exact HY.out, HG7.out.2⟩
                go_wp2
                go_roundg (gk - 1)
                case measure => omega
                case rel => exact ⟨x + 1, by omega, by omega, by go_num, ⟨y, rfl, hy1, hy2, HNX.out.1⟩, HNX.out.2⟩
          · obtain rfl : x = N := by omega
            have HEY : Hid (y = keepN n m p I) := Lib.hid (by rw [keepN, HNM.out]; exact HY.out)
            have hlen : ((P.take ln).map fun i => keepN n m p i.toNat).length = ln := by rw [List.length_map, List.length_take, HQ.out]; omega
            have HLEN := Lib.hid hlen
            have H4 : Hid (IntsO 3 w2.heap.size wr.heap.size wr (.slice a5 ln c5) ((P.take ln).map fun i => keepN n m p i.toNat) ∧ IntsO 3 w.heap.size w2.heap.size wr (.slice (some ⟨b6, o6, none⟩) Q c2) P ∧ Grew w wr ∧ w2.heap.size ≤ wr.heap.size) := by
              obtain ⟨z1, z2, z3, z4⟩ := HZ.out
              have hg4 := HG2.out
              exact Lib.hid ⟨(z1.grew hg4).wide (Nat.le_refl _) hg4.size, z2.grew hg4, z3.trans hg4, Nat.le_trans z4 hg4.size⟩
            clear hlen HY HZ
            go_wp2_with (fail)
            refine HCW.out.mono ?_
            rintro e w3 ⟨rfl, rfl⟩
            go_wp2_with (at_builtin; refine wpList_append_int rfl (.tmp 69) (.tmp 71) 25 rfl Tryd.underlying25 Tryd.infoI rfl rfl (by simp) H4.out.1 (by rw [HLEN.out]; omega) H4.out.2.2.2 ?_; intro g5 c5' w5 hO5 hW5 hS5; rw [HLEN.out] at hO5 ⊢)
            have H5 : Hid (IntsO 3 w2.heap.size w5.heap.size w5 (.slice (some ⟨g5, 0, none⟩) (ln + 1) c5') ((P.take (ln + 1)).map fun i => keepN n m p i.toNat) ∧ IntsO 3 w.heap.size w2.heap.size w5 (.slice (some ⟨b6, o6, none⟩) Q c2) P ∧ Grew w w5 ∧ w2.heap.size ≤ w5.heap.size) := by
              obtain ⟨z1, z2, z3, z4⟩ := H4.out
              have := H2.out.2.size
              refine Lib.hid ⟨?_, z2.within hW5 (.inl (Nat.le_refl _)), hW5.grew z3 (by omega), by omega⟩
              rw [map_take_next _ 0 (by rw [HQ.out]; exact hlt), HEI.out, Int.toNat_natCast, ← HEY.out]
              exact hO5
            clear hO5 hW5
            go_wp2
            go_roundg (go - 1)
            case measure => omega
            case rel => exact ⟨_, ln + 1, c5', rfl, by go_num, by omega, by omega, H5.out⟩
      · obtain rfl : ln = Q := by omega
        have H6 : Hid (IntsO 3 w.heap.size wr.heap.size wr (.slice a5 ln c5) R ∧ ln = R.length ∧ Grew w wr) := by
          obtain ⟨z1, z2, z3, z4⟩ := HZ.out
          rw [List.take_of_length_le (by rw [HQ.out]; exact Nat.le_refl _), ← HR.out] at z1
          exact Lib.hid ⟨z1.wide H2.out.2.size (Nat.le_refl _), by rw [HR.out, List.length_map, HQ.out], z3⟩
        clear HZ
        go_wp2
        go_ret
        refine ⟨a5, c5, ret_slice H6.out.2.1, ?_, H6.out.2.2⟩
        rw [← H6.out.2.1]
        exact H6.out.1
end Go.Proofs.YtdjjimnfhfdjdaaDoor
