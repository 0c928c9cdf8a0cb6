/- The law FnSpillOf returns true. -/
import Derived.Test.YthjnfkphlildaaaDoorPass
import Derived.Test.YthjnfkphlildaaaDoorSPass
import Derived.Test.YthjnfkphlildaaaDoorSSpillOf
import Derived.Test.YthjnfkphlildaaaDoorFillByQueue
import Derived.Test.YthjnfkphlildaaaDoorDraws2
import Derived.Test.YthjnfkphlildaaaDoorRowOf
namespace Go.Proofs.YthjnfkphlildaaaDoor
open Go.RowKit

theorem grid_small2 {h : List (List Int)} {m : Nat} (G : Grid h m) : h.length ≤ 1000 ∧ ∀ r, r < h.length → 1 ≤ (h.getD r []).length ∧ (h.getD r []).length ≤ 1000 :=
  ⟨by have := G.n5; omega, fun r hr => by have := G.len r hr; have := G.m1; have := G.m5; omega⟩
/-- The least pass to the cells at the edge before k. -/
noncomputable def minE (n m : Nat) (p : List Int) (I : Nat) : Nat → Int
  | 0 => 13
  | k + 1 => if edgeL n m k then min (minE n m p I k) (passN n m p I k) else minE n m p I k
theorem minE_yes {n m I k : Nat} {p : List Int} (h : edgeL n m k = true) : minE n m p I (k + 1) = min (minE n m p I k) (passN n m p I k) := by rw [minE, if_pos h]
theorem minE_no {n m I k : Nat} {p : List Int} (h : edgeL n m k = false) : minE n m p I (k + 1) = minE n m p I k := by rw [minE, if_neg (by rw [h]; simp)]
theorem minE_spec {n m I : Nat} {p : List Int} : ∀ k, (∀ x, x < k → edgeL n m x = true → minE n m p I k ≤ passN n m p I x) ∧ (minE n m p I k = 13 ∨ ∃ x, x < k ∧ edgeL n m x = true ∧ minE n m p I k = passN n m p I x)
  | 0 => ⟨fun _ h => absurd h (Nat.not_lt_zero _), .inl rfl⟩
  | k + 1 => by
    obtain ⟨h1, h2⟩ := minE_spec (n := n) (m := m) (I := I) (p := p) k
    cases he : edgeL n m k with
    | false =>
      rw [minE_no he]
      refine ⟨fun x hx hxe => ?_, h2.imp id fun ⟨x, a, b, c⟩ => ⟨x, by omega, b, c⟩⟩
      by_cases e : x = k
      · subst e; rw [he] at hxe; cases hxe
      · exact h1 x (by omega) hxe
    | true =>
      rw [minE_yes he]
      refine ⟨fun x hx hxe => ?_, ?_⟩
      · by_cases e : x = k
        · subst e; omega
        · have := h1 x (by omega) hxe; omega
      · by_cases hlt : minE n m p I k ≤ passN n m p I k
        · rw [show min (minE n m p I k) (passN n m p I k) = minE n m p I k by omega]
          exact h2.imp id fun ⟨x, a, b, c⟩ => ⟨x, by omega, b, c⟩
        · exact .inr ⟨k, by omega, he, by omega⟩
theorem minE_bound {n m I : Nat} {p : List Int} (hp : ∀ x, x < n * m → 0 ≤ passN n m p I x ∧ passN n m p I x ≤ 12) : ∀ k, k ≤ n * m → 0 ≤ minE n m p I k ∧ minE n m p I k ≤ 13 := fun k hk => by
  obtain ⟨_, h | ⟨x, h1, _, h3⟩⟩ := minE_spec (n := n) (m := m) (I := I) (p := p) k
  · omega
  · have := hp x (by omega); omega

set_option maxRecDepth 100000 in
set_option maxHeartbeats 4000000 in
theorem FnSpillOf_any (v : Value) (bs : List Int) (w : World) (hv : NumsV .u8 w v bs) (hb : ∀ i, i < bs.length → 0 ≤ bs.getD i 0 ∧ bs.getD i 0 ≤ 255) (hS : Steps w) :
    Calls Tryd.prog 6 #[v] w fun e w' => e = .returned (.bool true) ∧ Grew w w' := by
  have HD := Lib.hid (DrawSpillOf_any v bs w hv hb)
  have HS := Lib.hid hS
  obtain ⟨a, b, o, c, rfl, ⟨hlc, hcb⟩, _, _⟩ := hv.shape
  clear hv hb hS
  by_cases hbig : 1048576 < bs.length
  · go_enter Tryd.func6, Tryd.ntmps6
    go_wp2
    go_ret
    exact ⟨rfl, Grew.refl _⟩
  · go_enter Tryd.func6, Tryd.ntmps6
    go_wp2_with (fail)
    refine HD.out.mono ?_
    rintro e w1 ⟨v1, H, i, rfl, hO, hd, hg1⟩
    have HV := Lib.hid (And.intro hO.toV hg1)
    obtain ⟨a1, c1, rfl⟩ := hO.sh
    obtain ⟨M, eM⟩ : ∃ M, spillL H i = M := ⟨_, rfl⟩
    have HM := Lib.hid eM
    have ebb : (M != M) = false := by simp
    clear hO hd hg1 HD
    go_wp2_with (fail)
    refine (SpillOf_any _ H i _ HV.out.1 (HS.out.grew HV.out.2)).mono ?_
    rw [eM]
    rintro e w2 ⟨rfl, hg2⟩
    have H2 := Lib.hid (And.intro (HV.out.1.grew hg2) (HV.out.2.trans hg2))
    clear hg2
    go_wp2_with (fail)
    refine (SSpillOf_any _ H i _ H2.out.1).mono ?_
    rw [eM]
    rintro e w3 ⟨rfl, hg3⟩
    have H3 := Lib.hid (And.intro (H2.out.1.grew hg3) (H2.out.2.trans hg3))
    clear hg3 H2 HV eM
    cases hc : vCell H i with
    | false =>
      have eM0 : M = -1 := by rw [← HM.out, spillL_no hc]
      subst eM0
      clear hc
      go_wp2_with (fail)
      refine (SSpillOf_any _ H i _ H3.out.1).mono ?_
      rw [HM.out]
      rintro e w5 ⟨rfl, hg5⟩
      have H5 := Lib.hid (H3.out.2.trans hg5)
      clear hg5
      go_wp2
      go_ret
      exact ⟨rfl, H5.out⟩
    | true =>
      obtain ⟨hvg, h0, hI, _⟩ := vCell_yes hc
      obtain ⟨I, rfl⟩ := Int.eq_ofNat_of_zero_le h0
      rw [Int.toNat_natCast] at hI
      have G := Grid.of hvg
      obtain ⟨n, en⟩ : ∃ n, H.length = n := ⟨_, rfl⟩
      obtain ⟨m, em⟩ : ∃ m, (H.getD 0 []).length = m := ⟨_, rfl⟩
      obtain ⟨N, eN⟩ : ∃ N, n * m = N := ⟨_, rfl⟩
      have hn5 := G.n5
      have hm5 := G.m5
      have hgs := grid_small2 G
      obtain ⟨f1, f2, f3⟩ := fill_grid hvg
      have hfs := grid_small2 f1
      rw [en] at hn5 hI
      rw [em] at hm5 hI
      rw [eN] at hI
      have hN25 : N ≤ 25 := by rw [← eN]; exact Nat.mul_le_mul hn5 hm5
      have hpn : ∀ i, i < n * m → 0 ≤ H.flatten.getD i 0 ∧ H.flatten.getD i 0 ≤ 12 := fun i hi => grid_num G i (by rw [en, em]; exact hi)
      have hpl := flat_grid_len G
      rw [en, em, eN] at hpl
      have hW := levelL_ok hn5 hm5 hpn
      have hMs : M = (levelL n m H.flatten).getD I 0 := by rw [← HM.out, spillL, if_pos hc, en, em, Int.toNat_natCast]
      have hvc : ∀ x : Nat, x < N → vCell H (x : Int) = true := fun x hx => by
        rw [vCell, hvg, Bool.true_and, Bool.and_eq_true, decide_eq_true_eq, decide_eq_true_eq]
        have : ((n * m : Nat) : Int) = (n : Int) * m := by simp
        rw [en, em]
        omega
      have hED := fun (x : Nat) W (hW : Grew w3 W) (hx : x < N) => OnEdge_any _ H (x : Int) W (H3.out.1.grew hW) (HS.out.grew (H3.out.2.trans hW))
      have hEB : ∀ x : Nat, x < N → edgeB H (x : Int) = edgeL n m x := fun x hx => by rw [edgeB, hvc x hx, en, em, Int.toNat_natCast, Bool.true_and, edgeL]
      have HED : Hid (∀ (x : Nat) W, Grew w3 W → x < N → Calls Tryd.prog 34 #[.slice a1 H.length c1, .int .i64 x] W fun e w' => e = .returned (.bool (edgeL n m x)) ∧ Grew W w') := Lib.hid fun x W hW hx => by
        have := hED x W hW hx
        rwa [hEB x hx] at this
      have HPA : Hid (∀ (x : Nat) W, Grew w3 W → x < N → Calls Tryd.prog 35 #[.slice a1 H.length c1, .int .i64 I, .int .i64 x] W fun e w' => e = .returned (.int .i64 (passN n m H.flatten I x)) ∧ Grew W w') := Lib.hid fun x W hW hx => by
        have := PassBetween_any _ H (I : Int) (x : Int) W (H3.out.1.grew hW) (HS.out.grew (H3.out.2.trans hW))
        rwa [passL_yes hvg en em hc (hvc x hx)] at this
      have HRH := Lib.hid fun W (hW : Grew w3 W) => rowOf_any _ H W (H3.out.1.grew hW) hgs.1 hgs.2
      have HFB := Lib.hid fun W (hW : Grew w3 W) => FillByQueue_any _ H W (H3.out.1.grew hW) (HS.out.grew (H3.out.2.trans hW))
      have HRF : Hid (∀ v W, RowsV W v (fillL H) → Calls Tryd.prog 19 #[v] W (FlatPost W (levelL n m H.flatten))) := Lib.hid fun v W hW => by
        have := rowOf_any v (fillL H) W hW hfs.1 hfs.2
        rwa [f3, en, em] at this
      have HMN : Hid (minE n m H.flatten I N = M) := Lib.hid (by
        obtain ⟨k1, k2, k3, k4, k5⟩ := spill_pass hn5 hm5 hpn hW (i := I) (by omega)
        obtain ⟨z1, z2⟩ := minE_spec (n := n) (m := m) (I := I) (p := H.flatten) N
        have z3 := z1 k2 (by omega) k4
        have z4 := (passN_top hn5 hm5 hpn (i := I) (k := k2) (by omega) k3).2
        rcases z2 with z2 | ⟨x, y1, y2, y3⟩
        · omega
        · have := k1 x (by omega) y2
          omega)
      have HPB : Hid (∀ x, x < N → 0 ≤ passN n m H.flatten I x ∧ passN n m H.flatten I x ≤ 12) := Lib.hid fun x hx => passN_top hn5 hm5 hpn (by omega) (by omega)
      have hwl : (levelL n m H.flatten).length = N := by rw [hW.len, eN]
      have hM0 : 0 ≤ M := by have := hW.base (i := I) (by omega); have := (hpn I (by omega)).1; omega
      obtain ⟨ws, ews⟩ : ∃ ws, levelL n m H.flatten = ws := ⟨_, rfl⟩
      obtain ⟨p, ep⟩ : ∃ p, H.flatten = p := ⟨_, rfl⟩
      rw [ews] at hMs hwl HRF
      rw [ep] at HPA HRH HMN HPB hpl
      obtain ⟨F, eF⟩ : ∃ F, fillL H = F := ⟨_, rfl⟩
      rw [eF] at HFB HRF
      have HWS := Lib.hid (And.intro hMs.symm hwl)
      have HPL := Lib.hid hpl
      have hM1 : ¬ M < 0 := by omega
      have hIi : (I : Int) < (N : Int) := by omega
      clear hc hvg h0 G en em eN hn5 hm5 hgs f1 f2 f3 hfs hpn hpl hW hMs hvc hED hEB hwl ews ep eF HM
      go_wp2
      go_loopw [6, 7] (fun bv i wr => ∃ k : Nat, ∃ y : Int, k ≤ N ∧ i = .int .i64 (k : Int) ∧ bv = .int .i64 y ∧ Hid (y = minE n m p I k) ∧ Hid (Grew w3 wr)) (fun _ i _ => N - (intOf i).toNat)
      case atStart => exact ⟨0, 13, Nat.zero_le _, rfl, rfl, rfl, Grew.refl _⟩
      case round =>
        obtain ⟨k, y, hk, rfl, rfl, HY, HG⟩ := hrel
        have HR := Lib.hid (HRH.out wr HG.out)
        go_wp2_with (fail)
        refine HR.out.mono ?_
        rintro e w4 ⟨g4, c4, rfl, _, hg4⟩
        rw [HPL.out]
        have HG4 := Lib.hid (HG.out.trans hg4)
        clear hg4 HR HG
        by_cases hlt : k < N
        · have hki : (k : Int) < (N : Int) := by omega
          have HEI := HED.out k w4 HG4.out hlt
          cases he : edgeL n m k with
          | true =>
            rw [he] at HEI
            have HEI2 := Lib.hid HEI
            have HNX := Lib.hid (minE_yes (p := p) (I := I) he)
            clear HEI he
            go_wp2_with (fail)
            refine HEI2.out.mono ?_
            rintro e w5 ⟨rfl, hg5⟩
            have HG5 := Lib.hid (HG4.out.trans hg5)
            have HPK := Lib.hid (HPA.out k w5 HG5.out hlt)
            obtain ⟨z, ez⟩ : ∃ z, passN n m p I k = z := ⟨_, rfl⟩
            rw [ez] at HPK HNX
            clear hg5 ez
            go_wp2_with (fail)
            refine HPK.out.mono ?_
            rintro e w6 ⟨rfl, hg6⟩
            have HG6 := Lib.hid (HG5.out.trans hg6)
            clear hg6
            go_wp2
            go_roundw
            case rel => exact ⟨k + 1, min y z, by omega, by go_num, rfl, Lib.hid (by rw [HNX.out, ← HY.out]), HG6⟩
            case measure => simp [intOf]; omega
          | false =>
            rw [he] at HEI
            have HEI2 := Lib.hid HEI
            have HNX := Lib.hid (minE_no (p := p) (I := I) he)
            clear HEI he
            go_wp2_with (fail)
            refine HEI2.out.mono ?_
            rintro e w5 ⟨rfl, hg5⟩
            have HG5 := Lib.hid (HG4.out.trans hg5)
            clear hg5
            go_wp2
            go_roundw
            case rel => exact ⟨k + 1, y, by omega, by go_num, rfl, Lib.hid (by rw [HNX.out]; exact HY.out), HG5⟩
            case measure => simp [intOf]; omega
        · obtain rfl : k = N := by omega
          have hyM : y = M := by rw [HY.out]; exact HMN.out
          subst hyM
          have HF := Lib.hid (HFB.out w4 HG4.out)
          go_wp2_with (fail)
          refine HF.out.mono ?_
          rintro e w5 ⟨v5, rfl, hO5, hg5⟩
          obtain ⟨a5, c5, rfl⟩ := hO5.sh
          have H5 := Lib.hid (And.intro hO5.toV (HG4.out.trans hg5))
          clear hO5 hg5
          go_wp2_with (fail)
          refine (HRF.out _ _ H5.out.1).mono ?_
          rintro e w6 ⟨g6, c6, rfl, hO6, hg6⟩
          have hcI := (hO6.at rfl (i := I) (by rw [HWS.out.2]; exact hI)).1
          rw [HWS.out.1] at hcI
          rw [HWS.out.2]
          have HG6 := Lib.hid (H3.out.2.trans (H5.out.2.trans hg6))
          clear hO6 hg6
          have eb : (y == y) = true := by simp
          go_wp2
          go_ret
          exact ⟨ret_bool (by simp), HG6.out⟩
end Go.Proofs.YthjnfkphlildaaaDoor
