/- The law FnTerraceCost returns true. -/
import Derived.Test.YtlifjhhjkcmneaaSTerr2
import Derived.Test.YtlifjhhjkcmneaaDrawE
import Derived.Test.YtlifjhhjkcmneaaBackw
namespace Go.Proofs.Ytlifjhhjkcmneaa
open Go.RowKit

theorem terr_f {p : List Int} (hp : vProf p = true) : ∀ i, i < p.length → 0 ≤ p.getD i 0 ∧ p.getD i 0 ≤ 12 := fun i hi => riseP_bd hp i hi
theorem terrX_yes {p : List Int} {k : Int} (h : ¬ terrX p k < 0) : terrOk p k = true := by
  unfold terrX at h
  cases hm : terrOk p k with
  | true => rfl
  | false => rw [hm, if_neg (by simp)] at h; exact absurd (by decide) h
theorem terrX_is {p : List Int} {k : Int} (h : terrOk p k = true) : terrX p k = terrT (fun i => p.getD i 0) k.toNat p.length := by unfold terrX; rw [if_pos h]
theorem terrX_more {p : List Int} {k : Int} (h : terrOk p k = true) : terrX p (k + 1) ≤ terrX p k := by
  obtain ⟨hp, h1, h9⟩ := terrOk_iff.1 h
  have hl := ((vProf_iff p).1 hp).2.1
  rw [terrX_is h]
  by_cases hk : k + 1 ≤ 9
  · rw [terrX_is (terrOk_iff.2 ⟨hp, by omega, hk⟩), show (k + 1).toNat = k.toNat + 1 by omega]
    exact terrT_mono _ _ _
  · have hn : terrOk p (k + 1) = false := by
      cases hm : terrOk p (k + 1) with
      | false => rfl
      | true => have := terrOk_iff.1 hm; omega
    unfold terrX
    rw [hn, if_neg (by simp)]
    have := terrT_nonneg (fun i => p.getD i 0) p.length (terr_f hp) hl k.toNat p.length (Nat.le_refl _) (by omega)
    omega
theorem terrX_many {p : List Int} {k : Int} (h : terrOk p k = true) (hk : ¬ k < p.length) : terrX p k = 0 := by
  obtain ⟨hp, h1, h9⟩ := terrOk_iff.1 h
  have hl := ((vProf_iff p).1 hp).2.1
  rw [terrX_is h]
  refine (terr_zero (fun i => p.getD i 0) p.length (terr_f hp) hl k.toNat (by omega)).2 ?_
  have := runsN_le (fun i => p.getD i 0) p.length
  omega
theorem vProf_revT {p : List Int} (h : vProf p = true) : vProf p.reverse = true := by
  obtain ⟨h1, h9, hb⟩ := (vProf_iff p).1 h
  refine (vProf_iff _).2 ⟨by simpa using h1, by simpa using h9, fun i hi => ?_⟩
  rw [List.length_reverse] at hi
  rw [List.getD_eq_getElem?_getD, List.getElem?_reverse hi, ← List.getD_eq_getElem?_getD]
  exact hb _ (by omega)
theorem terrX_rev {p : List Int} {k : Int} (h : terrOk p k = true) : terrX p.reverse k = terrX p k := by
  obtain ⟨hp, h1, h9⟩ := terrOk_iff.1 h
  have hl := ((vProf_iff p).1 hp).2.1
  rw [terrX_is h, terrX_is (terrOk_iff.2 ⟨vProf_revT hp, h1, h9⟩), List.length_reverse]
  exact terr_back (fun i => p.getD i 0) (fun i => p.reverse.getD i 0) p.length (terr_f hp) hl k.toNat (by omega) fun i hi => by
    show p.reverse.getD i 0 = p.getD (p.length - 1 - i) 0
    rw [List.getD_eq_getElem?_getD, List.getElem?_reverse hi, ← List.getD_eq_getElem?_getD]

set_option maxRecDepth 100000 in
set_option maxHeartbeats 8000000 in
theorem FnTerraceCost_any (v : Value) (bs : List Int) (w : World) (hv : NumsV .u8 w v bs) (hb : ∀ i, i < bs.length → 0 ≤ bs.getD i 0 ∧ bs.getD i 0 ≤ 255) :
    Calls Try.prog 5 #[v] w fun e w' => e = .returned (.bool true) ∧ Grew w w' := by
  have HD := Lib.hid (DrawTerraceCost_any v bs w hv hb)
  obtain ⟨a, b, o, c, rfl, ⟨hlc, hcb⟩, _, _⟩ := hv.shape
  clear hv hb
  by_cases hbig : 1048576 < bs.length
  · go_enter Try.func5, Try.ntmps5
    go_wp2
    go_ret
    exact ⟨rfl, Grew.refl _⟩
  · go_enter Try.func5, Try.ntmps5
    go_wp2_with (fail)
    refine HD.out.mono ?_
    rintro e w1 ⟨v1, p, k, rfl, hO, hd, ⟨hk0, hk10⟩, hg1⟩
    have h9 := hd.1
    have HV := Lib.hid (And.intro hO.toV hg1)
    obtain ⟨a3, c3, rfl⟩ := hO.sh
    obtain ⟨O, eO⟩ : ∃ O, terrX p k = O := ⟨_, rfl⟩
    have HO := Lib.hid eO
    clear hO hd hg1 HD eO
    go_wp2_with (fail)
    refine (TerraceCost_any _ p k _ HV.out.1).mono ?_
    rw [HO.out]
    rintro e w2 ⟨rfl, hg2⟩
    have H2 := Lib.hid hg2
    clear hg2
    have enn : (O != O) = false := by simp
    have enn2 : (O == O) = true := by simp
    go_wp2_with (fail)
    refine (STerraceCost_any _ p k _ (HV.out.1.grew H2.out)).mono ?_
    rw [HO.out]
    rintro e w3 ⟨rfl, hg3⟩
    have H3 := Lib.hid (H2.out.trans hg3)
    clear hg3
    by_cases hneg : O < 0
    · go_wp2_with (fail)
      refine (STerraceCost_any _ p k _ (HV.out.1.grew H3.out)).mono ?_
      rw [HO.out]
      rintro e w4 ⟨rfl, hg4⟩
      have H4 := Lib.hid (H3.out.trans hg4)
      clear hg4
      go_wp2
      go_ret
      exact ⟨ret_bool (by simp), HV.out.2.trans H4.out⟩
    · have hok := terrX_yes (p := p) (k := k) (by rw [HO.out]; exact hneg)
      have hm := terrX_more hok
      have hz := fun h => terrX_many (p := p) (k := k) hok h
      have hr := terrX_rev hok
      rw [HO.out] at hm hz hr
      obtain ⟨R, eR⟩ : ∃ R, terrX p (k + 1) = R := ⟨_, rfl⟩
      rw [eR] at hm
      have HR := Lib.hid (And.intro eR hr)
      have dle : decide (R ≤ O) = true := by simpa using hm
      have wk : IntKind.i64.wrap (k + 1) = k + 1 := wrap_small' _ (by omega) (by omega)
      have HZ := Lib.hid hz
      clear hok hz hr eR
      go_wp2_with (fail)
      refine (TerraceCost_any _ p (k + 1) _ (HV.out.1.grew H3.out)).mono ?_
      rw [HR.out.1]
      rintro e w4 ⟨rfl, hg4⟩
      have H4 := Lib.hid (H3.out.trans hg4)
      clear hg4
      by_cases hkl : k < p.length
      · have d1 : decide (k < (p.length : Int)) = true := by simpa using hkl
        go_wp2_with (fail)
        refine (backwards_any _ p _ (HV.out.1.grew H4.out) (by omega)).mono ?_
        rintro e w5 ⟨v5, rfl, hO5, hg5⟩
        have H5 := Lib.hid (And.intro hO5.toV (H4.out.trans hg5))
        obtain ⟨a6, c6, rfl⟩ := hO5.sh
        clear hO5 hg5
        rw [List.length_reverse] at H5 ⊢
        go_wp2_with (fail)
        refine (TerraceCost_any _ p.reverse k _ H5.out.1).mono ?_
        rw [HR.out.2]
        rintro e w6 ⟨rfl, hg6⟩
        have H6 := Lib.hid (H5.out.2.trans hg6)
        clear hg6
        go_wp2
        go_ret
        exact ⟨ret_bool (by simp), HV.out.2.trans H6.out⟩
      · have d1 : decide (k < (p.length : Int)) = false := by simpa using hkl
        obtain rfl : O = 0 := HZ.out (by omega)
        go_wp2_with (fail)
        refine (backwards_any _ p _ (HV.out.1.grew H4.out) (by omega)).mono ?_
        rintro e w5 ⟨v5, rfl, hO5, hg5⟩
        have H5 := Lib.hid (And.intro hO5.toV (H4.out.trans hg5))
        obtain ⟨a6, c6, rfl⟩ := hO5.sh
        clear hO5 hg5
        rw [List.length_reverse] at H5 ⊢
        go_wp2_with (fail)
        refine (TerraceCost_any _ p.reverse k _ H5.out.1).mono ?_
        rw [HR.out.2]
        rintro e w6 ⟨rfl, hg6⟩
        have H6 := Lib.hid (H5.out.2.trans hg6)
        clear hg6
        go_wp2
        go_ret
        exact ⟨ret_bool (by simp), HV.out.2.trans H6.out⟩
end Go.Proofs.Ytlifjhhjkcmneaa
