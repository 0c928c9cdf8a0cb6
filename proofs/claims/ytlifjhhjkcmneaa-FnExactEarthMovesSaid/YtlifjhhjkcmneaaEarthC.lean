/- The contracts of impl.EarthCost and spec.EarthCost. -/
import Derived.Test.YtlifjhhjkcmneaaEarth
namespace Go.Proofs.Ytlifjhhjkcmneaa
open Go.RowKit

theorem sur_pre_bd {s : List Int} (h : Sur s) (k : Nat) (hk : k ≤ s.length) : -12 * (k : Int) ≤ sumTo (at0 s) k ∧ sumTo (at0 s) k ≤ 12 * k :=
  sumTo_bd (f := at0 s) (-12) 12 fun i hi => h.bd i (by omega)

set_option maxRecDepth 100000 in
set_option maxHeartbeats 2000000 in
theorem EarthCost_any (v u : Value) (p q : List Int) (w : World) (hv : IntsV w v p) (hu : IntsV w u q) :
    Calls Try.prog 36 #[v, u] w fun e w' => e = .returned (.int .i64 (earthX p q)) ∧ Grew w w' := by
  have HV := Lib.hid (canMove_any v u p q w hv hu)
  have HVU := Lib.hid (And.intro hv hu)
  obtain ⟨a, b, o, c, rfl, _, _, _⟩ := hv.shape
  obtain ⟨a2, b2, o2, c2, rfl, _, _, _⟩ := hu.shape
  clear hv hu
  unfold earthX
  cases hp : mvOk p q with
  | false =>
    have HP := Lib.hid hp
    clear hp
    go_enter Try.func36, Try.ntmps36
    go_wp2_with (fail)
    refine HV.out.mono ?_
    rw [HP.out]
    rintro e w1 ⟨rfl, hq⟩
    have HQ := Lib.hid (quiet_grew hq)
    clear hq
    go_wp2
    go_ret
    exact ⟨rfl, HQ.out⟩
  | true =>
    have HP := Lib.hid hp
    have HS := Lib.hid (sur_of hp)
    obtain ⟨hpp, hqq, hl, _⟩ := mvOk_iff.1 hp
    obtain ⟨h1, h9⟩ := prof_len hpp
    have HO := Lib.hid (fun W (hW : Grew w W) => surplusOf_any _ _ p q W (HVU.out.1.grew hW) (HVU.out.2.grew hW) hpp hqq hl)
    obtain ⟨s, es⟩ : ∃ s, surL p q = s := ⟨_, rfl⟩
    have hsl : s.length = p.length := by rw [← es]; exact surL_len p q
    rw [es] at HS HO ⊢
    rw [← hsl] at h1 h9 HV HO HVU ⊢
    clear hp hpp hqq hl hsl es
    go_enter Try.func36, Try.ntmps36
    go_wp2_with (fail)
    refine HV.out.mono ?_
    rw [HP.out]
    rintro e w1 ⟨rfl, hq⟩
    have HQ := Lib.hid (quiet_grew hq)
    clear hq
    go_wp2_with (fail)
    refine (HO.out w1 HQ.out).mono ?_
    rintro e w2 ⟨g, c3, rfl, hO, hg⟩
    have H2 := Lib.hid (And.intro hO.toV (HQ.out.trans hg))
    clear hO hg HO HV
    have hcc : s.length ≤ c3 ∧ c3 ≤ 9223372036854775807 := by
      obtain ⟨_, _, _, _, e, hh, _⟩ := H2.out.1.shape
      simp only [Value.slice.injEq] at e
      rw [e.2.2]; exact hh
    go_wp2
    go_loopw [6, 17] (fun t i wr => ∃ (k : Nat) (n : Int), k ≤ s.length ∧ i = .int .i64 k ∧ t = .int .i64 n ∧ 0 ≤ n ∧ n ≤ 200 * (k : Int) ∧ Hid (n = sumTo (fun k => iab (sumTo (at0 s) k)) k ∧ ∃ q, wr = w2.drewN q)) (fun _ i _ => s.length - (intOf i).toNat)
    case atStart => exact ⟨0, 0, Nat.zero_le _, rfl, rfl, by omega, by omega, rfl, 0, rfl⟩
    case round =>
      obtain ⟨k, n, hk, rfl, rfl, hn0, hn1, HI⟩ := hrel
      by_cases hlt : k < s.length
      · have hb := sur_pre_bd HS.out k hk
        obtain ⟨z, ez⟩ : ∃ z, sumTo (at0 s) k = z := ⟨_, rfl⟩
        rw [ez] at hb
        have HZ := Lib.hid ez
        have HC : Hid (Calls Try.prog 77 #[.func (.func 78) #[] #[], .slice (some ⟨g, 0, none⟩) k c3] wr fun e w' => e = .returned (.int .i64 z) ∧ ∃ q, w' = wr.drewN q) := by
          have := sumOf_itself _ (s.take k) wr (IntsV.cut (H2.out.1.grew (quiet_grew HI.out.2)) k hk) (by simp; omega) (fun i hi => by
            have hi' : i < k := by simp at hi; omega
            have := HS.out.bd i (by omega)
            simp only [at0] at this
            have e : (s.take k).getD i 0 = s.getD i 0 := by simp [hi']
            rw [e]; omega)
          rw [sumTo_take s k hk] at this
          rw [← ez]
          exact this
        have hib : 0 ≤ iab (z - 0) ∧ iab (z - 0) ≤ 108 ∧ iab (z - 0) = iab z := by unfold iab; omega
        obtain ⟨y, ey⟩ : ∃ y, iab (z - 0) = y := ⟨_, rfl⟩
        have HA : Hid (∀ W, Calls Try.prog 73 #[.int .i64 z, .int .i64 0] W fun e w' => e = .returned (.int .i64 y) ∧ W = w') := fun W => by
          have := apart_any z 0 W (by omega) (by omega)
          rw [ey] at this
          exact this
        rw [ey] at hib
        obtain ⟨y0, y1, y2⟩ := hib
        have HY := Lib.hid y2
        have r1 : (k : Int) ≤ s.length := by omega
        have r3 : k ≤ c3 := by omega
        have r2 : (0 : Int) ≤ k := by omega
        clear ez ey y2 hb
        go_wp2_with (fail)
        refine HC.out.mono ?_
        rintro e w4 ⟨rfl, hq⟩
        have HQ4 := Lib.hid hq
        clear hq
        go_wp2_with (fail)
        refine (HA.out _).mono ?_
        rintro e w5 ⟨rfl, rfl⟩
        go_wp2
        go_roundw
        case rel => exact ⟨k + 1, n + y, by omega, by go_num, rfl, by omega, by omega, by rw [sumTo, ← HI.out.1, HY.out, HZ.out], by obtain ⟨r, hr⟩ := HQ4.out; rw [hr]; exact quiet_step HI.out.2 r⟩
        case measure => simp [intOf]; omega
      · obtain rfl : k = s.length := by omega
        go_wp2
        go_ret
        exact ⟨ret_int HI.out.1, H2.out.2.trans (quiet_grew HI.out.2)⟩

set_option maxRecDepth 100000 in
set_option maxHeartbeats 2000000 in
theorem SEarthCost_any (v u : Value) (p q : List Int) (w : World) (hv : IntsV w v p) (hu : IntsV w u q) :
    Calls Try.prog 37 #[v, u] w fun e w' => e = .returned (.int .i64 (earthX p q)) ∧ Grew w w' := by
  have HV := Lib.hid (validMove_any v u p q w hv hu)
  obtain ⟨a, b, o, c, rfl, ⟨hlc, hcb⟩, ha, HCC⟩ := hv.shape
  obtain ⟨a2, b2, o2, c2, rfl, ⟨hlc2, hcb2⟩, ha2, HCC2⟩ := hu.shape
  clear hv hu
  unfold earthX
  cases hp : mvOk p q with
  | false =>
    have HP := Lib.hid hp
    clear hp ha ha2
    go_enter Try.func37, Try.ntmps37
    go_wp2_with (fail)
    refine HV.out.mono ?_
    rw [HP.out]
    rintro e w1 ⟨rfl, rfl⟩
    go_wp2
    go_ret
    exact ⟨rfl, Grew.refl _⟩
  | true =>
    have HP := Lib.hid hp
    have HS := Lib.hid (sur_of hp)
    obtain ⟨hpp, hqq, hl, _⟩ := mvOk_iff.1 hp
    obtain ⟨h1, h9⟩ := prof_len hpp
    obtain rfl := ha h1
    obtain rfl := ha2 (by omega)
    have HB := Lib.hid (And.intro hpp hqq)
    obtain ⟨s, es⟩ : ∃ s, surL p q = s := ⟨_, rfl⟩
    have hsl : s.length = p.length := by rw [← es]; exact surL_len p q
    have hat : ∀ i, i < p.length → at0 s i = p.getD i 0 - q.getD i 0 := fun i hi => by rw [← es]; exact surL_at p q i hi
    rw [es] at HS ⊢
    have HSL := Lib.hid (And.intro hsl hat)
    have HQL := Lib.hid hl
    rw [← hl] at HV HCC2 ⊢
    clear hp hpp hqq hl es hsl hat ha ha2
    go_enter Try.func37, Try.ntmps37
    go_wp2_with (fail)
    refine HV.out.mono ?_
    rw [HP.out]
    rintro e w1 ⟨rfl, rfl⟩
    go_wp2
    go_loopw [5, 6, 7] (fun t m i wr => ∃ (k : Nat) (n z : Int), k ≤ p.length ∧ i = .int .i64 k ∧ t = .int .i64 n ∧ m = .int .i64 z ∧ 0 ≤ n ∧ n ≤ 200 * (k : Int) ∧ -12 * (k : Int) ≤ z ∧ z ≤ 12 * (k : Int) ∧ Hid (n = sumTo (fun k => iab (sumTo (at0 s) (k + 1))) k ∧ z = sumTo (at0 s) k ∧ ∃ q, wr = w.drewN q)) (fun _ _ i _ => p.length - (intOf i).toNat)
    case atStart => exact ⟨0, 0, 0, Nat.zero_le _, rfl, rfl, rfl, by omega, by omega, by omega, by omega, rfl, rfl, 0, rfl⟩
    case round =>
      obtain ⟨k, n, z, hk, rfl, rfl, rfl, hn0, hn1, hz0, hz1, HI⟩ := hrel
      by_cases hlt : k < p.length
      · have hg := quiet_grew HI.out.2.2
        have hc1 := hg.cell (HCC.out k hlt)
        have hc2 := hg.cell (HCC2.out k hlt)
        have hx := prof_bd HB.out.1 k hlt
        have hy := prof_bd HB.out.2 k (by rw [← HQL.out]; exact hlt)
        have hs := HSL.out.2 k hlt
        obtain ⟨x, ex⟩ : ∃ x, p.getD k 0 = x := ⟨_, rfl⟩
        obtain ⟨y, ey⟩ : ∃ y, q.getD k 0 = y := ⟨_, rfl⟩
        rw [ex] at hc1 hx hs
        rw [ey] at hc2 hy hs
        have HX := Lib.hid hs
        have e1 : IntKind.i64.wrap (z + x) = z + x := wrap_small' _ (by omega) (by omega)
        have e2 : IntKind.i64.wrap (z + x - y) = z + x - y := wrap_small' _ (by omega) (by omega)
        have e3 : IntKind.i64.wrap (-(z + x - y)) = -(z + x - y) := wrap_small' _ (by omega) (by omega)
        have e4 : IntKind.i64.wrap (n + max (z + x - y) (-(z + x - y))) = n + max (z + x - y) (-(z + x - y)) := wrap_small' _ (by omega) (by omega)
        have r1 : (k : Int) < p.length := by omega
        have r2 : (0 : Int) ≤ k := by omega
        clear ex ey hs hg
        go_wp2
        go_quiet (fail)
        go_wp2
        go_roundw
        case rel => exact ⟨k + 1, n + max (z + x - y) (-(z + x - y)), z + x - y, by omega, by go_num, rfl, rfl, by omega, by omega, by omega, by omega, by
          have e5 : sumTo (at0 s) (k + 1) = z + x - y := by rw [sumTo, ← HI.out.2.1, HX.out]; omega
          rw [sumTo, ← HI.out.1, e5]; rfl, by rw [sumTo, ← HI.out.2.1, HX.out]; omega, quiet_step HI.out.2.2 _⟩
        case measure => simp [intOf]; omega
      · obtain rfl : k = p.length := by omega
        go_wp2
        go_ret
        refine ⟨ret_int ?_, quiet_grew HI.out.2.2⟩
        rw [HI.out.1, ← HSL.out.1, earthT_ends _ _ HS.out.zero]
end Go.Proofs.Ytlifjhhjkcmneaa
