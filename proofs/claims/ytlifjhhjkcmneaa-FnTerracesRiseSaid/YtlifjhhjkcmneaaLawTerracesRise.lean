/- The law FnTerracesRise returns true. -/
import Derived.Test.YtlifjhhjkcmneaaLawTerraceCost
import Derived.Test.YtlifjhhjkcmneaaSRise
namespace Go.Proofs.Ytlifjhhjkcmneaa
open Go.RowKit

theorem runsN_two (f : Nat → Int) (i : Nat) (h : 1 ≤ i) : runsN f (i + 1) = runsN f i + (if f i ≠ f (i - 1) then 1 else 0) := by
  rw [runsN]
  by_cases c : f i ≠ f (i - 1)
  · rw [if_pos (.inr c), if_pos c]
  · rw [if_neg c, if_neg (fun h2 => h2.elim (fun h3 => by omega) c)]

set_option maxRecDepth 100000 in
set_option maxHeartbeats 8000000 in
theorem FnTerracesRise_any (v : Value) (bs : List Int) (w : World) (hv : NumsV .u8 w v bs) (hb : ∀ i, i < bs.length → 0 ≤ bs.getD i 0 ∧ bs.getD i 0 ≤ 255) :
    Calls Try.prog 10 #[v] w fun e w' => e = .returned (.bool true) ∧ Grew w w' := by
  have HD := Lib.hid (DrawTerraceCost_any v bs w hv hb)
  obtain ⟨a, b, o, c, rfl, ⟨hlc, hcb⟩, _, _⟩ := hv.shape
  clear hv hb
  by_cases hbig : 1048576 < bs.length
  · go_enter Try.func10, Try.ntmps10
    go_wp2
    go_ret
    exact ⟨rfl, Grew.refl _⟩
  · go_enter Try.func10, Try.ntmps10
    go_wp2_with (fail)
    refine HD.out.mono ?_
    rintro e w1 ⟨v1, p, k, rfl, hO, hd, ⟨hk0, hk10⟩, hg1⟩
    have h9 := hd.1
    have HV := Lib.hid (And.intro hO.toV hg1)
    obtain ⟨a3, c3, rfl⟩ := hO.sh
    obtain ⟨O, eO⟩ : ∃ O, terrX p k = O := ⟨_, rfl⟩
    have HO := Lib.hid eO
    obtain ⟨R, eR⟩ : ∃ R, riseX p = R := ⟨_, rfl⟩
    have HR := Lib.hid eR
    clear hO hd hg1 HD eO eR
    go_wp2_with (fail)
    refine (TerraceCost_any _ p k _ HV.out.1).mono ?_
    rw [HO.out]
    rintro e w2 ⟨rfl, hg2⟩
    have H2 := Lib.hid hg2
    clear hg2
    have enn : (O != O) = false := by simp
    go_wp2_with (fail)
    refine (STerraceCost_any _ p k _ (HV.out.1.grew H2.out)).mono ?_
    rw [HO.out]
    rintro e w3 ⟨rfl, hg3⟩
    have H3 := Lib.hid (H2.out.trans hg3)
    clear hg3
    go_wp2_with (fail)
    refine (RiseCost_any _ p _ (HV.out.1.grew H3.out)).mono ?_
    rw [HR.out]
    rintro e w4 ⟨rfl, hg4⟩
    have H4 := Lib.hid (H3.out.trans hg4)
    clear hg4
    by_cases hR0 : R = 0
    · have eR0 : (R != 0) = false := by simp [hR0]
      by_cases hk1 : k < 1
      · clear hR0
        go_wp2
        go_ret
        exact ⟨rfl, HV.out.2.trans H4.out⟩
      · by_cases hk9 : 9 < k
        · clear hR0
          go_wp2
          go_ret
          exact ⟨rfl, HV.out.2.trans H4.out⟩
        · have hp : vProf p = true := by
            cases h : vProf p with
            | true => rfl
            | false =>
              have := HR.out
              unfold riseX at this
              rw [h, if_neg (by simp)] at this
              omega
          have hl := (vProf_iff p).1 hp
          have hok : terrOk p k = true := terrOk_iff.2 ⟨hp, by omega, by omega⟩
          have hz := terr_zero (fun i => p.getD i 0) p.length (terr_f hp) hl.2.1 k.toNat (by omega)
          rw [← terrX_is hok, HO.out] at hz
          have HZ := Lib.hid hz
          have hl1 := hl.1
          have HL0 : Hid (runsN (fun i => p.getD i 0) 1 = 1) := rfl
          obtain ⟨a', b', o', c'', e', _, ha', HC'⟩ := (HV.out.1.grew H4.out).shape
          simp only [Value.slice.injEq] at e'
          obtain ⟨rfl, _, rfl⟩ := e'
          obtain rfl := ha' hl1
          clear hR0 hz hok hl hp ha'
          go_wp2
          go_loopw [5, 6] (fun t i wr => ∃ (x d : Nat), 1 ≤ x ∧ x ≤ p.length ∧ t = .int .i64 d ∧ i = .int .i64 x ∧ d ≤ x ∧ Hid (d = runsN (fun i => p.getD i 0) x ∧ ∃ q, wr = w4.drewN q)) (fun _ i _ => p.length - (intOf i).toNat)
          case atStart => exact ⟨1, 1, by omega, hl1, rfl, rfl, by omega, rfl, 0, rfl⟩
          case round =>
            obtain ⟨x, d, hx1, hxl, rfl, rfl, hdx, HI⟩ := hrel
            by_cases hlt : x < p.length
            · have hg := quiet_grew HI.out.2
              have hcx := hg.cell (HC'.out x hlt)
              obtain ⟨x1, ex1⟩ : ∃ x1, x - 1 = x1 := ⟨_, rfl⟩
              have hcy := hg.cell (HC'.out x1 (by omega))
              have hrn := runsN_two (fun i => p.getD i 0) x hx1
              simp only [ex1] at hrn
              obtain ⟨y, ey⟩ : ∃ y, p.getD x 0 = y := ⟨_, rfl⟩
              obtain ⟨z, ez⟩ : ∃ z, p.getD x1 0 = z := ⟨_, rfl⟩
              rw [ey] at hcx hrn
              rw [ez] at hcy hrn
              have e1 : (x : Int) - 1 = (x1 : Int) := by omega
              have w1' : IntKind.i64.wrap (x1 : Int) = x1 := wrap_small' _ (by omega) (by omega)
              have r1 : (x : Int) < p.length := by omega
              have r2 : (0 : Int) ≤ x := by omega
              have r3 : (x1 : Int) < p.length := by omega
              have r4 : (0 : Int) ≤ x1 := by omega
              have r5 : x1 < p.length := by omega
              clear hg ey ez ex1
              by_cases hyz : y = z
              · have hne : (y != z) = false := by simp [hyz]
                rw [if_neg (by simpa using hyz)] at hrn
                have HRN := Lib.hid hrn
                clear hyz hrn
                go_wp2
                try go_quiet (fail)
                try go_wp2
                go_roundw
                case rel => exact ⟨x + 1, d, by omega, by omega, rfl, by go_num, by omega, by rw [HRN.out, HI.out.1]; rfl, by first | exact quiet_step HI.out.2 _ | exact HI.out.2⟩
                case measure => simp [intOf]; omega
              · have hne : (y != z) = true := by simp [hyz]
                rw [if_pos hyz] at hrn
                have HRN := Lib.hid hrn
                clear hyz hrn
                go_wp2
                try go_quiet (fail)
                try go_wp2
                go_roundw
                case rel => exact ⟨x + 1, d + 1, by omega, by omega, by go_num, by go_num, by omega, by rw [HRN.out, HI.out.1], by first | exact quiet_step HI.out.2 _ | exact HI.out.2⟩
                case measure => simp [intOf]; omega
            · obtain rfl : x = p.length := by omega
              have HG := Lib.hid (H4.out.trans (quiet_grew HI.out.2))
              have hfin : (O == 0) = decide ((d : Int) ≤ k) := by
                have h1 := HZ.out
                rw [← HI.out.1] at h1
                by_cases h0 : O = 0
                · have := h1.1 h0
                  rw [h0, decide_eq_true (by omega)]; rfl
                · have : ¬ (d : Int) ≤ k := fun h => h0 (h1.2 (by omega))
                  rw [decide_eq_false this]; simp [h0]
              obtain ⟨B1, eB1⟩ : ∃ B1, decide ((d : Int) ≤ k) = B1 := ⟨_, rfl⟩
              rw [eB1] at hfin
              clear HZ
              go_wp2_with (fail)
              refine (TerraceCost_any _ p k _ (HV.out.1.grew HG.out)).mono ?_
              rw [HO.out]
              rintro e w6 ⟨rfl, hg6⟩
              have H6 := Lib.hid (HG.out.trans hg6)
              clear hg6
              go_wp2
              go_ret
              exact ⟨ret_bool (by simp), HV.out.2.trans H6.out⟩
    · have eR0 : (R != 0) = true := by simp [hR0]
      clear hR0
      go_wp2
      go_ret
      exact ⟨rfl, HV.out.2.trans H4.out⟩
end Go.Proofs.Ytlifjhhjkcmneaa
