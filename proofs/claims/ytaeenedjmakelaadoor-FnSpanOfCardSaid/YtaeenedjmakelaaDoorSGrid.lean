/- The contracts of spec.inRange, spec.validGrid and spec.ValidGrid. -/
import Derived.Test.YtaeenedjmakelaaDoorGrid
namespace Go.Proofs.YtaeenedjmakelaaDoor
open Go.RowKit

theorem vGrid_ends (h : List (List Int)) : vGrid h = (h.all (fun row => decide (row.length = (h.getD 0 []).length) && row.all okH) && inR h.length 1 5 && inR (h.getD 0 []).length 1 5) := by
  unfold vGrid
  by_cases h0 : 1 ≤ h.length ∧ h.length ≤ 5
  · obtain ⟨a, b⟩ := h0
    have e1 : inR h.length 1 5 = true := by simp [inR]; omega
    rw [e1]
    simp only [a, b, decide_true, Bool.true_and, Bool.and_true]
    cases hr : inR (h.getD 0 []).length 1 5 with
    | true =>
      rw [Bool.and_true]
      have hr' : 1 ≤ (h.getD 0 []).length ∧ (h.getD 0 []).length ≤ 5 := by
        simp only [inR, Bool.and_eq_true, decide_eq_true_eq] at hr; omega
      congr 1
      funext row
      by_cases hl : row.length = (h.getD 0 []).length
      · simp only [hl, decide_true, Bool.true_and, vRow, hr'.1, hr'.2]
      · have : decide (row.length = (h.getD 0 []).length) = false := by simp only [hl, decide_false]
        rw [this, Bool.false_and, Bool.false_and]
    | false =>
      rw [Bool.and_false]
      refine all_false _ h [] 0 (by omega) ?_
      have : vRow (h.getD 0 []) = false := by
        have : ¬ (1 ≤ (h.getD 0 []).length ∧ (h.getD 0 []).length ≤ 5) := by
          intro hh
          simp only [inR, Bool.and_eq_false_iff, decide_eq_false_iff_not] at hr
          omega
        unfold vRow
        by_cases h1 : 1 ≤ (h.getD 0 []).length
        · have h2 : ¬ (h.getD 0 []).length ≤ 5 := fun x => this ⟨h1, x⟩
          simp only [h2, decide_false, Bool.and_false, Bool.false_and]
        · simp only [h1, decide_false, Bool.false_and]
      rw [this, Bool.and_false]
  · have e1 : inR h.length 1 5 = false := by
      cases hq : inR h.length 1 5 with
      | false => rfl
      | true => simp only [inR, Bool.and_eq_true, decide_eq_true_eq] at hq; omega
    rw [e1]
    by_cases h1 : 1 ≤ h.length
    · have h2 : ¬ h.length ≤ 5 := fun x => h0 ⟨h1, x⟩
      simp [h2]
    · simp [h1]

set_option maxRecDepth 100000 in
set_option maxHeartbeats 1000000 in
theorem sValidGrid_any (v : Value) (h : List (List Int)) (w : World) (hv : RowsV w v h) :
    Calls Tryd.prog 58 #[v] w fun e w' => e = .returned (.bool (vGrid h)) ∧ Grew w w' := by
  obtain ⟨a, b, o, c, rfl, ⟨hlc, hcb⟩, ha, HC⟩ := hv.shape
  have HV := Lib.hid (vGrid_ends h)
  obtain ⟨row0, e0⟩ : ∃ row0, h.getD 0 [] = row0 := ⟨_, rfl⟩
  rw [e0] at HV
  have H0 := Lib.hid e0
  clear e0 hv
  by_cases h1 : 1 ≤ h.length
  · obtain rfl := ha h1
    clear ha
    go_enter Tryd.func58, Tryd.ntmps58
    go_wp2
    go_loopw [3] (fun i wr => ∃ k : Nat, k ≤ h.length ∧ i = .int .i64 k ∧ Hid ((h.take k).all (fun row => decide (row.length = row0.length) && row.all okH) = true) ∧ Grew w wr) (fun i _ => h.length - (intOf i).toNat)
    case atStart => exact ⟨0, Nat.zero_le _, rfl, Lib.hid rfl, Grew.refl _⟩
    case round =>
      obtain ⟨k, hk, rfl, HA, hg⟩ := hrel
      obtain ⟨u0, hc0, hu0⟩ := HC.out 0 h1
      rw [Nat.add_zero] at hc0
      rw [H0.out] at hu0
      obtain ⟨a0, b0, o0, c0, rfl, ⟨hlc0, hcb0⟩, _, _⟩ := hu0.shape
      clear hu0
      by_cases hlt : k < h.length
      · obtain ⟨u, hck, hu⟩ := HC.out k hlt
        obtain ⟨row, er⟩ : ∃ row, h.getD k [] = row := ⟨_, rfl⟩
        rw [er] at hu
        have HR := Lib.hid er
        clear er
        obtain ⟨a1, b1, o1, c1, rfl, ⟨hlc1, hcb1⟩, ha1, HC1⟩ := hu.shape
        clear hu
        have hk' := hg.cell hck
        have h0' := hg.cell hc0
        have HCK := Lib.hid hck
        clear hck hc0
        have hi1 : (k : Int) < h.length := by omega
        have hi0 : (0 : Int) < h.length := by omega
        have hik : (0 : Int) ≤ k := by omega
        by_cases hlen : row.length = row0.length
        · have hn : ((row.length : Int) != (row0.length : Int)) = false := by simp [hlen]
          have HL := Lib.hid hlen
          clear hlen
          go_wp2
          go_quiet (fail)
          go_wp2
          clear hn
          have hg' := hg.drewN nq
          clear hg
          go_loopw [4] (fun i wr => ∃ j : Nat, j ≤ row.length ∧ i = .int .i64 j ∧ Hid ((row.take j).all okH = true) ∧ Grew w wr) (fun i _ => row.length - (intOf i).toNat)
          case atStart => exact ⟨0, Nat.zero_le _, rfl, Lib.hid rfl, hg'⟩
          case round =>
            obtain ⟨j, hj, rfl, HJ, hgj⟩ := hrel
            have hk'' : wr.cell? ⟨b, o + k, none⟩ = some (.slice a1 row.length c1) := hgj.cell HCK.out
            clear hk' h0'
            by_cases hjl : j < row.length
            · obtain rfl := ha1 (by omega)
              have hcj := hgj.cell (HC1.out j hjl)
              obtain ⟨x, ex⟩ : ∃ x, row.getD j 0 = x := ⟨_, rfl⟩
              rw [ex] at hcj
              have HX := Lib.hid ex
              clear ex ha1
              have hcon := fun W => inRange_any x 0 12 W
              cases hok : inR x 0 12 with
              | true =>
                rw [hok] at hcon
                have HK := Lib.hid hcon
                have HO := Lib.hid hok
                clear hcon hok
                go_wp2_with (go_at_call 79; refine (HK.out _).mono ?_; rintro e w' ⟨rfl, rfl⟩)
                go_roundw
                case rel => exact ⟨j + 1, by omega, by go_num, Lib.hid (by rw [all_snoc _ _ 0 _ hjl, HJ.out, HX.out, ← inR_okH, HO.out]; rfl), hgj⟩
                case measure => simp [intOf]; omega
              | false =>
                rw [hok] at hcon
                have HK := Lib.hid hcon
                have HO := Lib.hid hok
                clear hcon hok
                go_wp2_with (go_at_call 79; refine (HK.out _).mono ?_; rintro e w' ⟨rfl, rfl⟩)
                go_ret
                have h2 := all_false okH row 0 j hjl (by rw [HX.out, ← inR_okH, HO.out])
                have := all_false (fun row => decide (row.length = row0.length) && row.all okH) h [] k hlt (by rw [HR.out]; simp [h2])
                exact ⟨ret_bool (by rw [HV.out, this]; rfl), hgj⟩
            · clear ha1
              go_wp2
              go_roundw
              case rel => exact ⟨k + 1, by omega, by go_num, Lib.hid (by rw [all_snoc _ _ [] _ hlt, HA.out, HR.out, HL.out, all_take _ _ _ (by omega) HJ.out]; simp), hgj⟩
              case measure => simp [intOf]; omega
        · have hn : ((row.length : Int) != (row0.length : Int)) = true := by simp; omega
          have HL := Lib.hid hlen
          clear hlen
          go_wp2
          go_quiet (fail)
          go_wp2
          go_ret
          have := all_false (fun row => decide (row.length = row0.length) && row.all okH) h [] k hlt (by rw [HR.out]; simp [HL.out])
          exact ⟨ret_bool (by rw [HV.out, this]; rfl), hg.drewN _⟩
      · have hall := all_take _ _ _ (by omega) HA.out
        have h0' := hg.cell hc0
        clear hc0
        rw [hall] at HV
        have hi0 : (0 : Int) < h.length := by omega
        have hcon := fun W => inRange_any h.length 1 5 W
        have hcon2 := fun W => inRange_any row0.length 1 5 W
        cases hq : inR h.length 1 5 with
        | true =>
          rw [hq] at hcon HV
          have HK := Lib.hid hcon
          have HK2 := Lib.hid hcon2
          clear hcon hcon2 hq hall
          go_wp2_with (fail)
          refine (HK.out _).mono ?_
          rintro e w' ⟨rfl, rfl⟩
          go_wp2_with (fail)
          refine (HK2.out _).mono ?_
          rintro e w' ⟨rfl, rfl⟩
          go_wp2
          go_ret
          exact ⟨ret_bool (by rw [HV.out]; rfl), hg⟩
        | false =>
          rw [hq] at hcon HV
          have HK := Lib.hid hcon
          clear hcon hcon2 hq hall
          go_wp2_with (fail)
          refine (HK.out _).mono ?_
          rintro e w' ⟨rfl, rfl⟩
          go_wp2
          go_ret
          exact ⟨ret_bool (by rw [HV.out]; rfl), hg⟩
  · clear ha
    have e1 : inR h.length 1 5 = false := by
      cases hq : inR h.length 1 5 with
      | false => rfl
      | true => simp only [inR, Bool.and_eq_true, decide_eq_true_eq] at hq; omega
    have H1 := Lib.hid e1
    clear e1
    have hcon := fun W => inRange_any h.length 1 5 W
    rw [H1.out] at hcon HV
    have HK := Lib.hid hcon
    clear hcon
    go_enter Tryd.func58, Tryd.ntmps58
    go_wp2
    refine wp_loop_rounds 1 ?_
    rw [rounds_succ]
    go_wp2_with (fail)
    refine (HK.out _).mono ?_
    rintro e w' ⟨rfl, rfl⟩
    go_wp2
    go_ret
    exact ⟨ret_bool (by rw [HV.out, Bool.and_false]; rfl), Grew.refl _⟩

end Go.Proofs.YtaeenedjmakelaaDoor
