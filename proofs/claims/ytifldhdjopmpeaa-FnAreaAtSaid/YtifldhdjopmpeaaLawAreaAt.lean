/- The law FnAreaAt returns true. -/
import Derived.Test.YtifldhdjopmpeaaLevel
import Derived.Test.YtifldhdjopmpeaaDrawsL
import Derived.Test.YtifldhdjopmpeaaTotal
import Derived.Test.YtifldhdjopmpeaaRowOf
namespace Go.Proofs.Ytifldhdjopmpeaa
open Go.RowKit

theorem above_iff (p : List Int) (t : Int) (i : Nat) : above p t i = true ↔ t < p.getD i 0 := by
  unfold above; exact decide_eq_true_iff
theorem area_less {p : List Int} {t : Int} : areaL p (t + 1) ≤ areaL p t := by
  unfold areaL
  refine sumTo_le fun i _ => ?_
  by_cases h : above p (t + 1) i = true
  · have h2 : above p t i = true := (above_iff p t i).2 (by have := (above_iff p (t + 1) i).1 h; omega)
    rw [if_pos h, if_pos h2]; exact Int.le_refl _
  · rw [if_neg h]
    split <;> omega
theorem area_bd (p : List Int) (t : Int) : 0 ≤ areaL p t ∧ areaL p t ≤ p.length := by
  have := sumTo_bd (f := fun i => if above p t i = true then 1 else 0) 0 1 (k := p.length) fun i _ => by
    split <;> omega
  unfold areaL
  omega
theorem area_sum {p : List Int} (h : ∀ i, i < p.length → 0 ≤ p.getD i 0 ∧ p.getD i 0 ≤ 12) : sumTo (fun t => areaL p t) 13 = sumTo (fun i => p.getD i 0) p.length := by
  unfold areaL
  rw [sumTo_swap]
  refine sumTo_congr fun i hi => ?_
  have := h i hi
  have e : sumTo (fun j => if above p (j : Int) i = true then 1 else 0) 13 = sumTo (fun j => if (j : Int) < p.getD i 0 then 1 else 0) 13 := sumTo_congr fun j _ => by
    by_cases h : above p (j : Int) i = true
    · rw [if_pos h, if_pos ((above_iff p j i).1 h)]
    · rw [if_neg h, if_neg fun h2 => h ((above_iff p j i).2 h2)]
  rw [e, sumTo_less _ this.1]
  omega
theorem grid_heights {h : List (List Int)} (hv : vGrid h = true) : ∀ i, i < h.flatten.length → 0 ≤ h.flatten.getD i 0 ∧ h.flatten.getD i 0 ≤ 12 := by
  intro i hi
  have G := Grid.of hv
  have hl := flat_grid_len G
  rw [flat_at G i (by omega)]
  have hm := G.m1
  exact G.num (i / (h.getD 0 []).length) (div_lt_of h.length _ i (by omega)) (i % (h.getD 0 []).length) (Nat.mod_lt _ hm)

set_option maxRecDepth 100000 in
set_option maxHeartbeats 4000000 in
theorem FnAreaAt_any (v : Value) (bs : List Int) (w : World) (hv : NumsV .u8 w v bs) (hb : ∀ i, i < bs.length → 0 ≤ bs.getD i 0 ∧ bs.getD i 0 ≤ 255) :
    Calls Try.prog 5 #[v] w fun e w' => e = .returned (.bool true) ∧ Grew w w' := by
  have HD := Lib.hid (DrawAreaAt_any v bs w hv hb)
  obtain ⟨a, b, o, c, rfl, ⟨hlc, hcb⟩, _, _⟩ := hv.shape
  clear hv hb
  by_cases hbig : 1048576 < bs.length
  · go_enter Try.func5, Try.ntmps5
    go_wp2
    go_ret
    exact ⟨rfl, Grew.refl _⟩
  · go_enter Try.func5, Try.ntmps5
    go_wp2_with (fail)
    refine HD.out.mono ?_
    rintro e w1 ⟨v1, h, t, rfl, hO, hd, ht, hg1⟩
    have HV := Lib.hid (And.intro hO.toV hg1)
    obtain ⟨a3, c3, rfl⟩ := hO.sh
    obtain ⟨X, eX⟩ : ∃ X, areaX h t = X := ⟨_, rfl⟩
    have HX := Lib.hid eX
    clear hO hd hg1 HD eX
    go_wp2_with (fail)
    (with_reducible refine (AreaAt_any _ h t _ HV.out.1).mono ?_)
    rw [HX.out]
    rintro e w2 ⟨rfl, hg2⟩
    have HG2 := Lib.hid hg2
    clear hg2
    go_wp2_with (fail)
    (with_reducible refine (SAreaAt_any _ h t _ (HV.out.1.grew HG2.out)).mono ?_)
    rw [HX.out]
    rintro e w3 ⟨rfl, hg3⟩
    have HG3 := Lib.hid (HG2.out.trans hg3)
    clear hg3
    have exx : (X != X) = false := by simp
    cases hp : vLevel h t with
    | false =>
      have hX : X = -1 := by rw [← HX.out]; unfold areaX; rw [hp]; rfl
      subst hX
      clear hp
      go_wp2_with (fail)
      (with_reducible refine (SAreaAt_any _ h t _ (HV.out.1.grew HG3.out)).mono ?_)
      rw [HX.out]
      rintro e w4 ⟨rfl, hg4⟩
      have HG4 := Lib.hid (HV.out.2.trans (HG3.out.trans hg4))
      clear hg4
      go_wp2
      go_ret
      exact ⟨rfl, HG4.out⟩
    | true =>
      have hg := vLevel_grid hp
      have hx : X = areaL h.flatten t := by rw [← HX.out]; unfold areaX; rw [if_pos hp]
      have hXb := area_bd h.flatten t
      rw [← hx] at hXb
      have HAX : Hid (∀ s : Int, -1 ≤ s → s ≤ 12 → areaX h s = areaL h.flatten s) := fun s h1 h2 => by
        unfold areaX
        rw [if_pos (by simp only [vLevel, hg, inR, Bool.true_and, Bool.and_eq_true, decide_eq_true_eq]; exact ⟨h1, h2⟩)]
      have htt : -1 ≤ t ∧ t ≤ 12 := by
        simp only [vLevel, inR, Bool.and_eq_true, decide_eq_true_eq] at hp
        exact hp.2
      have HP := Lib.hid (And.intro hp (And.intro hg hx))
      have hX0 : ¬ X < 0 := by omega
      obtain ⟨ht1, ht2⟩ := htt
      clear hp hg hx ht
      go_wp2
      go_loopw [6, 7] (fun s i wr => ∃ (k : Nat) (n : Int), k ≤ 13 ∧ i = .int .i64 k ∧ s = .int .i64 n ∧ Hid (n = sumTo (fun t => areaL h.flatten t) k ∧ Grew w3 wr)) (fun _ i _ => 13 - (intOf i).toNat)
      case atStart => exact ⟨0, 0, Nat.zero_le _, rfl, rfl, rfl, Grew.refl _⟩
      case round =>
        obtain ⟨k, n, hk, rfl, rfl, HI⟩ := hrel
        have hnb : 0 ≤ n ∧ n ≤ 25 * 13 := by
          have hl : h.flatten.length ≤ 25 := by
            rw [flat_grid_len (Grid.of HP.out.2.1)]
            exact Nat.mul_le_mul (Grid.of HP.out.2.1).n5 (Grid.of HP.out.2.1).m5
          have := sumTo_bd (f := fun t => areaL h.flatten (t : Nat)) 0 25 (k := k) fun i _ => by have := area_bd h.flatten (i : Nat); omega
          rw [HI.out.1]
          omega
        by_cases hlt : k < 13
        · have hab := area_bd h.flatten (k : Int)
          have hax := HAX.out (k : Int) (by omega) (by omega)
          have HL := Lib.hid (AreaAt_any _ h (k : Int) wr ((HV.out.1.grew HG3.out).grew HI.out.2))
          rw [hax] at HL
          have hl : h.flatten.length ≤ 25 := by
            rw [flat_grid_len (Grid.of HP.out.2.1)]
            exact Nat.mul_le_mul (Grid.of HP.out.2.1).n5 (Grid.of HP.out.2.1).m5
          obtain ⟨A, eA⟩ : ∃ A, areaL h.flatten (k : Int) = A := ⟨_, rfl⟩
          rw [eA] at HL hab
          have HA := Lib.hid eA
          have hab2 : A ≤ 25 := by omega
          obtain ⟨hab0, _⟩ := hab
          clear hax eA hl
          go_wp2_with (fail)
          refine HL.out.mono ?_
          rintro e w4 ⟨rfl, hg4⟩
          have HG4 := Lib.hid (HI.out.2.trans hg4)
          clear hg4
          go_wp2
          go_roundw
          case rel => exact ⟨k + 1, n + A, by omega, by go_num, rfl, by rw [sumTo, ← HI.out.1, HA.out], HG4.out⟩
          case measure => simp [intOf]; omega
        · obtain rfl : k = 13 := by omega
          have hgr := HP.out.2.1
          have hhe := grid_heights hgr
          have hsum := (area_sum hhe).symm
          rw [← HI.out.1] at hsum
          have G := Grid.of hgr
          have hfl : h.flatten.length ≤ 1000 := by
            rw [flat_grid_len G]
            exact Nat.le_trans (Nat.mul_le_mul G.n5 G.m5) (by decide)
          have HRO := Lib.hid (rowOf_any _ h wr ((HV.out.1.grew HG3.out).grew HI.out.2) (Nat.le_trans G.n5 (by decide)) (fun r hr => by have := G.len r hr; have := G.m1; have := G.m5; omega))
          have HTO : Hid (∀ (v : Value) (W : World), IntsV W v h.flatten → Calls Try.prog 24 #[v] W fun e w' => e = .returned (.int .i64 n) ∧ W = w') := fun v W hW => by
            have := totalOf_any v h.flatten W hW hfl (fun i hi => by have := hhe i hi; omega)
            rwa [hsum] at this
          have enn : (n == n) = true := by simp
          obtain ⟨qf, eqf⟩ : ∃ qf, h.flatten = qf := ⟨_, rfl⟩
          rw [eqf] at HRO HTO
          clear hhe hsum G hfl hgr eqf
          go_wp2_with (fail)
          refine HRO.out.mono ?_
          rintro e w4 ⟨g4, c4, rfl, hO4, hg4⟩
          have H4 := Lib.hid (And.intro hO4.toV (HI.out.2.trans hg4))
          clear hO4 hg4
          go_wp2_with (fail)
          (with_reducible refine (HTO.out _ _ H4.out.1).mono ?_)
          rintro e w5 ⟨rfl, rfl⟩
          by_cases h12 : t = 12
          · have ht12 : (t == 12) = true := by simp [h12]
            clear h12
            go_wp2
            go_ret
            exact ⟨ret_bool (by simp), HV.out.2.trans (HG3.out.trans H4.out.2)⟩
          · have ht12 : (t == 12) = false := beq_eq_false_iff_ne.2 h12
            have hax := HAX.out (t + 1) (by omega) (by omega)
            have HL := Lib.hid (AreaAt_any _ h (t + 1) w4 ((HV.out.1.grew HG3.out).grew H4.out.2))
            rw [hax] at HL
            have hle := area_less (p := h.flatten) (t := t)
            rw [← HP.out.2.2] at hle
            obtain ⟨A, eA⟩ : ∃ A, areaL h.flatten (t + 1) = A := ⟨_, rfl⟩
            rw [eA] at HL hle
            clear hax eA h12
            go_wp2_with (fail)
            refine HL.out.mono ?_
            rintro e w6 ⟨rfl, hg6⟩
            have HG6 := Lib.hid (H4.out.2.trans hg6)
            clear hg6
            go_wp2
            go_ret
            exact ⟨ret_bool (by first | (simp; done) | (simp; omega)), HV.out.2.trans (HG3.out.trans HG6.out)⟩
end Go.Proofs.Ytifldhdjopmpeaa
