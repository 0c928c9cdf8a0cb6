/- The law FnLitBy returns true. -/
import Derived.Test.YthljmolkicfdaaaLit
import Derived.Test.YthljmolkicfdaaaDrawLit
import Derived.Test.YthljmolkicfdaaaEqualB
import Derived.Test.YthljmolkicfdaaaLawTiltsHideNothing
namespace Go.Proofs.Ythljmolkicfdaaa
open Go.RowKit

theorem lit_more {p : List Int} {up ac : Int} {i : Nat} (h : litB p up ac i = true) : litB p (up + 1) ac i = true := by
  unfold litB at h ⊢
  rw [litTo_iff] at h ⊢
  intro x h1 h2
  have := h x h1 h2
  rw [Int.add_mul, Int.one_mul]
  omega
/-- Below k none behind i is higher. -/
def noneTo (p : List Int) (i k : Nat) : Bool := (List.range k).all fun x => !decide (i < x) || decide (p.getD x 0 ≤ p.getD i 0)
theorem noneTo_iff (p : List Int) (i k : Nat) : noneTo p i k = true ↔ ∀ x, i < x → x < k → p.getD x 0 ≤ p.getD i 0 := by
  simp only [noneTo, List.all_eq_true, List.mem_range, Bool.or_eq_true, Bool.not_eq_true', decide_eq_false_iff_not, decide_eq_true_eq]
  constructor
  · intro h x h1 h2
    rcases h x h2 with h3 | h3
    · exact absurd h1 h3
    · exact h3
  · intro h x h2
    by_cases h1 : i < x
    · exact .inr (h x h1 h2)
    · exact .inl h1
theorem noneTo_succ (p : List Int) (i k : Nat) (h : i < k) : noneTo p i (k + 1) = (noneTo p i k && decide (p.getD k 0 ≤ p.getD i 0)) := by
  unfold noneTo
  rw [List.range_succ, List.all_append]
  simp [h]
theorem noneTo_start (p : List Int) (i : Nat) : noneTo p i (i + 1) = true := by
  rw [noneTo_iff]; intro x h1 h2; omega
theorem lit_level {p : List Int} {ac : Int} {i : Nat} (ha : 1 ≤ ac) : litB p 0 ac i = noneTo p i p.length := by
  unfold litB
  rw [Bool.eq_iff_iff, litTo_iff, noneTo_iff]
  constructor
  · intro h x h1 h2
    have := h x h1 h2
    rw [Int.zero_mul] at this
    by_cases hc : p.getD x 0 ≤ p.getD i 0
    · exact hc
    · have h3 : 0 < (p.getD x 0 - p.getD i 0) * ac := Int.mul_pos (by omega) (by omega)
      omega
  · intro h x h1 h2
    have := h x h1 h2
    rw [Int.zero_mul]
    exact Int.mul_nonpos_of_nonpos_of_nonneg (by omega) (by omega)
theorem lit_last (p : List Int) (up ac : Int) : litB p up ac (p.length - 1) = true := by
  unfold litB
  rw [litTo_iff]
  intro x h1 h2
  omega
theorem litX_ok {p : List Int} {up ac : Int} (h : (litX p up ac).length ≠ 0) : litOk p up ac = true ∧ litX p up ac = litL p up ac := by
  unfold litX at h ⊢
  cases hok : litOk p up ac with
  | true => rw [if_pos rfl]; exact ⟨rfl, rfl⟩
  | false => rw [hok] at h; exact absurd rfl h
theorem litOk_iff {p : List Int} {up ac : Int} : litOk p up ac = true ↔ vProf p = true ∧ (0 ≤ up ∧ up ≤ 12) ∧ 1 ≤ ac ∧ ac ≤ 9 := by
  simp only [litOk, inR, Bool.and_eq_true, decide_eq_true_eq]
  constructor
  · rintro ⟨⟨a, b⟩, c⟩; exact ⟨a, b, c⟩
  · rintro ⟨a, b, c⟩; exact ⟨⟨a, b⟩, c⟩
theorem BoolsV.at {w : World} {v : Value} {xs : List Bool} (h : BoolsV w v xs) {a : Option Addr} {n c : Nat} (hs : v = .slice a n c) (h1 : 0 < xs.length) : ∃ b o, a = some ⟨b, o, none⟩ ∧ ∀ i, i < xs.length → w.cell? ⟨b, o + i, none⟩ = some (.bool (xs.getD i false)) := by
  obtain ⟨a', b, o, c', e, _, hc⟩ := h
  rw [hs] at e
  simp only [Value.slice.injEq] at e
  obtain ⟨rfl, _, _⟩ := e
  exact ⟨b, o, (hc 0 h1).1, fun i hi => (hc i hi).2⟩

set_option maxRecDepth 100000 in
set_option maxHeartbeats 4000000 in
theorem FnLitBy_any (v : Value) (bs : List Int) (w : World) (hv : NumsV .u8 w v bs) (hb : ∀ i, i < bs.length → 0 ≤ bs.getD i 0 ∧ bs.getD i 0 ≤ 255) :
    Calls Try.prog 5 #[v] w fun e w' => e = .returned (.bool true) ∧ Grew w w' := by
  have HD := Lib.hid (DrawLitBy_any v bs w hv hb)
  obtain ⟨a, b, o, c, rfl, ⟨hlc, hcb⟩, _, _⟩ := hv.shape
  clear hv hb
  by_cases hbig : 1048576 < bs.length
  · go_enter Try.func5, Try.ntmps5
    go_wp2
    go_ret
    exact ⟨rfl, Grew.refl _⟩
  · go_enter Try.func5, Try.ntmps5
    go_wp2_with (fail)
    refine HD.out.mono ?_
    rintro e w1 ⟨v1, p, up, ac, rfl, hO, hd, ⟨⟨hu0, hu1⟩, ha0, ha1⟩, hg1⟩
    have h9 := hd.1
    have HV := Lib.hid (And.intro hO.toV hg1)
    obtain ⟨a3, c3, rfl⟩ := hO.sh
    obtain ⟨S, eS⟩ : ∃ S, litX p up ac = S := ⟨_, rfl⟩
    have HS := Lib.hid eS
    clear hO hd hg1 HD eS
    go_wp2_with (fail)
    refine (LitBy_any _ p up ac _ HV.out.1).mono ?_
    rw [HS.out]
    rintro e w2 ⟨v2, rfl, hO2, hg2⟩
    have H2 := Lib.hid (And.intro hO2.toV hg2)
    obtain ⟨a2, c2, rfl⟩ := hO2.sh
    clear hO2 hg2
    go_wp2_with (fail)
    refine (SLitBy_any _ p up ac _ (HV.out.1.grew H2.out.2)).mono ?_
    rw [HS.out]
    rintro e w3 ⟨v3, rfl, hO3, hg3⟩
    have H3 := Lib.hid (And.intro hO3.toV (H2.out.2.trans hg3))
    have H23 := Lib.hid (H2.out.1.grew hg3)
    obtain ⟨a4, c4, rfl⟩ := hO3.sh
    clear hO3 hg3
    go_wp2_with (fail)
    refine (equalBools_any _ _ S S _ H23.out H3.out.1).mono ?_
    rw [dec_self]
    rintro e w4 ⟨rfl, hq⟩
    have HG4 := Lib.hid (H3.out.2.trans (quiet_grew hq))
    have H24 := Lib.hid (H23.out.grew (quiet_grew hq))
    clear hq
    by_cases hS : S.length = 0
    · have hS' : ((S.length : Int) == 0) = true := by simp [hS]
      clear hS
      go_wp2_with (fail)
      refine (SLitBy_any _ p up ac _ (HV.out.1.grew HG4.out)).mono ?_
      rw [HS.out]
      rintro e w5 ⟨v5, rfl, hO5, hg5⟩
      have H5 := Lib.hid (And.intro hO5.toV (HG4.out.trans hg5))
      have H25 := Lib.hid (H24.out.grew hg5)
      obtain ⟨a5, c5, rfl⟩ := hO5.sh
      clear hO5 hg5
      go_wp2_with (fail)
      refine (equalBools_any _ _ S S _ H25.out H5.out.1).mono ?_
      rw [dec_self]
      rintro e w6 ⟨rfl, hq⟩
      have HG6 := Lib.hid (H5.out.2.trans (quiet_grew hq))
      clear hq
      go_wp2
      go_ret
      exact ⟨rfl, HV.out.2.trans HG6.out⟩
    · have hok := litX_ok (p := p) (up := up) (ac := ac) (by rw [HS.out]; exact hS)
      rw [HS.out] at hok
      obtain ⟨hvp, hup, hac⟩ := litOk_iff.1 hok.1
      obtain ⟨h1, _⟩ := vProf_len hvp
      have hSl : S.length = p.length := by rw [hok.2, litL_len]
      have HK := Lib.hid (And.intro hok.2 (And.intro hvp hSl))
      have hS' : ((p.length : Int) == 0) = false := beq_eq_false_iff_ne.2 (by omega)
      obtain ⟨M, eM⟩ : ∃ M, litX p (up + 1) ac = M := ⟨_, rfl⟩
      have hL0 : litX p 0 ac = litL p 0 ac := by unfold litX; rw [if_pos (litOk_iff.2 ⟨hvp, by omega, hac⟩)]
      have HL0 := Lib.hid hL0
      have HM := Lib.hid eM
      rw [hSl] at H24 H2 H23 ⊢
      obtain ⟨b2, o2, rfl, hc2⟩ := H24.out.at rfl (by omega)
      have HC2 : Hid (∀ i, i < p.length → w4.cell? ⟨b2, o2 + i, none⟩ = some (.bool (litB p up ac i))) := fun i hi => by
        have := hc2 i (by omega)
        rwa [hok.2, litL_at p up ac i hi] at this
      obtain ⟨hac1, hac9⟩ := hac
      clear hok hS hvp hup hSl eM hL0 hc2
      go_wp2_with (fail)
      refine (LitBy_any _ p (up + 1) ac _ (HV.out.1.grew HG4.out)).mono ?_
      rw [HM.out]
      rintro e w5 ⟨v5, rfl, hO5, hg5⟩
      have H5 := Lib.hid (And.intro hO5.toV hg5)
      obtain ⟨a5, c5, rfl⟩ := hO5.sh
      clear hO5 hg5
      go_wp2_with (fail)
      refine (LitBy_any _ p 0 ac _ (HV.out.1.grew (HG4.out.trans H5.out.2))).mono ?_
      rw [HL0.out]
      rintro e w6 ⟨v6, rfl, hO6, hg6⟩
      have H6 := Lib.hid (And.intro hO6.toV (H5.out.2.trans hg6))
      have H56 := Lib.hid (H5.out.1.grew hg6)
      obtain ⟨a6, c6, rfl⟩ := hO6.sh
      clear hO6 hg6
      rw [litL_len] at H6 ⊢
      obtain ⟨b6, o6, rfl, hc6⟩ := H6.out.1.at rfl (by rw [litL_len]; omega)
      have HC6 : Hid (∀ i, i < p.length → w6.cell? ⟨b6, o6 + i, none⟩ = some (.bool (noneTo p i p.length))) := fun i hi => by
        have := hc6 i (by rw [litL_len]; omega)
        rwa [litL_at p 0 ac i hi, lit_level hac1] at this
      have hvp6 := HV.out.1.grew (HG4.out.trans H6.out.2)
      obtain ⟨a', b', o', c'', e', _, ha', HC'⟩ := hvp6.shape
      simp only [Value.slice.injEq] at e'
      obtain ⟨rfl, _, rfl⟩ := e'
      obtain rfl := ha' (by omega)
      clear hc6 ha' hvp6
      go_wp2
      go_loopw [9] (fun i wr => ∃ I : Nat, I ≤ p.length ∧ i = .int .i64 I ∧ Hid (Grew w6 wr)) (fun i _ => p.length - (intOf i).toNat)
      case atStart => exact ⟨0, Nat.zero_le _, rfl, Grew.refl _⟩
      case round =>
        obtain ⟨I, hI, rfl, HI⟩ := hrel
        obtain ⟨wo, rfl⟩ : ∃ wo : World, wo = wr := ⟨_, rfl⟩
        by_cases hlt : I < p.length
        · have hcI := HI.out.cell (HC'.out I hlt)
          obtain ⟨x, ex⟩ : ∃ x, p.getD I 0 = x := ⟨_, rfl⟩
          rw [ex] at hcI
          have HX := Lib.hid (And.intro ex hcI)
          clear ex hcI
          go_wp2
          go_loopw [10, 11] (fun l k wr => ∃ (L : Bool) (K : Nat), I < K ∧ K ≤ p.length ∧ l = .bool L ∧ k = .int .i64 K ∧ Hid (L = noneTo p I K ∧ Grew wo wr)) (fun _ k _ => p.length - (intOf k).toNat)
          case atStart => exact ⟨true, I + 1, by omega, by omega, rfl, by go_num, (noneTo_start p I).symm, Grew.refl _⟩
          case round =>
            obtain ⟨L, K, hIK, hK, rfl, rfl, HJ⟩ := hrel
            by_cases hltK : K < p.length
            · have r1 : (K : Int) < p.length := by omega
              have r2 : (I : Int) < p.length := by omega
              have r3 : (0 : Int) ≤ K := by omega
              have r4 : (0 : Int) ≤ I := by omega
              have hcK := (HI.out.trans HJ.out.2).cell (HC'.out K hltK)
              have hci := HJ.out.2.cell HX.out.2
              obtain ⟨z, ez⟩ : ∃ z, p.getD K 0 = z := ⟨_, rfl⟩
              rw [ez] at hcK
              have HZ := Lib.hid ez
              clear ez
              cases L with
              | false =>
                go_wp2
                go_quiet (fail)
                go_wp2
                go_roundw
                case rel => exact ⟨false, K + 1, by omega, by omega, rfl, by go_num, by rw [noneTo_succ p I K hIK, ← HJ.out.1]; rfl, HJ.out.2.drewN _⟩
                case measure => simp [intOf]; omega
              | true =>
                go_wp2
                go_quiet (fail)
                go_wp2
                go_roundw
                case rel => exact ⟨decide (z ≤ x), K + 1, by omega, by omega, rfl, by go_num, by rw [noneTo_succ p I K hIK, ← HJ.out.1, HZ.out, HX.out.1, Bool.true_and], HJ.out.2.drewN _⟩
                case measure => simp [intOf]; omega
            · have hL : L = noneTo p I p.length := by
                have h := HJ.out.1
                rwa [show K = p.length by omega] at h
              have HG := Lib.hid (HI.out.trans HJ.out.2)
              have hl := HG.out.cell (HC6.out I hlt)
              rw [← hL] at hl
              have ho := (H6.out.2.trans HG.out).cell (HC2.out I hlt)
              clear hL
              by_cases hM : M.length = 0
              · have hM' : ¬ 0 < M.length := by omega
                clear hM
                cases L
                all_goals
                  go_wp2
                  go_roundw
                  case rel => exact ⟨I + 1, by omega, by go_num, HG.out⟩
                  case measure => simp [intOf]; omega
              · have hMk := litX_ok (p := p) (up := up + 1) (ac := ac) (by rw [HM.out]; exact hM)
                rw [HM.out] at hMk
                have hMl : M.length = p.length := by rw [hMk.2, litL_len]
                obtain ⟨b5, o5, e5, hc5⟩ := H56.out.at rfl (by omega)
                have hm := HG.out.cell (hc5 I (by omega))
                rw [hMk.2, litL_at p (up + 1) ac I hlt] at hm
                have HE5 := Lib.hid (And.intro hMl (And.intro e5 hMk.1))
                have hM0 : 0 < M.length := by omega
                have hIM : I < M.length := by omega
                cases hO : litB p up ac I with
                | false =>
                  rw [hO] at ho
                  subst e5
                  clear hM hMk hMl hc5 hO
                  cases hMo : litB p (up + 1) ac I
                  all_goals
                    rw [hMo] at hm
                    clear hMo
                    cases L
                  all_goals
                    go_wp2
                    go_roundw
                    case rel => exact ⟨I + 1, by omega, by go_num, HG.out⟩
                    case measure => simp [intOf]; omega
                | true =>
                  rw [hO] at ho
                  rw [lit_more hO] at hm
                  subst e5
                  clear hM hMk hMl hc5 hO
                  cases L
                  all_goals
                    go_wp2
                    go_roundw
                    case rel => exact ⟨I + 1, by omega, by go_num, HG.out⟩
                    case measure => simp [intOf]; omega
        · obtain ⟨n, hn⟩ : ∃ n, p.length = n + 1 := ⟨p.length - 1, by omega⟩
          have hl := (H6.out.2.trans HI.out).cell (HC2.out n (by omega))
          have hll := lit_last p up ac
          rw [show p.length - 1 = n by omega] at hll
          rw [hll] at hl
          have HN := Lib.hid hn
          have e1 : (p.length : Int) - 1 = (n : Int) := by omega
          have r1 : (n : Int) < p.length := by omega
          have r0 : n < p.length := by omega
          clear hll hn
          go_wp2
          go_ret
          exact ⟨rfl, HV.out.2.trans (HG4.out.trans (H6.out.2.trans HI.out))⟩
end Go.Proofs.Ythljmolkicfdaaa
