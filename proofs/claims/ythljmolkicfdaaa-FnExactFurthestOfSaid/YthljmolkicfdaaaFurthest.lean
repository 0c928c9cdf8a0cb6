/- The contracts of impl.FurthestOf and spec.FurthestOf. -/
import Derived.Test.YthljmolkicfdaaaFurM
import Derived.Test.YthljmolkicfdaaaSeen
import Derived.Test.YthljmolkicfdaaaSteeper
namespace Go.Proofs.Ythljmolkicfdaaa
open Go.RowKit

set_option maxRecDepth 100000 in
set_option maxHeartbeats 1000000 in
theorem Furthest_yes (v : Value) (p : List Int) (i : Nat) (w : World) (hv : IntsV w v p) (hp : vProf p = true) (hi : i < p.length) :
    Calls Try.prog 19 #[v, .int .i64 i] w fun e w' => e = .returned (.int .i64 (furL p i)) ∧ Grew w w' := by
  obtain ⟨h1, h9⟩ := vProf_len hp
  have HV := Lib.hid hv
  have HP := Lib.hid hp
  have hpl : vPlace p i = true := by simp [vPlace, hp, hi]
  have HPL := Lib.hid (validPlace_any v p i w hv)
  rw [hpl] at HPL
  obtain ⟨a, b, o, c, rfl, ⟨hlc, hcb⟩, _, _⟩ := hv.shape
  clear hv hp hpl
  obtain ⟨n0, hn0⟩ : ∃ n0, (if i + 1 < p.length then 1 else 0) = n0 := ⟨_, rfl⟩
  have hn0' : (n0 = 1 ∧ i + 1 < p.length) ∨ (n0 = 0 ∧ i + 1 = p.length) := by
    by_cases h : i + 1 < p.length
    · rw [if_pos h] at hn0; omega
    · rw [if_neg h] at hn0; omega
  have e1 : min ((i : Int) + 1) ((p.length : Int) - 1) = ((i + n0 : Nat) : Int) := by omega
  have HF0 : Hid (i + n0 = furTo p i n0) := by
    rcases hn0' with ⟨rfl, _⟩ | ⟨rfl, _⟩
    · simp [furTo, furStep, Hid]
    · rfl
  have HN := Lib.hid hn0'
  obtain ⟨F0, hF0⟩ : ∃ F0, i + n0 = F0 := ⟨_, rfl⟩
  rw [hF0] at HF0 e1
  have hF1 : F0 ≤ 100 := by omega
  have HG := Lib.hid hF0
  clear hn0 hn0' hF0
  go_enter Try.func19, Try.ntmps19
  go_wp2_with (fail)
  refine HPL.out.mono ?_
  rintro e w1 ⟨rfl, rfl⟩
  go_wp2
  clear e1
  go_loopw [5, 6] (fun f k wr => ∃ (n F K : Nat), i + 1 + n ≤ p.length ∧ k = .int .i64 K ∧ f = .int .i64 F ∧ F < p.length ∧ K ≤ p.length ∧ Hid (K = i + 1 + n ∧ F = furTo p i n ∧ (1 ≤ n ∨ i + 1 = p.length) ∧ Grew w wr)) (fun _ k _ => p.length - (intOf k).toNat)
  case atStart =>
    have h := HN.out
    have h2 := HG.out
    refine ⟨n0, F0, F0 + 1, by omega, by go_num, rfl, by omega, by omega, by omega, HF0.out, by omega, Grew.refl _⟩
  case round =>
    obtain ⟨n, F, K, hn, rfl, rfl, hF, hK, HI⟩ := hrel
    by_cases hlt : K < p.length
    · have hFi : i < F := by
        have h := HI.out
        rcases h.2.2.1 with h3 | h3
        · rw [h.2.1]; exact furTo_pos p i n h3
        · omega
      have bi := vProf_at HP.out i hi
      have bF := vProf_at HP.out F hF
      have bK := vProf_at HP.out K hlt
      have HL1 := Lib.hid (lineBetween_any _ p i F wr (HV.out.grew HI.out.2.2.2) hi hF (by omega) (fun j hj => by have := vProf_at HP.out j hj; omega))
      have HL2 : Hid (∀ w2, Grew wr w2 → Calls Try.prog 43 #[.slice a p.length c, .int .i64 i, .int .i64 K] w2 fun e w' => e = .returned (.agg #[.int .i64 (p.getD K 0 - p.getD i 0), .int .i64 ((K : Int) - i)]) ∧ Grew w2 w') :=
        fun w2 hg => lineBetween_any _ p i K w2 ((HV.out.grew HI.out.2.2.2).grew hg) hi hlt (by omega) (fun j hj => by have := vProf_at HP.out j hj; omega)
      obtain ⟨u1, eu1⟩ : ∃ u1, p.getD F 0 - p.getD i 0 = u1 := ⟨_, rfl⟩
      obtain ⟨u2, eu2⟩ : ∃ u2, p.getD K 0 - p.getD i 0 = u2 := ⟨_, rfl⟩
      rw [eu1] at HL1
      rw [eu2] at HL2
      have bu1 : -10000 ≤ u1 ∧ u1 ≤ 10000 := by omega
      have bu2 : -10000 ≤ u2 ∧ u2 ≤ 10000 := by omega
      have HE := Lib.hid (And.intro eu1 eu2)
      clear eu1 eu2 bi bF bK
      go_wp2_with (fail)
      refine HL1.out.mono ?_
      rintro e w2 ⟨rfl, hg2⟩
      have HG2 := Lib.hid hg2
      clear hg2
      go_wp2_with (fail)
      refine (HL2.out w2 HG2.out).mono ?_
      rintro e w3 ⟨rfl, hg3⟩
      have HG3 := Lib.hid hg3
      clear hg3
      go_wp2_with (fail)
      refine (isSteeperThan_any u1 ((F : Int) - i) u2 ((K : Int) - i) w3 bu1 (by omega) bu2 (by omega)).mono ?_
      by_cases hst : u2 * ((F : Int) - i) < u1 * ((K : Int) - i)
      · have ed : decide (u2 * ((F : Int) - i) < u1 * ((K : Int) - i)) = true := by simpa using hst
        rw [ed]
        have HS := Lib.hid hst
        clear hst ed
        rintro e w4 ⟨rfl, hg4⟩
        have HG4 : Hid (Grew wr w4) := HG2.out.trans (HG3.out.trans hg4)
        clear hg4
        go_wp2
        go_roundw
        case rel => exact ⟨n + 1, F, K + 1, by have := HI.out.1; omega, by go_num, rfl, hF, by omega, by have := HI.out.1; omega, by
          have h := HI.out
          have h3 := HS.out
          rw [furTo, ← h.2.1, ← h.1]
          unfold furStep
          rw [if_neg]
          rw [HE.out.1, HE.out.2]
          omega, .inl (by omega), HI.out.2.2.2.trans HG4.out⟩
        case measure => simp [intOf]; omega
      · have ed : decide (u2 * ((F : Int) - i) < u1 * ((K : Int) - i)) = false := by simpa using hst
        rw [ed]
        have HS := Lib.hid hst
        clear hst ed
        rintro e w4 ⟨rfl, hg4⟩
        have HG4 : Hid (Grew wr w4) := HG2.out.trans (HG3.out.trans hg4)
        clear hg4
        go_wp2
        go_roundw
        case rel => exact ⟨n + 1, K, K + 1, by have := HI.out.1; omega, by go_num, rfl, hlt, by omega, by have := HI.out.1; omega, by
          have h := HI.out
          have h3 := HS.out
          rw [furTo, ← h.2.1, ← h.1]
          unfold furStep
          rw [if_pos]
          rw [HE.out.1, HE.out.2]
          omega, .inl (by omega), HI.out.2.2.2.trans HG4.out⟩
        case measure => simp [intOf]; omega
    · go_wp2
      go_ret
      refine ⟨ret_int ?_, HI.out.2.2.2⟩
      have h := HI.out
      rw [h.2.1]
      unfold furL
      rw [show p.length - 1 - i = n by omega]

set_option maxRecDepth 100000 in
theorem Furthest_no (v : Value) (p : List Int) (i : Int) (w : World) (hv : IntsV w v p) (h : vPlace p i = false) :
    Calls Try.prog 19 #[v, .int .i64 i] w fun e w' => e = .returned (.int .i64 (-1)) ∧ Grew w w' := by
  have HV := Lib.hid (validPlace_any v p i w hv)
  rw [h] at HV
  obtain ⟨a, b, o, c, rfl, ⟨hlc, hcb⟩, _, _⟩ := hv.shape
  clear hv h
  go_enter Try.func19, Try.ntmps19
  go_wp2_with (fail)
  refine HV.out.mono ?_
  rintro e w1 ⟨rfl, rfl⟩
  go_wp2
  go_ret
  exact ⟨rfl, Grew.refl _⟩
theorem FurthestOf_any (v : Value) (p : List Int) (i : Int) (w : World) (hv : IntsV w v p) :
    Calls Try.prog 19 #[v, .int .i64 i] w fun e w' => e = .returned (.int .i64 (furX p i)) ∧ Grew w w' := by
  unfold furX
  by_cases h : vProf p = true ∧ 0 ≤ i ∧ i < p.length
  · rw [if_pos h]
    have := Furthest_yes v p i.toNat w hv h.1 (by omega)
    rwa [Int.toNat_of_nonneg h.2.1] at this
  · rw [if_neg h]
    refine Furthest_no v p i w hv ?_
    cases hq : vPlace p i with
    | false => rfl
    | true =>
      simp only [vPlace, Bool.and_eq_true, decide_eq_true_eq] at hq
      exact absurd ⟨hq.1.1, hq.1.2, hq.2⟩ h

set_option maxRecDepth 100000 in
set_option maxHeartbeats 2000000 in
theorem SFurthest_yes (v : Value) (p : List Int) (i : Nat) (w : World) (hv : IntsV w v p) (hp : vProf p = true) (hi : i < p.length) :
    Calls Try.prog 20 #[v, .int .i64 i] w fun e w' => e = .returned (.int .i64 (furL p i)) ∧ Grew w w' := by
  obtain ⟨h1, h9⟩ := vProf_len hp
  have HV := Lib.hid hv
  have HP := Lib.hid hp
  have HR : Hid (inR i 0 ((p.length : Int) - 1) = true) := by show _ = _; simp [inR]; omega
  obtain ⟨a, b, o, c, rfl, ⟨hlc, hcb⟩, ha, HC⟩ := hv.shape
  obtain rfl := ha h1
  have hci := HC.out i hi
  have bi := vProf_at hp i hi
  obtain ⟨x, ex⟩ : ∃ x, p.getD i 0 = x := ⟨_, rfl⟩
  rw [ex] at hci bi
  have HX := Lib.hid (And.intro ex hci)
  clear hv hp ha hci ex
  go_enter Try.func20, Try.ntmps20
  go_wp2_with (fail)
  refine (sValidProfile0_any _ p _ HV.out).mono ?_
  rw [HP.out]
  rintro e w1 ⟨rfl, rfl⟩
  go_wp2_with (fail)
  refine (inRange_any _ _ _ _).mono ?_
  rw [HR.out]
  rintro e w1 ⟨rfl, rfl⟩
  go_wp2
  go_loopw [5, 6] (fun f k wr => ∃ (n F K : Nat), i + 1 + n ≤ p.length ∧ k = .int .i64 K ∧ f = .int .i64 F ∧ F < p.length ∧ i ≤ F ∧ K ≤ p.length ∧ i < K ∧ Hid (K = i + 1 + n ∧ F = furTo p i n ∧ Grew w wr)) (fun _ k _ => p.length - (intOf k).toNat)
  case atStart => exact ⟨0, i, i + 1, by omega, by go_num, rfl, by omega, by omega, by omega, by omega, rfl, rfl, Grew.refl _⟩
  case round =>
    obtain ⟨n, F, K, hn, rfl, rfl, hF, hiF, hK, hiK, HI⟩ := hrel
    by_cases hlt : K < p.length
    · have r1 : (K : Int) < p.length := by omega
      have r2 : (F : Int) < p.length := by omega
      have r3 : (i : Int) < p.length := by omega
      have r4 : (0 : Int) ≤ K := by omega
      have r5 : (0 : Int) ≤ F := by omega
      have r6 : (0 : Int) ≤ i := by omega
      by_cases hFi : F = i
      · have ht : ((F : Int) == (i : Int)) = true := by simp [hFi]
        have HFI := Lib.hid hFi
        clear hFi
        go_wp2
        go_quiet (fail)
        go_wp2
        go_roundw
        case rel => exact ⟨n + 1, K, K + 1, by have := HI.out.1; omega, by go_num, rfl, hlt, by omega, by omega, by omega, by have := HI.out.1; omega, by
          have h := HI.out
          rw [furTo, ← h.2.1, ← h.1]
          unfold furStep
          rw [if_pos (.inl HFI.out)], HI.out.2.2.drewN _⟩
        case measure => simp [intOf]; omega
      · have ht : ((F : Int) == (i : Int)) = false := by simp; omega
        have hFi' : i < F := by omega
        have hcF := HI.out.2.2.cell (HC.out F hF)
        have hcK := HI.out.2.2.cell (HC.out K hlt)
        have hci := HI.out.2.2.cell HX.out.2
        have bF := vProf_at HP.out F hF
        have bK := vProf_at HP.out K hlt
        obtain ⟨y, ey⟩ : ∃ y, p.getD F 0 = y := ⟨_, rfl⟩
        obtain ⟨z, ez⟩ : ∃ z, p.getD K 0 = z := ⟨_, rfl⟩
        rw [ey] at hcF bF
        rw [ez] at hcK bK
        have HE := Lib.hid (And.intro ey ez)
        have HFI := Lib.hid hFi
        have m1 := mul_bd (z - x) ((F : Int) - i) 100 100 (by omega) (by omega)
        have m2 := mul_bd (y - x) ((K : Int) - i) 100 100 (by omega) (by omega)
        have w1 : IntKind.i64.wrap (z - x) = z - x := wrap_small _ (by omega) (by omega)
        have w2 : IntKind.i64.wrap ((F : Int) - i) = (F : Int) - i := wrap_small _ (by omega) (by omega)
        have w3 : IntKind.i64.wrap ((z - x) * ((F : Int) - i)) = (z - x) * ((F : Int) - i) := wrap_small _ (by omega) (by omega)
        have w4 : IntKind.i64.wrap (y - x) = y - x := wrap_small _ (by omega) (by omega)
        have w5 : IntKind.i64.wrap ((K : Int) - i) = (K : Int) - i := wrap_small _ (by omega) (by omega)
        have w6 : IntKind.i64.wrap ((y - x) * ((K : Int) - i)) = (y - x) * ((K : Int) - i) := wrap_small _ (by omega) (by omega)
        clear ey ez hFi m1 m2
        by_cases hst : (y - x) * ((K : Int) - i) ≤ (z - x) * ((F : Int) - i)
        · have hd : decide ((y - x) * ((K : Int) - i) ≤ (z - x) * ((F : Int) - i)) = true := by simpa using hst
          have HS := Lib.hid hst
          clear hst
          go_wp2
          go_quiet (fail)
          go_wp2
          clear w1 w2 w3 w4 w5 w6 hd
          go_roundw
          case rel => exact ⟨n + 1, K, K + 1, by have := HI.out.1; omega, by go_num, rfl, hlt, by omega, by omega, by omega, by have := HI.out.1; omega, by
            have h := HI.out
            rw [furTo, ← h.2.1, ← h.1]
            unfold furStep
            rw [if_pos]
            rw [HE.out.1, HE.out.2, HX.out.1]
            exact .inr HS.out, HI.out.2.2.drewN _⟩
          case measure => simp [intOf]; omega
        · have hd : decide ((y - x) * ((K : Int) - i) ≤ (z - x) * ((F : Int) - i)) = false := by simpa using hst
          have HS := Lib.hid hst
          clear hst
          go_wp2
          go_quiet (fail)
          go_wp2
          clear w1 w2 w3 w4 w5 w6 hd
          go_roundw
          case rel => exact ⟨n + 1, F, K + 1, by have := HI.out.1; omega, by go_num, rfl, hF, by omega, by omega, by omega, by have := HI.out.1; omega, by
            have h := HI.out
            rw [furTo, ← h.2.1, ← h.1]
            unfold furStep
            rw [if_neg]
            rw [HE.out.1, HE.out.2, HX.out.1]
            intro h
            rcases h with h | h
            · omega
            · have h5 := HS.out; omega, HI.out.2.2.drewN _⟩
          case measure => simp [intOf]; omega
    · go_wp2
      go_ret
      refine ⟨ret_int ?_, HI.out.2.2⟩
      have h := HI.out
      rw [h.2.1]
      unfold furL
      rw [show p.length - 1 - i = n by omega]

set_option maxRecDepth 100000 in
set_option maxHeartbeats 1000000 in
theorem SFurthest_no (v : Value) (p : List Int) (i : Int) (w : World) (hv : IntsV w v p) (h : ¬ (vProf p = true ∧ 0 ≤ i ∧ i < p.length)) :
    Calls Try.prog 20 #[v, .int .i64 i] w fun e w' => e = .returned (.int .i64 (-1)) ∧ Grew w w' := by
  have HV := Lib.hid hv
  have HN := Lib.hid h
  obtain ⟨a, b, o, c, rfl, ⟨hlc, hcb⟩, _, _⟩ := hv.shape
  clear hv h
  cases hp : vProf p with
  | false =>
    have HP := Lib.hid hp
    clear hp
    go_enter Try.func20, Try.ntmps20
    go_wp2_with (fail)
    refine (sValidProfile0_any _ p _ HV.out).mono ?_
    rw [HP.out]
    rintro e w1 ⟨rfl, rfl⟩
    go_wp2
    go_ret
    exact ⟨rfl, Grew.refl _⟩
  | true =>
    have HP := Lib.hid hp
    have h1 := (vProf_len hp).1
    clear hp
    have HR : Hid (inR i 0 ((p.length : Int) - 1) = false) := by
      have hno := HN.out
      have hp1 := HP.out
      have h2 : ¬ (0 ≤ i ∧ i < p.length) := fun h => hno ⟨hp1, h⟩
      show _ = _
      simp only [inR, Bool.and_eq_false_iff, decide_eq_false_iff_not]
      omega
    go_enter Try.func20, Try.ntmps20
    go_wp2_with (fail)
    refine (sValidProfile0_any _ p _ HV.out).mono ?_
    rw [HP.out]
    rintro e w1 ⟨rfl, rfl⟩
    go_wp2_with (fail)
    refine (inRange_any _ _ _ _).mono ?_
    rw [HR.out]
    rintro e w1 ⟨rfl, rfl⟩
    go_wp2
    go_ret
    exact ⟨rfl, Grew.refl _⟩
theorem SFurthestOf_any (v : Value) (p : List Int) (i : Int) (w : World) (hv : IntsV w v p) :
    Calls Try.prog 20 #[v, .int .i64 i] w fun e w' => e = .returned (.int .i64 (furX p i)) ∧ Grew w w' := by
  unfold furX
  by_cases h : vProf p = true ∧ 0 ≤ i ∧ i < p.length
  · rw [if_pos h]
    have := SFurthest_yes v p i.toNat w hv h.1 (by omega)
    rwa [Int.toNat_of_nonneg h.2.1] at this
  · rw [if_neg h]
    exact SFurthest_no v p i w hv h
end Go.Proofs.Ythljmolkicfdaaa
