/- The law FnValidSand returns true. -/
import Derived.Test.YthgafljbbkgldaaSSandV
import Derived.Test.YthgafljbbkgldaaDraws10
import Derived.Test.YthgafljbbkgldaaFlipped
namespace Go.Proofs.Ythgafljbbkgldaa
open Go.RowKit

/-- Sand is a grid, and turned it is sand. -/
theorem sand_flip {h : List (List Int)} (hs : vSand h = true) : vGrid h = true ∧ vSand (flipL h) = true := by
  unfold vSand vRows at hs
  simp only [Bool.and_eq_true, decide_eq_true_eq] at hs
  obtain ⟨⟨h1, h4⟩, ha⟩ := hs
  have hr := fun r hr => all_get [] ha r hr
  simp only [Bool.and_eq_true, decide_eq_true_eq, vNums] at hr
  have h0 := hr 0 (by omega)
  obtain ⟨m, em⟩ : ∃ m, (h.getD 0 []).length = m := ⟨_, rfl⟩
  rw [em] at hr h0
  have hnum : ∀ r, r < h.length → ∀ c, c < m → 0 ≤ (h.getD r []).getD c 0 ∧ (h.getD r []).getD c 0 ≤ 9 := fun r hl c hc => by
    have := all_get 0 (hr r hl).2.2 c (by rw [(hr r hl).1]; exact hc)
    simp only [okN, Bool.and_eq_true, decide_eq_true_eq] at this
    exact this
  have m1 : 1 ≤ m := by omega
  have m4 : m ≤ 4 := by omega
  refine ⟨(⟨h1, by omega, m1, by omega, fun r hl => (hr r hl).1, fun r hl c hc => ⟨(hnum r hl c hc).1, by have := (hnum r hl c hc).2; omega⟩⟩ : Grid h m).to, ?_⟩
  have hl : (flipL h).length = m := by simp [flipL]; simpa using em
  have hrow : ∀ r, r < m → (flipL h).getD r [] = h.map fun row => row.getD r 0 := fun r hr => by
    unfold flipL
    rw [getD_map' _ _ r 0 [] (by rw [List.length_range, em]; exact hr), getD_range' _ _ _ (by rw [em]; exact hr)]
  unfold vSand vRows
  rw [Bool.and_eq_true, Bool.and_eq_true, decide_eq_true_eq, decide_eq_true_eq, hl, hrow 0 m1]
  refine ⟨⟨m1, m4⟩, all_of_get [] fun r hlt => ?_⟩
  rw [hl] at hlt
  rw [hrow r hlt, Bool.and_eq_true, decide_eq_true_eq, List.length_map, List.length_map]
  refine ⟨rfl, ?_⟩
  unfold vNums
  rw [Bool.and_eq_true, Bool.and_eq_true, decide_eq_true_eq, decide_eq_true_eq, List.length_map]
  refine ⟨⟨h1, by omega⟩, all_of_get 0 fun c hc => ?_⟩
  rw [List.length_map] at hc
  rw [getD_map' _ _ c [] 0 hc]
  have := hnum c hc r hlt
  simp only [okN, Bool.and_eq_true, decide_eq_true_eq]
  exact this

set_option maxRecDepth 100000 in
set_option maxHeartbeats 1000000 in
theorem FnValidSand_any (v : Value) (bs : List Int) (w : World) (hv : NumsV .u8 w v bs) (hb : ∀ i, i < bs.length → 0 ≤ bs.getD i 0 ∧ bs.getD i 0 ≤ 255) :
    Calls Try.prog 3 #[v] w fun e w' => e = .returned (.bool true) ∧ Grew w w' := by
  have HD := Lib.hid (DrawValidSand_any v bs w hv hb)
  obtain ⟨a, b, o, c, rfl, ⟨hlc, hcb⟩, _, _⟩ := hv.shape
  clear hv hb
  by_cases hbig : 1048576 < bs.length
  · go_enter Try.func3, Try.ntmps3
    go_wp2
    go_ret
    exact ⟨rfl, Grew.refl _⟩
  · go_enter Try.func3, Try.ntmps3
    go_wp2_with (fail)
    refine HD.out.mono ?_
    rintro e w1 ⟨v1, H, rfl, hO, hg1⟩
    have HV := Lib.hid (And.intro hO.toV hg1)
    obtain ⟨a3, c3, rfl⟩ := hO.sh
    clear hO hg1 HD
    go_wp2_with (fail)
    refine (ValidSand_any _ H _ HV.out.1).mono ?_
    rintro e w2 ⟨rfl, rfl⟩
    cases hvg : vSand H with
    | false =>
      have HVG := Lib.hid hvg
      clear hvg
      go_wp2_with (fail)
      refine (SValidSand_any _ H _ HV.out.1).mono ?_
      rw [HVG.out]
      rintro e w3 ⟨rfl, hq3⟩
      have HG3 := Lib.hid (quiet_grew hq3)
      clear hq3
      go_wp2_with (fail)
      refine (SValidSand_any _ H _ (HV.out.1.grew HG3.out)).mono ?_
      rw [HVG.out]
      rintro e w4 ⟨rfl, hq4⟩
      have HG4 := Lib.hid (quiet_grew hq4)
      clear hq4
      go_wp2
      go_ret
      exact ⟨rfl, HV.out.2.trans (HG3.out.trans HG4.out)⟩
    | true =>
      have HVG := Lib.hid hvg
      have HFL := Lib.hid (sand_flip hvg)
      clear hvg
      go_wp2_with (fail)
      refine (SValidSand_any _ H _ HV.out.1).mono ?_
      rw [HVG.out]
      rintro e w3 ⟨rfl, hq3⟩
      have HG3 := Lib.hid (quiet_grew hq3)
      clear hq3
      go_wp2_with (fail)
      refine (flipped_any _ H _ (HV.out.1.grew HG3.out) HFL.out.1).mono ?_
      rintro e w4 ⟨v4, rfl, hO4, hg4⟩
      have HF4 := Lib.hid (And.intro hO4 hg4)
      clear hO4 hg4
      go_wp2_with (fail)
      refine (ValidSand_any _ (flipL H) _ HF4.out.1.toV).mono ?_
      rw [HFL.out.2]
      rintro e w5 ⟨rfl, rfl⟩
      go_wp2
      go_ret
      exact ⟨rfl, HV.out.2.trans (HG3.out.trans HF4.out.2)⟩
end Go.Proofs.Ythgafljbbkgldaa
