/- The law FnAroundOf returns true. -/
import Derived.Test.YtgecghngfonejaaDoorAroundOf
import Derived.Test.YtgecghngfonejaaDoorCells
import Derived.Test.YtgecghngfonejaaDoorDraws2
import Derived.Test.YtgecghngfonejaaDoorEqualInts
import Derived.Test.YtgecghngfonejaaDoorIsIn
namespace Go.Proofs.YtgecghngfonejaaDoor
open Go.RowKit

/-- What is known where there is a cell beside. -/
theorem aroundOf_some {h : List (List Int)} {i : Int} (hn : (aroundOfL h i).length ≠ 0) :
    (∀ j, j ∈ aroundOfL h i → i ∈ aroundOfL h j) ∧ ascB (aroundOfL h i) = true ∧ (aroundOfL h i).length ≤ 4 := by
  cases hc : vCell h i with
  | false => rw [aroundOfL, hc] at hn; simp at hn
  | true =>
    obtain ⟨hg, h0, hI, _⟩ := vCell_yes hc
    obtain ⟨I, rfl⟩ := Int.eq_ofNat_of_zero_le h0
    have G := Grid.of hg
    rw [Int.toNat_natCast] at hI
    obtain ⟨f1, f2, f3⟩ := around_facts G.n5 G.m5 hI
    have e : aroundOfL h (I : Int) = aroundL h.length (h.getD 0 []).length I := by rw [aroundOfL, hc, if_pos rfl, Int.toNat_natCast]
    rw [e]
    refine ⟨fun j hj => ?_, f2, f3⟩
    obtain ⟨j0, j1, j2⟩ := f1 j hj
    have hcj : vCell h j = true := by
      have e2 : ((h.length * (h.getD 0 []).length : Nat) : Int) = (h.length : Int) * (h.getD 0 []).length := by simp
      rw [vCell, hg]
      simp only [Bool.true_and, Bool.and_eq_true, decide_eq_true_eq]
      exact ⟨j0, by rw [← e2]; exact j1⟩
    rw [aroundOfL, hcj, if_pos rfl]
    exact j2

set_option maxRecDepth 100000 in
set_option maxHeartbeats 2000000 in
theorem FnAroundOf_any (v : Value) (bs : List Int) (w : World) (hv : NumsV .u8 w v bs) (hb : ∀ i, i < bs.length → 0 ≤ bs.getD i 0 ∧ bs.getD i 0 ≤ 255) (hS : Steps w) :
    Calls Tryd.prog 10 #[v] w fun e w' => e = .returned (.bool true) ∧ Grew w w' := by
  have HD := Lib.hid (DrawAroundOf_any v bs w hv hb)
  have HS := Lib.hid hS
  obtain ⟨a, b, o, c, rfl, ⟨hlc, hcb⟩, _, _⟩ := hv.shape
  clear hv hb hS
  by_cases hbig : 1048576 < bs.length
  · go_enter Tryd.func10, Tryd.ntmps10
    go_wp2
    go_ret
    exact ⟨rfl, Grew.refl _⟩
  · go_enter Tryd.func10, Tryd.ntmps10
    go_wp2_with (fail)
    refine HD.out.mono ?_
    rintro e w1 ⟨v1, H, i, rfl, hO, hd, hg1⟩
    have HV := Lib.hid (And.intro hO.toV hg1)
    obtain ⟨a3, n3, c3, rfl⟩ : ∃ a n c, v1 = .slice a n c := by
      rcases hO.shape with ⟨rfl, _⟩ | ⟨g, c, rfl, _⟩ <;> exact ⟨_, _, _, rfl⟩
    obtain ⟨xs, exs⟩ : ∃ xs, aroundOfL H i = xs := ⟨_, rfl⟩
    have HXS := Lib.hid exs
    clear hO hd hg1 HD
    go_wp2_with (fail)
    refine (AroundOf_any _ H i _ HV.out.1 (HS.out.grew HV.out.2)).mono ?_
    rw [exs]
    rintro e w2 ⟨a2, c2, rfl, hO2, hg2⟩
    have H2 := Lib.hid (And.intro hO2.toV hg2)
    have hlen := hO2.len
    clear hO2 hg2
    go_wp2_with (fail)
    refine (SAroundOf_any _ H i _ (HV.out.1.grew H2.out.2)).mono ?_
    rw [exs]
    rintro e w3 ⟨a4, c4, rfl, hO3, hg3⟩
    have H3 := Lib.hid (And.intro hO3.toV (H2.out.2.trans hg3))
    have H23 := Lib.hid (H2.out.1.grew hg3)
    clear hO3 hg3
    go_wp2_with (fail)
    refine (equalInts_any _ _ xs xs _ H23.out H3.out.1).mono ?_
    rw [decide_eq_true (rfl : xs = xs)]
    rintro e w4 ⟨rfl, hq4⟩
    have H4 := Lib.hid (And.intro (quiet_grew hq4) (H3.out.2.trans (quiet_grew hq4)))
    clear hq4
    by_cases h0 : xs.length = 0
    · have ht : ((xs.length : Int) == 0) = true := by simp [h0]
      have HX0 := Lib.hid h0
      clear h0
      go_wp2_with (fail)
      refine (SAroundOf_any _ H i _ (HV.out.1.grew H4.out.2)).mono ?_
      rw [exs]
      rintro e w5 ⟨a5, c5, rfl, hO5, hg5⟩
      have H5 := Lib.hid (And.intro hO5.toV hg5)
      clear hO5 hg5
      go_wp2_with (fail)
      refine (equalInts_any _ _ xs xs _ (H23.out.grew (H4.out.1.trans H5.out.2)) H5.out.1).mono ?_
      rw [decide_eq_true (rfl : xs = xs)]
      rintro e w6 ⟨rfl, hq6⟩
      have H6 := Lib.hid (quiet_grew hq6)
      clear hq6
      go_wp2
      go_ret
      exact ⟨rfl, HV.out.2.trans (H4.out.2.trans (H5.out.2.trans H6.out))⟩
    · have ht : ((xs.length : Int) == 0) = false := beq_eq_false_iff_ne.2 (by omega)
      have hf := aroundOf_some (h := H) (i := i) (by rw [exs]; exact h0)
      rw [exs] at hf
      have HF := Lib.hid hf
      have hx4 := hf.2.2
      have hx1 : 0 < xs.length := by omega
      obtain ⟨a6, b6, o6, c6, e6, _, ha6, HC6⟩ := (H23.out.grew H4.out.1).shape
      obtain ⟨rfl, rfl⟩ : a2 = a6 ∧ c2 = c6 := by simp at e6; exact e6
      obtain rfl := ha6 hx1
      have HW4 := Lib.hid (HV.out.1.grew H4.out.2)
      clear h0 exs hf e6 ha6
      go_wp2
      clear ht
      go_loopw [6] (fun k wr => ∃ j : Nat, j ≤ xs.length ∧ k = .int .i64 j ∧ Hid (Grew w4 wr)) (fun k _ => xs.length - (intOf k).toNat)
      case atStart => exact ⟨0, Nat.zero_le _, rfl, Grew.refl _⟩
      case round =>
        obtain ⟨j, hj, rfl, HG⟩ := hrel
        by_cases hlt : j < xs.length
        · have hcell := HG.out.cell (HC6.out j hlt)
          obtain ⟨y, ey⟩ : ∃ y, xs.getD j 0 = y := ⟨_, rfl⟩
          rw [ey] at hcell
          have hin : i ∈ aroundOfL H y := by
            refine HF.out.1 y ?_
            have : xs.getD j 0 = xs[j] := by simp [hlt]
            rw [← ey, this]; exact List.getElem_mem hlt
          have HIN := Lib.hid hin
          obtain ⟨ys, eys⟩ : ∃ ys, aroundOfL H y = ys := ⟨_, rfl⟩
          rw [eys] at hin
          have hdy : decide (i ∈ ys) = true := by simp [hin]
          clear ey hin
          have HA := Lib.hid (AroundOf_any _ H y wr (HW4.out.grew HG.out) (HS.out.grew ((HV.out.2.trans H4.out.2).trans HG.out)))
          have HDY := Lib.hid hdy
          have HYS := Lib.hid eys
          clear hdy eys
          go_wp2_with (fail)
          refine HA.out.mono ?_
          rw [HYS.out]
          rintro e w7 ⟨a7, c7, rfl, hO7, hg7⟩
          have H7 := Lib.hid (And.intro hO7.toV hg7)
          clear hO7 hg7
          go_wp2_with (fail)
          refine (isIn_any _ ys i _ H7.out.1).mono ?_
          rw [HDY.out]
          rintro e w8 ⟨rfl, rfl⟩
          clear hcell
          go_wp2
          go_roundw
          case rel => exact ⟨j + 1, by omega, by go_num, HG.out.trans H7.out.2⟩
          case measure => simp [intOf]; omega
        · go_wp2_with (fail)
          refine (ascends_any _ xs _ ((H23.out.grew H4.out.1).grew HG.out)).mono ?_
          rw [HF.out.2.1]
          rintro e w9 ⟨rfl, hq9⟩
          have H9 := Lib.hid (quiet_grew hq9)
          clear hq9
          go_wp2
          go_ret
          exact ⟨ret_bool (by simp; omega), HV.out.2.trans (H4.out.2.trans (HG.out.trans H9.out))⟩
end Go.Proofs.YtgecghngfonejaaDoor
