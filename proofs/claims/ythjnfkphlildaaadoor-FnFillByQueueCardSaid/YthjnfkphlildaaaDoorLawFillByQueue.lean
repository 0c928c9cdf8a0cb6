/- The law FnFillByQueue returns true. -/
import Derived.Test.YthjnfkphlildaaaDoorAtMost
import Derived.Test.YthjnfkphlildaaaDoorFillBySinking
import Derived.Test.YthjnfkphlildaaaDoorFillByQueue
import Derived.Test.YthjnfkphlildaaaDoorSByQueue
import Derived.Test.YthjnfkphlildaaaDoorDraws
import Derived.Test.YthjnfkphlildaaaDoorEqualRows
import Derived.Test.YthjnfkphlildaaaDoorRowOf
namespace Go.Proofs.YthjnfkphlildaaaDoor
open Go.RowKit

theorem rows_small {h : List (List Int)} {m : Nat} (G : Grid h m) : h.length ≤ 1000 ∧ ∀ r, r < h.length → 1 ≤ (h.getD r []).length ∧ (h.getD r []).length ≤ 1000 :=
  ⟨by have := G.n5; omega, fun r hr => by have := G.len r hr; have := G.m1; have := G.m5; omega⟩

set_option maxRecDepth 100000 in
set_option maxHeartbeats 4000000 in
theorem FnFillByQueue_any (v : Value) (bs : List Int) (w : World) (hv : NumsV .u8 w v bs) (hb : ∀ i, i < bs.length → 0 ≤ bs.getD i 0 ∧ bs.getD i 0 ≤ 255) (hS : Steps w) :
    Calls Tryd.prog 4 #[v] w fun e w' => e = .returned (.bool true) ∧ Grew w w' := by
  have HD := Lib.hid (DrawFillByQueue_any v bs w hv hb)
  have HS := Lib.hid hS
  obtain ⟨a, b, o, c, rfl, ⟨hlc, hcb⟩, _, _⟩ := hv.shape
  clear hv hb hS
  by_cases hbig : 1048576 < bs.length
  · go_enter Tryd.func4, Tryd.ntmps4
    go_wp2
    go_ret
    exact ⟨rfl, Grew.refl _⟩
  · go_enter Tryd.func4, Tryd.ntmps4
    go_wp2_with (fail)
    refine HD.out.mono ?_
    rintro e w1 ⟨v1, H, rfl, hO, hd, hg1⟩
    have HV := Lib.hid (And.intro hO.toV hg1)
    obtain ⟨a1, c1, rfl⟩ := hO.sh
    obtain ⟨M, eM⟩ : ∃ M, fillL H = M := ⟨_, rfl⟩
    have HM := Lib.hid eM
    clear hO hd hg1 HD
    go_wp2_with (fail)
    refine (FillByQueue_any _ H _ HV.out.1 (HS.out.grew HV.out.2)).mono ?_
    rw [eM]
    rintro e w2 ⟨v2, rfl, hO2, hg2⟩
    obtain ⟨a2, c2, rfl⟩ := hO2.sh
    have H2 := Lib.hid (And.intro hO2.toV hg2)
    clear hO2 hg2
    go_wp2_with (fail)
    refine (SFillByQueue_any _ H _ (HV.out.1.grew H2.out.2)).mono ?_
    rw [eM]
    rintro e w3 ⟨v3, rfl, hO3, hg3⟩
    obtain ⟨a3, c3, rfl⟩ := hO3.sh
    have H3 : Hid (RowsV w3 (.slice a2 M.length c2) M ∧ RowsV w3 (.slice a3 M.length c3) M ∧ RowsV w3 (.slice a1 H.length c1) H ∧ Grew w w3) :=
      Lib.hid ⟨H2.out.1.grew hg3, hO3.toV, HV.out.1.grew (H2.out.2.trans hg3), HV.out.2.trans (H2.out.2.trans hg3)⟩
    clear hO3 hg3 H2 HV eM
    go_wp2_with (fail)
    refine (equalRows_any _ _ M M _ H3.out.1 H3.out.2.1).mono ?_
    rw [decide_eq_true (rfl : M = M)]
    rintro e w4 ⟨rfl, hq4⟩
    have hg4 := quiet_grew hq4
    have H4 : Hid (RowsV w4 (.slice a2 M.length c2) M ∧ RowsV w4 (.slice a1 H.length c1) H ∧ Grew w w4) :=
      Lib.hid ⟨H3.out.1.grew hg4, H3.out.2.2.1.grew hg4, H3.out.2.2.2.trans hg4⟩
    clear hq4 hg4 H3
    cases hvg : vGrid H with
    | false =>
      have eM0 : M = [] := by rw [← HM.out, fillL_no hvg]
      have ht : ((M.length : Int) == 0) = true := by simp [eM0]
      clear hvg eM0
      go_wp2_with (fail)
      refine (SFillByQueue_any _ H _ H4.out.2.1).mono ?_
      rw [HM.out]
      rintro e w5 ⟨v5, rfl, hO5, hg5⟩
      obtain ⟨a5, c5, rfl⟩ := hO5.sh
      have H5 := Lib.hid (And.intro hO5.toV hg5)
      clear hO5 hg5
      go_wp2_with (fail)
      refine (equalRows_any _ _ M M _ (H4.out.1.grew H5.out.2) H5.out.1).mono ?_
      rw [decide_eq_true (rfl : M = M)]
      rintro e w6 ⟨rfl, hq6⟩
      have H6 := Lib.hid (quiet_grew hq6)
      clear hq6
      go_wp2
      go_ret
      exact ⟨rfl, H4.out.2.2.trans (H5.out.2.trans H6.out)⟩
    | true =>
      have G := Grid.of hvg
      obtain ⟨A, hML, _⟩ := fill_grid hvg
      have hII := fillL_idem hvg
      have hLE := fill_le hvg
      rw [HM.out] at A hML hII hLE
      have hvm := A.to
      have hn1 := G.n1
      have ht : ((M.length : Int) == 0) = false := beq_eq_false_iff_ne.2 (by omega)
      have hRH := fun W (hW : Grew w4 W) => rowOf_any _ H W (H4.out.2.1.grew hW) (rows_small G).1 (rows_small G).2
      have hRM := fun W (hW : Grew w4 W) => rowOf_any _ M W (H4.out.1.grew hW) (rows_small A).1 (rows_small A).2
      obtain ⟨P, eP⟩ : ∃ P, H.flatten = P := ⟨_, rfl⟩
      obtain ⟨Z, eZ⟩ : ∃ Z, M.flatten = Z := ⟨_, rfl⟩
      rw [eP] at hRH hLE
      rw [eZ] at hRM hLE
      have HRH := Lib.hid hRH
      have HRM := Lib.hid hRM
      have HI := Lib.hid (And.intro hII (And.intro hLE hvm))
      clear hvg G A hML hII hLE hvm hn1 hRH hRM eP eZ
      go_wp2_with (fail)
      refine (FillBySinking_any _ H _ H4.out.2.1 (HS.out.grew H4.out.2.2)).mono ?_
      rw [HM.out]
      rintro e w5 ⟨v5, rfl, hO5, hg5⟩
      obtain ⟨a5, c5, rfl⟩ := hO5.sh
      have H5 := Lib.hid (And.intro hO5.toV hg5)
      clear hO5 hg5
      go_wp2_with (fail)
      refine (equalRows_any _ _ M M _ H5.out.1 (H4.out.1.grew H5.out.2)).mono ?_
      rw [decide_eq_true (rfl : M = M)]
      rintro e w6 ⟨rfl, hq6⟩
      have H6 := Lib.hid (H5.out.2.trans (quiet_grew hq6))
      clear hq6
      go_wp2_with (fail)
      refine (HRH.out _ H6.out).mono ?_
      rintro e w7 ⟨g7, c7, rfl, hO7, hg7⟩
      have H7 := Lib.hid (And.intro hO7.toV (H6.out.trans hg7))
      clear hO7 hg7
      go_wp2_with (fail)
      refine (HRM.out _ H7.out.2).mono ?_
      rintro e w8 ⟨g8, c8, rfl, hO8, hg8⟩
      have H8 := Lib.hid (And.intro (H7.out.1.grew hg8) (And.intro hO8.toV (H7.out.2.trans hg8)))
      clear hO8 hg8
      go_wp2_with (fail)
      refine (atMost_any _ _ _ _ _ H8.out.1 H8.out.2.1 HI.out.2.1.1 HI.out.2.1.2).mono ?_
      rintro e w9 ⟨rfl, hg9⟩
      have H9 := Lib.hid (H8.out.2.2.trans hg9)
      clear hg9
      go_wp2_with (fail)
      refine (FillByQueue_any _ M _ (H4.out.1.grew H9.out) (HS.out.grew (H4.out.2.2.trans H9.out))).mono ?_
      rw [HI.out.1]
      rintro e w10 ⟨v10, rfl, hO10, hg10⟩
      obtain ⟨a10, c10, rfl⟩ := hO10.sh
      have H10 := Lib.hid (And.intro hO10.toV (H9.out.trans hg10))
      clear hO10 hg10
      go_wp2_with (fail)
      refine (equalRows_any _ _ M M _ H10.out.1 (H4.out.1.grew H10.out.2)).mono ?_
      rw [decide_eq_true (rfl : M = M)]
      rintro e w11 ⟨rfl, hq11⟩
      have H11 := Lib.hid (H10.out.2.trans (quiet_grew hq11))
      clear hq11
      have HVG := ValidGrid_any _ M _ (H4.out.1.grew H11.out)
      rw [HI.out.2.2] at HVG
      have HVG2 := Lib.hid HVG
      clear HVG
      go_wp2_with (fail)
      refine HVG2.out.mono ?_
      rintro e w12 ⟨rfl, rfl⟩
      go_wp2
      go_ret
      exact ⟨rfl, H4.out.2.2.trans H11.out⟩
end Go.Proofs.YthjnfkphlildaaaDoor
