/- The law FnExactZeroSand returns true. -/
import Derived.Test.YthgafljbbkgldaaDoorMark
import Derived.Test.YthgafljbbkgldaaDoorCopies
import Derived.Test.YthgafljbbkgldaaDoorEq
import Derived.Test.YthgafljbbkgldaaDoorExact
import Derived.Test.YthgafljbbkgldaaDoorSandX
import Derived.Test.YthgafljbbkgldaaDoorSandZ
namespace Go.Proofs.YthgafljbbkgldaaDoor
open Go.RowKit

set_option maxRecDepth 100000 in
set_option maxHeartbeats 4000000 in
theorem FnExactZeroSand_any (r c : Int) (w : World) (hr : -9223372036854775808 ≤ r ∧ r ≤ 9223372036854775807) (hc : -9223372036854775808 ≤ c ∧ c ≤ 9223372036854775807) (hS : Steps w) :
    Calls Tryd.prog 16 #[.int .i64 r, .int .i64 c] w fun e w' => e = .returned (.bool true) ∧ Grew w w' := by
  have HTT0 := zeroX_total r c
  obtain ⟨M, eM⟩ : ∃ M, zeroX r c = M := ⟨_, rfl⟩
  have HI : ∀ (W : World), Grew w W → Calls Tryd.prog 37 #[.int .i64 r, .int .i64 c] W (NewRows W M) := fun W b => by
    have := ZeroSand_any r c W hr hc (hS.grew b)
    rwa [eM] at this
  have HP : Calls Tryd.prog 38 #[.int .i64 r, .int .i64 c] w (NewRows w M) := by
    have := SZeroSand_any r c w hr hc
    rwa [eM] at this
  have HI' := Lib.hid HI
  have HP' := Lib.hid HP
  rw [eM] at HTT0
  have HTT := Lib.hid HTT0
  clear HTT0 HI HP eM hr hc hS
  go_enter Tryd.func16, Tryd.ntmps16
  go_wp2_with (fail)
  refine HP'.out.mono ?_
  rintro e w3 ⟨v3, rfl, hw3, hg3⟩
  obtain ⟨a3, c3, rfl⟩ := hw3.sh
  have H3 := Lib.hid (And.intro hw3 hg3)
  clear hw3 hg3
  go_wp2_with (fail)
  refine (HI'.out _ H3.out.2).mono ?_
  rintro e w5 ⟨v5, rfl, hw5, hg5⟩
  obtain ⟨a5, c5, rfl⟩ := hw5.sh
  have H5 : Hid (RowsO 27 3 w.heap.size w3.heap.size w5 (.slice a3 M.length c3) M ∧ RowsO 27 3 w3.heap.size w5.heap.size w5 (.slice a5 M.length c5) M ∧ Grew w w5 ∧ w.heap.size ≤ w3.heap.size) :=
    Lib.hid ⟨H3.out.1.grew hg5, hw5, H3.out.2.trans hg5, H3.out.2.size⟩
  clear hw5 hg5 H3
  go_wp2_with (fail)
  refine (eqIntSS_any _ _ M M _ H5.out.2.1.toV H5.out.1.toV).mono ?_
  rw [decide_eq_true (rfl : M = M)]
  rintro e w6 ⟨rfl, hq⟩
  have hg6 := quiet_grew hq
  have H6 : Hid (RowsO 27 3 w.heap.size w3.heap.size w6 (.slice a3 M.length c3) M ∧ RowsO 27 3 w3.heap.size w5.heap.size w6 (.slice a5 M.length c5) M ∧ Grew w w6 ∧ w.heap.size ≤ w3.heap.size) :=
    Lib.hid ⟨H5.out.1.grew hg6, H5.out.2.1.grew hg6, H5.out.2.2.1.trans hg6, H5.out.2.2.2⟩
  clear hq hg6 H5
  go_wp2_with (fail)
  refine (markIntSS_any w3.heap.size w5.heap.size _ M 1 _ H6.out.2.1 (by decide) (by have := HTT.out; omega)).mono ?_
  rintro e w11 ⟨rfl, hm11, hw11⟩
  have H11 : Hid (RowsO 27 3 w.heap.size w3.heap.size w11 (.slice a3 M.length c3) M ∧ RowsO 27 3 w3.heap.size w5.heap.size w11 (.slice a5 M.length c5) (markL 1 M) ∧ Grew w w11) :=
    Lib.hid ⟨H6.out.1.within hw11 (.inl (Nat.le_refl _)), hm11, Within.grew H6.out.2.2.1 hw11 H6.out.2.2.2⟩
  clear hm11 hw11 H6
  go_wp2_with (fail)
  refine (heldIntSS_any _ M 1 _ H11.out.2.1.toV (by decide) (by have := HTT.out; omega)).mono ?_
  rintro e w12 ⟨rfl, rfl⟩
  have e12 : ¬ (1 + (total M : Int)) < 0 := by omega
  go_wp2_with (fail)
  refine (HI'.out _ H11.out.2.2).mono ?_
  rintro e w14 ⟨v14, rfl, hw14, hg14⟩
  obtain ⟨a14, c14, rfl⟩ := hw14.sh
  have H14 : Hid (RowsV w14 (.slice a14 M.length c14) M ∧ RowsV w14 (.slice a3 M.length c3) M ∧ RowsV w14 (.slice a5 M.length c5) (markL 1 M) ∧ Grew w w14) :=
    Lib.hid ⟨hw14.toV, (H11.out.1.grew hg14).toV, (H11.out.2.1.grew hg14).toV, H11.out.2.2.trans hg14⟩
  clear hw14 hg14 H11
  go_wp2_with (fail)
  refine (eqIntSS_any _ _ M M _ H14.out.1 H14.out.2.1).mono ?_
  rw [decide_eq_true (rfl : M = M)]
  rintro e w15 ⟨rfl, hq⟩
  have hg15 := quiet_grew hq
  have H15 := Lib.hid (And.intro (H14.out.2.2.1.grew hg15) (H14.out.2.2.2.trans hg15))
  clear hq hg15 H14
  go_wp2_with (fail)
  refine (heldIntSS_any _ M 1 _ H15.out.1 (by decide) (by have := HTT.out; omega)).mono ?_
  rintro e w16 ⟨rfl, rfl⟩
  go_wp2
  go_ret
  exact ⟨rfl, H15.out.2⟩
end Go.Proofs.YthgafljbbkgldaaDoor
