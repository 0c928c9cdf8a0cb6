/- The contracts of cmp.Compare[int] and impl.byWater. -/
import Derived.Test.YtjibmfignifpcaaDoorTurns
namespace Go.Proofs.YtjibmfignifpcaaDoor
open Go.RowKit

def cmpI (x y : Int) : Int := if x < y then -1 else if y < x then 1 else 0

set_option maxHeartbeats 400000 in
theorem isNaN_any (x : Int) (w : World) : Calls Tryd.prog 103 #[.int .i64 x] w fun e w' => e = .returned (.bool false) ∧ w = w' := by
  go_enter Tryd.func103, Tryd.ntmps103
  go_wp2
  go_ret
  exact ⟨ret_bool (by simp), rfl⟩
set_option maxHeartbeats 400000 in
theorem compare_any (x y : Int) (w : World) : Calls Tryd.prog 91 #[.int .i64 x, .int .i64 y] w fun e w' => e = .returned (.int .i64 (cmpI x y)) ∧ w = w' := by
  have HX := Lib.hid (isNaN_any x w)
  have HY := Lib.hid (isNaN_any y w)
  have HC : Hid (cmpI x y = if x < y then -1 else if y < x then 1 else 0) := Lib.hid rfl
  obtain ⟨R, eR⟩ : ∃ R, cmpI x y = R := ⟨_, rfl⟩
  rw [eR] at HC ⊢
  clear eR
  by_cases h1 : x < y
  · have HC2 : Hid (R = -1) := Lib.hid (by rw [HC.out, if_pos h1])
    clear HC
    go_enter Tryd.func91, Tryd.ntmps91
    go_wp2_with (fail)
    refine HX.out.mono ?_
    rintro e w1 ⟨rfl, rfl⟩
    go_wp2_with (fail)
    refine HY.out.mono ?_
    rintro e w1 ⟨rfl, rfl⟩
    go_wp2
    go_ret
    exact ⟨ret_int HC2.out.symm, rfl⟩
  · by_cases h2 : y < x
    · have HC2 : Hid (R = 1) := Lib.hid (by rw [HC.out, if_neg h1, if_pos h2])
      clear HC
      go_enter Tryd.func91, Tryd.ntmps91
      go_wp2_with (fail)
      refine HX.out.mono ?_
      rintro e w1 ⟨rfl, rfl⟩
      go_wp2_with (fail)
      refine HY.out.mono ?_
      rintro e w1 ⟨rfl, rfl⟩
      go_wp2
      go_ret
      exact ⟨ret_int HC2.out.symm, rfl⟩
    · have HC2 : Hid (R = 0) := Lib.hid (by rw [HC.out, if_neg h1, if_neg h2])
      clear HC
      go_enter Tryd.func91, Tryd.ntmps91
      go_wp2_with (fail)
      refine HX.out.mono ?_
      rintro e w1 ⟨rfl, rfl⟩
      go_wp2_with (fail)
      refine HY.out.mono ?_
      rintro e w1 ⟨rfl, rfl⟩
      go_wp2
      go_ret
      exact ⟨ret_int HC2.out.symm, rfl⟩
set_option maxHeartbeats 400000 in
theorem byWater_any (c1 w1 c2 w2 : Int) (w : World) : Calls Tryd.prog 52 #[.agg #[.int .i64 c1, .int .i64 w1], .agg #[.int .i64 c2, .int .i64 w2]] w fun e w' => e = .returned (.int .i64 (cmpI w1 w2)) ∧ Grew w w' := by
  have HC := Lib.hid fun W => compare_any w1 w2 W
  obtain ⟨R, eR⟩ : ∃ R, cmpI w1 w2 = R := ⟨_, rfl⟩
  rw [eR] at HC ⊢
  clear eR
  have hG : Hid (Grew w ((w.alloc (.cells #[.int .i64 c1, .int .i64 w1] 52)).alloc (.cells #[.int .i64 c2, .int .i64 w2] 52))) := Lib.hid (((Grew.refl w).alloc _).alloc _)
  go_enter Tryd.func52, Tryd.ntmps52
  go_wp2_with (fail)
  refine (HC.out _).mono ?_
  rintro e w3 ⟨rfl, rfl⟩
  go_wp2
  go_ret
  exact ⟨rfl, hG.out⟩
end Go.Proofs.YtjibmfignifpcaaDoor
