/- The contract of laws.equalInts. -/
import Derived.Test.YtaeenedjmakelaaDoorRows
import Derived.Test.YtaeenedjmakelaaDoorBase
namespace Go.Proofs.YtaeenedjmakelaaDoor
open Go.RowKit

set_option maxRecDepth 100000 in
set_option maxHeartbeats 1000000 in
theorem equalInts_any (v1 v2 : Value) (xs ys : List Int) (w : World) (hv1 : IntsV w v1 xs) (hv2 : IntsV w v2 ys) :
    Calls Tryd.prog 17 #[v1, v2] w (QuietBool (decide (xs = ys)) w) := by
  obtain ⟨a, b, o, c, rfl, ⟨hlc, hcb⟩, ha, HC⟩ := hv1.shape
  obtain ⟨a2, b2, o2, c2, rfl, ⟨hlc2, hcb2⟩, ha2, HC2⟩ := hv2.shape
  have HA := Lib.hid ha
  have HA2 := Lib.hid ha2
  clear hv1 hv2 ha ha2
  by_cases hl : xs.length = ys.length
  · have hn : ((xs.length : Int) != (ys.length : Int)) = false := by simp [hl]
    have HL := Lib.hid hl
    clear hl
    go_enter Tryd.func17, Tryd.ntmps17
    go_wp2
    clear hn
    go_loopw [5] (fun i wr => ∃ k : Nat, k ≤ xs.length ∧ i = .int .i64 k ∧ Hid (xs.take k = ys.take k ∧ ∃ n, wr = w.drewN n)) (fun i _ => xs.length - (intOf i).toNat)
    case atStart => exact ⟨0, Nat.zero_le _, rfl, rfl, 0, rfl⟩
    case round =>
      obtain ⟨k, hk, rfl, HI⟩ := hrel
      have HW := Lib.hid (quiet_grew HI.out.2)
      by_cases hlt : k < xs.length
      · have hlt2 : k < ys.length := by have := HL.out; omega
        obtain rfl := HA.out (by omega)
        obtain rfl := HA2.out (by omega)
        have hc1 := HW.out.cell (HC.out k hlt)
        have hc2 := HW.out.cell (HC2.out k hlt2)
        obtain ⟨x, ex⟩ : ∃ x, xs.getD k 0 = x := ⟨_, rfl⟩
        obtain ⟨y, ey⟩ : ∃ y, ys.getD k 0 = y := ⟨_, rfl⟩
        rw [ex] at hc1
        rw [ey] at hc2
        have HE := Lib.hid (And.intro ex ey)
        have r1 : (k : Int) < xs.length := by omega
        have r2 : (k : Int) < ys.length := by omega
        have r3 : (0 : Int) ≤ k := by omega
        clear ex ey
        by_cases hxy : x = y
        · have ht : (x != y) = false := by simp [hxy]
          have HXY := Lib.hid hxy
          clear hxy
          go_wp2
          go_quiet (fail)
          go_wp2
          go_roundw
          case rel => exact ⟨k + 1, by omega, by go_num, take_eq_snoc 0 hlt hlt2 HI.out.1 (by rw [HE.out.1, HE.out.2, HXY.out]), quiet_step HI.out.2 _⟩
          case measure => simp [intOf]; omega
        · have ht : (x != y) = true := by simp [hxy]
          have HXY := Lib.hid hxy
          clear hxy
          go_wp2
          go_quiet (fail)
          go_wp2
          go_ret
          refine ⟨ret_bool ?_, quiet_step HI.out.2 _⟩
          have : xs ≠ ys := fun e => HXY.out (by rw [← HE.out.1, ← HE.out.2, e])
          simp [this]
      · go_wp2
        go_ret
        refine ⟨ret_bool ?_, HI.out.2⟩
        have := HI.out.1
        rw [List.take_of_length_le (by omega), List.take_of_length_le (by have := HL.out; omega)] at this
        simp [this]
  · have hn : ((xs.length : Int) != (ys.length : Int)) = true := by simp; omega
    have HL := Lib.hid hl
    clear hl
    go_enter Tryd.func17, Tryd.ntmps17
    go_wp2
    go_ret
    refine ⟨ret_bool ?_, 0, rfl⟩
    have : xs ≠ ys := fun e => HL.out (by rw [e])
    simp [this]

end Go.Proofs.YtaeenedjmakelaaDoor
