/- The contract of laws.ascends. -/
import Derived.Test.YtaeenedjmakelaaDoorRows
import Derived.Test.YtaeenedjmakelaaDoorBase
namespace Go.Proofs.YtaeenedjmakelaaDoor
open Go.RowKit

/-- Up to k, each one is more than the one ahead of it. -/
def ascTo (xs : List Int) (k : Nat) : Bool := (List.range k).all fun i => decide (i = 0) || decide (xs.getD (i - 1) 0 < xs.getD i 0)
def ascB (xs : List Int) : Bool := ascTo xs xs.length
theorem ascTo_succ (xs : List Int) (k : Nat) : ascTo xs (k + 1) = (ascTo xs k && (decide (k = 0) || decide (xs.getD (k - 1) 0 < xs.getD k 0))) := by
  unfold ascTo
  rw [List.range_succ, List.all_append]
  simp
theorem ascTo_le {xs : List Int} {k : Nat} (m : Nat) (hm : k ≤ m) (h : ascTo xs k = false) : ascTo xs m = false := by
  induction m with
  | zero => obtain rfl : k = 0 := by omega
            exact h
  | succ m ih =>
    by_cases e : k = m + 1
    · subst e; exact h
    · rw [ascTo_succ, ih (by omega), Bool.false_and]

set_option maxRecDepth 100000 in
set_option maxHeartbeats 1000000 in
theorem ascends_any (v : Value) (xs : List Int) (w : World) (hv : IntsV w v xs) :
    Calls Tryd.prog 19 #[v] w (QuietBool (ascB xs) w) := by
  obtain ⟨a, b, o, c, rfl, ⟨hlc, hcb⟩, ha, HC⟩ := hv.shape
  have HA := Lib.hid ha
  clear hv ha
  go_enter Tryd.func19, Tryd.ntmps19
  go_wp2
  go_loopw [3] (fun i wr => ∃ k : Nat, 1 ≤ k ∧ (k ≤ xs.length ∨ k = 1) ∧ i = .int .i64 k ∧ Hid (ascTo xs k = true ∧ ∃ n, wr = w.drewN n)) (fun i _ => xs.length - (intOf i).toNat)
  case atStart => exact ⟨1, Nat.le_refl _, .inr rfl, rfl, rfl, 0, rfl⟩
  case round =>
    obtain ⟨k, hk1, hk, rfl, HI⟩ := hrel
    have HW := Lib.hid (quiet_grew HI.out.2)
    by_cases hlt : k < xs.length
    · obtain rfl := HA.out (by omega)
      obtain ⟨j, rfl⟩ : ∃ j, k = j + 1 := ⟨k - 1, by omega⟩
      have hc1 := HW.out.cell (HC.out (j + 1) hlt)
      have hc2 := HW.out.cell (HC.out j (by omega))
      obtain ⟨x, ex⟩ : ∃ x, xs.getD (j + 1) 0 = x := ⟨_, rfl⟩
      obtain ⟨y, ey⟩ : ∃ y, xs.getD j 0 = y := ⟨_, rfl⟩
      rw [ex] at hc1
      rw [ey] at hc2
      have HE := Lib.hid (And.intro ex ey)
      have r1 : (j : Int) + 1 < xs.length := by omega
      have r2 : (j : Int) < xs.length := by omega
      have r3 : (0 : Int) ≤ j := by omega
      have r4 : (0 : Int) ≤ (j : Int) + 1 := by omega
      have r5 : IntKind.i64.wrap ((j : Int) + 1 - 1) = j := by
        have : (j : Int) + 1 - 1 = j := by omega
        rw [this]; exact IntWalk.i64_in _ (by omega)
      have r6 : ((j : Int) + 1).toNat = j + 1 := by omega
      clear ex ey hk
      by_cases hxy : y < x
      · go_wp2
        go_quiet (fail)
        clear r5 r6
        go_wp2
        go_roundw
        case rel => exact ⟨j + 2, by omega, .inl (by omega), by go_num, by rw [ascTo_succ, HI.out.1]; simp only [Nat.add_sub_cancel, HE.out.1, HE.out.2]; simp [hxy], quiet_step HI.out.2 _⟩
        case measure => simp [intOf]; omega
      · go_wp2
        go_quiet (fail)
        clear r5 r6
        go_wp2
        go_ret
        refine ⟨ret_bool ?_, quiet_step HI.out.2 _⟩
        symm
        refine ascTo_le _ hlt ?_
        rw [ascTo_succ, HI.out.1]
        simp only [Nat.add_sub_cancel, HE.out.1, HE.out.2]
        simp; omega
    · go_wp2
      go_ret
      refine ⟨ret_bool ?_, HI.out.2⟩
      have := HI.out.1
      by_cases e : k = xs.length
      · subst e; exact this.symm
      · have e1 : k = 1 := by omega
        have e0 : xs.length = 0 := by omega
        rw [ascB, e0]; rfl
end Go.Proofs.YtaeenedjmakelaaDoor
