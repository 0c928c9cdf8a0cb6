/- The contracts of laws.eqBoolS, markBoolS and heldBoolS. -/
import Derived.Test.YthljmolkicfdaaaEqualB
namespace Go.Proofs.Ythljmolkicfdaaa
open Go.RowKit

set_option maxRecDepth 100000 in
set_option maxHeartbeats 1000000 in
theorem eqBoolS_any (v1 v2 : Value) (xs ys : List Bool) (w : World) (hv1 : BoolsV w v1 xs) (hv2 : BoolsV w v2 ys) :
    Calls Try.prog 28 #[v1, v2] w (QuietBool (decide (xs = ys)) w) := by
  obtain ⟨a, b, o, c, rfl, ⟨hlc, hcb⟩, ha, HC⟩ := hv1.shape
  obtain ⟨a2, b2, o2, c2, rfl, ⟨hlc2, hcb2⟩, ha2, HC2⟩ := hv2.shape
  have HA := Lib.hid ha
  have HA2 := Lib.hid ha2
  clear hv1 hv2 ha ha2
  by_cases hl : xs.length = ys.length
  · have hn : ((xs.length : Int) != (ys.length : Int)) = false := by simp [hl]
    have HL := Lib.hid hl
    clear hl
    go_enter Try.func28, Try.ntmps28
    go_wp2
    clear hn
    go_loopw [5] (fun i wr => ∃ k : Nat, k ≤ xs.length ∧ i = .int .i64 k ∧ Hid (xs.take k = ys.take k ∧ ∃ n, wr = w.drewN n)) (fun i _ => xs.length - (intOf i).toNat)
    case atStart => exact ⟨0, Nat.zero_le _, rfl, rfl, 0, rfl⟩
    case round =>
      obtain ⟨k, hk, rfl, HI⟩ := hrel
      have HW := Lib.hid (quiet_grew HI.out.2)
      by_cases hlt : k < xs.length
      · have hlt2 : k < ys.length := by have := HL.out; omega
        obtain rfl := HA.out (by omega)
        obtain rfl := HA2.out (by omega)
        have hc1 := HW.out.cell (HC.out k hlt)
        have hc2 := HW.out.cell (HC2.out k hlt2)
        obtain ⟨x, ex⟩ : ∃ x, xs.getD k false = x := ⟨_, rfl⟩
        obtain ⟨y, ey⟩ : ∃ y, ys.getD k false = y := ⟨_, rfl⟩
        rw [ex] at hc1
        rw [ey] at hc2
        have HE := Lib.hid (And.intro ex ey)
        have r1 : (k : Int) < xs.length := by omega
        have r2 : (k : Int) < ys.length := by omega
        have r3 : (0 : Int) ≤ k := by omega
        clear ex ey
        cases x <;> cases y
        case false.false | true.true =>
          go_wp2
          go_quiet (fail)
          go_wp2
          go_roundw
          case rel => exact ⟨k + 1, by omega, by go_num, take_eq_snocB hlt hlt2 HI.out.1 (by rw [HE.out.1, HE.out.2]), quiet_step HI.out.2 _⟩
          case measure => simp [intOf]; omega
        all_goals
          go_wp2
          go_quiet (fail)
          go_wp2
          go_ret
          refine ⟨ret_bool ?_, quiet_step HI.out.2 _⟩
          have : xs ≠ ys := fun e => by
            have h1 := HE.out.1
            have h2 := HE.out.2
            rw [e, h2] at h1
            cases h1
          simp [this]
      · go_wp2
        go_ret
        refine ⟨ret_bool ?_, HI.out.2⟩
        have := HI.out.1
        rw [List.take_of_length_le (by omega), List.take_of_length_le (by have := HL.out; omega)] at this
        simp [this]
  · have hn : ((xs.length : Int) != (ys.length : Int)) = true := by simp; omega
    have HL := Lib.hid hl
    clear hl
    go_enter Try.func28, Try.ntmps28
    go_wp2
    go_ret
    refine ⟨ret_bool ?_, 0, rfl⟩
    have : xs ≠ ys := fun e => HL.out (by rw [e])
    simp [this]

/-- Which of k, k+1, .. are divided by 3. -/
def thirds (k : Int) (n : Nat) : List Bool := (List.range n).map fun (i : Nat) => (k + (i : Int)) % 3 == 0
theorem thirds_len (k : Int) (n : Nat) : (thirds k n).length = n := by simp [thirds]
theorem thirds_at (k : Int) (n i : Nat) (h : i < n) : (thirds k n).getD i false = ((k + (i : Int)) % 3 == 0) := by simp [thirds, h]
/-- The first j are marked. -/
def thirdsTo (xs : List Bool) (k : Int) (j : Nat) : List Bool := (List.range xs.length).map fun (i : Nat) => if i < j then (k + (i : Int)) % 3 == 0 else xs.getD i false
theorem thirdsTo_len (xs : List Bool) (k : Int) (j : Nat) : (thirdsTo xs k j).length = xs.length := by simp [thirdsTo]
theorem thirdsTo_zero (xs : List Bool) (k : Int) : thirdsTo xs k 0 = xs := by
  apply List.ext_getElem
  · simp [thirdsTo]
  · intro i h1 h2
    simp [thirdsTo, h2]
theorem thirdsTo_all (xs : List Bool) (k : Int) : thirdsTo xs k xs.length = thirds k xs.length := by
  unfold thirdsTo thirds
  exact List.map_congr_left fun i hi => by rw [if_pos (List.mem_range.1 hi)]
theorem thirdsTo_set (xs : List Bool) (k : Int) (j : Nat) (_hj : j < xs.length) : (thirdsTo xs k j).set j ((k + (j : Int)) % 3 == 0) = thirdsTo xs k (j + 1) := by
  apply List.ext_getElem
  · simp [thirdsTo]
  · intro i h1 h2
    simp only [thirdsTo, List.getElem_set, List.getElem_map, List.getElem_range]
    by_cases e : j = i
    · subst e; simp
    · rw [if_neg e]
      by_cases h : i < j
      · rw [if_pos h, if_pos (by omega)]
      · rw [if_neg h, if_neg (by omega)]

set_option maxRecDepth 100000 in
set_option maxHeartbeats 1000000 in
theorem markBoolS_any (lo hi : Nat) (v : Value) (xs : List Bool) (k : Int) (w : World) (hv : BoolsO 4 lo hi w v xs) (h0 : 0 ≤ k) (h1 : k + xs.length ≤ 1073741824) :
    Calls Try.prog 31 #[v, .int .i64 k] w fun e w' => e = .returned (.int .i64 (k + xs.length)) ∧ BoolsO 4 lo hi w' v (thirds k xs.length) ∧ Within lo hi w w' := by
  have HV := Lib.hid hv
  rcases hv.shape with ⟨rfl, rfl⟩ | ⟨g, c, rfl, hgl, hgh, hlc, hcm⟩
  · clear hv
    go_enter Try.func31, Try.ntmps31
    go_wp2
    refine wp_loop_rounds 1 ?_
    rw [rounds_succ]
    go_wp2
    go_ret
    exact ⟨ret_int (by simp), HV.out, Within.refl _ _ _⟩
  · unfold maxLen at hcm
    clear hv
    go_enter Try.func31, Try.ntmps31
    go_wp2
    go_loopw [1, 5] (fun m i wr => ∃ j : Nat, j ≤ xs.length ∧ i = .int .i64 j ∧ m = .int .i64 (k + j) ∧ Hid (BoolsO 4 lo hi wr (.slice (some ⟨g, 0, none⟩) xs.length c) (thirdsTo xs k j) ∧ Within lo hi w wr)) (fun _ i _ => xs.length - (intOf i).toNat)
    case atStart => exact ⟨0, Nat.zero_le _, rfl, by go_num, by rw [thirdsTo_zero]; exact HV.out, Within.refl _ _ _⟩
    case round =>
      obtain ⟨j, hj, rfl, rfl, HI⟩ := hrel
      by_cases hlt : j < xs.length
      · obtain ⟨hel, hfr⟩ := HI.out.1.at rfl (i := j) (by rw [thirdsTo_len]; exact hlt)
        obtain ⟨y, ey⟩ : ∃ y, (thirdsTo xs k j).getD j false = y := ⟨_, rfl⟩
        rw [ey] at hel
        have r1 : (0 : Int) ≤ k + j := by omega
        clear ey
        go_wp2
        go_roundw
        case rel => exact ⟨j + 1, by omega, by go_num, by go_num, by
          have := HI.out.1.set rfl j ((k + (j : Int)) % 3 == 0)
          rw [thirdsTo_set xs k j hlt] at this
          exact this, HI.out.2.setCell (p := ⟨g, j, none⟩) hgl hgh _⟩
        case measure => simp [intOf]; omega
      · obtain rfl : j = xs.length := by omega
        go_wp2
        go_ret
        refine ⟨rfl, ?_, HI.out.2⟩
        rw [← thirdsTo_all]
        exact HI.out.1

set_option maxRecDepth 100000 in
set_option maxHeartbeats 1000000 in
theorem heldBoolS_any (v : Value) (n : Nat) (k : Int) (w : World) (hv : BoolsV w v (thirds k n)) (h0 : 0 ≤ k) (h1 : k + n ≤ 1073741824) :
    Calls Try.prog 32 #[v, .int .i64 k] w fun e w' => e = .returned (.int .i64 (k + n)) ∧ w = w' := by
  obtain ⟨a, b, o, c, rfl, ⟨hlc, hcb⟩, ha, HC⟩ := hv.shape
  rw [thirds_len] at hlc ha ⊢
  have HA := Lib.hid ha
  have HC2 : Hid (∀ i, i < n → w.cell? ⟨b, o + i, none⟩ = some (.bool ((k + (i : Int)) % 3 == 0))) := fun i hi => by
    have := HC.out i (by rw [thirds_len]; exact hi)
    rwa [thirds_at k n i hi] at this
  clear hv ha HC
  go_enter Try.func32, Try.ntmps32
  go_wp2
  go_loop [1, 5] (fun m i => ∃ j : Nat, j ≤ n ∧ i = .int .i64 j ∧ m = .int .i64 (k + j)) (fun _ i => n - (intOf i).toNat)
  case atStart => exact ⟨0, Nat.zero_le _, rfl, by go_num⟩
  case round =>
    obtain ⟨j, hj, rfl, rfl⟩ := hrel
    by_cases hlt : j < n
    · obtain rfl := HA.out (by omega)
      have hc := HC2.out j hlt
      have r1 : (0 : Int) ≤ k + j := by omega
      cases ht : ((k + (j : Int)) % 3 == 0)
      all_goals
        rw [ht] at hc
        go_wp2
        clear ht
        go_round
        case rel => exact ⟨j + 1, by omega, by go_num, by go_num⟩
        case measure => simp [intOf]; omega
    · obtain rfl : j = n := by omega
      go_wp2
      go_ret
      exact ⟨rfl, rfl⟩
end Go.Proofs.Ythljmolkicfdaaa
