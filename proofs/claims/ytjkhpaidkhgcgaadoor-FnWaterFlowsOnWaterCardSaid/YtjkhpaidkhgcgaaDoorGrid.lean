/- The contract of impl.ValidGrid. -/
import Derived.Test.YtjkhpaidkhgcgaaDoorRows
import Derived.Test.YtjkhpaidkhgcgaaDoorHeights
namespace Go.Proofs.YtjkhpaidkhgcgaaDoor
open Go.RowKit

def vRow (xs : List Int) : Bool := decide (1 ≤ xs.length) && decide (xs.length ≤ 5) && xs.all okH
theorem vHts_five (xs : List Int) : vHts 5 xs = vRow xs := by
  unfold vHts vRow
  congr 2
  rw [Bool.eq_iff_iff, decide_eq_true_eq, decide_eq_true_eq]
  omega
def vGrid (h : List (List Int)) : Bool := decide (1 ≤ h.length) && decide (h.length ≤ 5) && h.all fun row => decide (row.length = (h.getD 0 []).length) && vRow row

set_option maxRecDepth 100000 in
set_option maxHeartbeats 400000 in
theorem ValidGrid_any (v : Value) (h : List (List Int)) (w : World) (hv : RowsV w v h) :
    Calls Tryd.prog 18 #[v] w fun e w' => e = .returned (.bool (vGrid h)) ∧ w = w' := by
  obtain ⟨a, b, o, c, rfl, ⟨hlc, hcb⟩, ha, HC⟩ := hv.shape
  by_cases hr : 1 ≤ h.length ∧ h.length ≤ 5
  · obtain ⟨h1, h2⟩ := hr
    obtain rfl := ha h1
    clear ha hv
    obtain ⟨u0, hc0, hu0⟩ := HC.out 0 h1
    rw [Nat.add_zero] at hc0
    obtain ⟨row0, e0⟩ : ∃ row0, h.getD 0 [] = row0 := ⟨_, rfl⟩
    rw [e0] at hu0
    have H0 := Lib.hid e0
    obtain ⟨a0, b0, o0, c0, rfl, ⟨hlc0, hcb0⟩, _, _⟩ := hu0.shape
    clear e0 hu0
    go_enter Tryd.func18, Tryd.ntmps18
    go_wp2
    go_loop [15] (fun i => ∃ k : Nat, k ≤ h.length ∧ i = .int .i64 k ∧ Hid ((h.take k).all (fun row => decide (row.length = row0.length) && vRow row) = true)) (fun i => h.length - (intOf i).toNat)
    case atStart => exact ⟨0, Nat.zero_le _, rfl, Lib.hid rfl⟩
    case round =>
      obtain ⟨k, hk, rfl, HA⟩ := hrel
      by_cases hlt : k < h.length
      · obtain ⟨u, hck, hu⟩ := HC.out k hlt
        obtain ⟨row, er⟩ : ∃ row, h.getD k [] = row := ⟨_, rfl⟩
        rw [er] at hu
        have HR := Lib.hid er
        clear er
        have hcon := validHeights_any u row 5 w hu
        rw [vHts_five] at hcon
        have HK := Lib.hid hcon
        clear hcon
        obtain ⟨a1, b1, o1, c1, rfl, ⟨hlc1, hcb1⟩, _, _⟩ := hu.shape
        clear hu
        by_cases hlen : row.length = row0.length
        · have hn : ((row.length : Int) != (row0.length : Int)) = false := by simp [hlen]
          have HL := Lib.hid hlen
          clear hlen
          cases hvr : vRow row with
          | true =>
            rw [hvr] at HK
            have HV := Lib.hid hvr
            clear hvr
            go_wp2_with (go_at_call 60; refine HK.out.mono ?_; rintro e w' ⟨rfl, rfl⟩)
            go_round
            case rel => exact ⟨k + 1, by omega, by go_num, Lib.hid (by rw [all_snoc _ _ [] _ hlt, HA.out, HR.out, HV.out, HL.out]; simp)⟩
            case measure => simp [intOf]; omega
          | false =>
            rw [hvr] at HK
            have HV := Lib.hid hvr
            clear hvr
            go_wp2_with (go_at_call 60; refine HK.out.mono ?_; rintro e w' ⟨rfl, rfl⟩)
            go_ret
            have := all_false (fun row => decide (row.length = row0.length) && vRow row) h [] k hlt (by rw [HR.out, HV.out]; simp)
            exact ⟨ret_bool (by simp only [vGrid, H0.out, this, Bool.and_false]), rfl⟩
        · have hn : ((row.length : Int) != (row0.length : Int)) = true := by simp; omega
          have hlen' := Lib.hid hlen
          clear hlen
          go_wp2
          go_ret
          have := all_false (fun row => decide (row.length = row0.length) && vRow row) h [] k hlt (by rw [HR.out]; simp [hlen'.out])
          exact ⟨ret_bool (by simp only [vGrid, H0.out, this, Bool.and_false]), rfl⟩
      · go_wp2
        go_ret
        refine ⟨?_, rfl⟩
        have := all_take _ _ _ (by omega) HA.out
        simp only [vGrid, H0.out, this]; simp; omega
  · clear ha hv
    go_enter Tryd.func18, Tryd.ntmps18
    by_cases h1 : 1 ≤ h.length
    all_goals
      go_wp2
      go_ret
      refine ⟨?_, rfl⟩
      simp [vGrid]; omega
end Go.Proofs.YtjkhpaidkhgcgaaDoor
