/- The contracts of impl.validRows, impl.ValidGrid and impl.ValidSand. -/
import Derived.Test.YtaeenedjmakelaaDoorRows
import Derived.Test.YtaeenedjmakelaaDoorHeights
namespace Go.Proofs.YtaeenedjmakelaaDoor
open Go.RowKit

def vRow (xs : List Int) : Bool := decide (1 ≤ xs.length) && decide (xs.length ≤ 5) && xs.all okH
theorem vHts_five (xs : List Int) : vHts 5 xs = vRow xs := by
  unfold vHts vRow
  congr 2
  rw [Bool.eq_iff_iff, decide_eq_true_eq, decide_eq_true_eq]
  omega
def vGrid (h : List (List Int)) : Bool := decide (1 ≤ h.length) && decide (h.length ≤ 5) && h.all fun row => decide (row.length = (h.getD 0 []).length) && vRow row

/-- At least one row and at most sd, all of as many numbers, for which the same holds, in 0 up to g. -/
def vRows (sd : Nat) (g : Int) (h : List (List Int)) : Bool := decide (1 ≤ h.length) && decide (h.length ≤ sd) && h.all fun row => decide (row.length = (h.getD 0 []).length) && vNums sd g row
theorem vRows_grid (h : List (List Int)) : vRows 5 12 h = vGrid h := by
  unfold vRows vGrid
  have : ∀ row : List Int, vNums ((5 : Nat) : Int) 12 row = vRow row := fun row => vHts_five row
  simp only [this]
def vSand (h : List (List Int)) : Bool := vRows 4 9 h

set_option maxRecDepth 100000 in
set_option maxHeartbeats 400000 in
theorem validRows_any (v : Value) (h : List (List Int)) (sd : Nat) (g : Int) (w : World) (hv : RowsV w v h) :
    Calls Tryd.prog 63 #[v, .int .i64 sd, .int .i64 g] w fun e w' => e = .returned (.bool (vRows sd g h)) ∧ w = w' := by
  obtain ⟨a, b, o, c, rfl, ⟨hlc, hcb⟩, ha, HC⟩ := hv.shape
  by_cases hr : 1 ≤ h.length ∧ h.length ≤ sd
  · obtain ⟨h1, h2⟩ := hr
    obtain rfl := ha h1
    clear ha hv
    obtain ⟨u0, hc0, hu0⟩ := HC.out 0 h1
    rw [Nat.add_zero] at hc0
    obtain ⟨row0, e0⟩ : ∃ row0, h.getD 0 [] = row0 := ⟨_, rfl⟩
    rw [e0] at hu0
    have H0 := Lib.hid e0
    obtain ⟨a0, b0, o0, c0, rfl, ⟨hlc0, hcb0⟩, _, _⟩ := hu0.shape
    clear e0 hu0
    have hsd : decide (sd < h.length) = false := decide_eq_false (by omega)
    go_enter Tryd.func63, Tryd.ntmps63
    go_wp2
    go_loop [20] (fun i => ∃ k : Nat, k ≤ h.length ∧ i = .int .i64 k ∧ Hid ((h.take k).all (fun row => decide (row.length = row0.length) && vNums sd g row) = true)) (fun i => h.length - (intOf i).toNat)
    case atStart => exact ⟨0, Nat.zero_le _, rfl, Lib.hid rfl⟩
    case round =>
      obtain ⟨k, hk, rfl, HA⟩ := hrel
      by_cases hlt : k < h.length
      · obtain ⟨u, hck, hu⟩ := HC.out k hlt
        obtain ⟨row, er⟩ : ∃ row, h.getD k [] = row := ⟨_, rfl⟩
        rw [er] at hu
        have HR := Lib.hid er
        clear er
        have hcon := validNumbers_any u row sd g w hu
        have HK := Lib.hid hcon
        clear hcon
        obtain ⟨a1, b1, o1, c1, rfl, ⟨hlc1, hcb1⟩, _, _⟩ := hu.shape
        clear hu
        by_cases hlen : row.length = row0.length
        · have hn : ((row.length : Int) != (row0.length : Int)) = false := by simp [hlen]
          have HL := Lib.hid hlen
          clear hlen
          cases hvr : vNums sd g row with
          | true =>
            rw [hvr] at HK
            have HV := Lib.hid hvr
            clear hvr
            go_wp2_with (go_at_call 81; refine HK.out.mono ?_; rintro e w' ⟨rfl, rfl⟩)
            go_round
            case rel => exact ⟨k + 1, by omega, by go_num, Lib.hid (by rw [all_snoc _ _ [] _ hlt, HA.out, HR.out, HV.out, HL.out]; simp)⟩
            case measure => simp [intOf]; omega
          | false =>
            rw [hvr] at HK
            have HV := Lib.hid hvr
            clear hvr
            go_wp2_with (go_at_call 81; refine HK.out.mono ?_; rintro e w' ⟨rfl, rfl⟩)
            go_ret
            have := all_false (fun row => decide (row.length = row0.length) && vNums sd g row) h [] k hlt (by rw [HR.out, HV.out]; simp)
            exact ⟨ret_bool (by simp only [vRows, H0.out, this, Bool.and_false]), rfl⟩
        · have hn : ((row.length : Int) != (row0.length : Int)) = true := by simp; omega
          have hlen' := Lib.hid hlen
          clear hlen
          go_wp2
          go_ret
          have := all_false (fun row => decide (row.length = row0.length) && vNums sd g row) h [] k hlt (by rw [HR.out]; simp [hlen'.out])
          exact ⟨ret_bool (by simp only [vRows, H0.out, this, Bool.and_false]), rfl⟩
      · go_wp2
        go_ret
        refine ⟨?_, rfl⟩
        have := all_take _ _ _ (by omega) HA.out
        simp only [vRows, H0.out, this]; simp; omega
  · clear ha hv
    go_enter Tryd.func63, Tryd.ntmps63
    by_cases h1 : 1 ≤ h.length
    all_goals
      go_wp2
      go_ret
      refine ⟨?_, rfl⟩
      simp [vRows]; omega

set_option maxRecDepth 100000 in
theorem ValidGrid_any (v : Value) (h : List (List Int)) (w : World) (hv : RowsV w v h) :
    Calls Tryd.prog 29 #[v] w fun e w' => e = .returned (.bool (vGrid h)) ∧ w = w' := by
  have HK := Lib.hid (validRows_any v h 5 12 w hv)
  rw [vRows_grid] at HK
  obtain ⟨a, b, o, c, rfl, _, _, _⟩ := hv.shape
  clear hv
  go_enter Tryd.func29, Tryd.ntmps29
  go_wp2_with (fail)
  refine HK.out.mono ?_
  rintro e w' ⟨rfl, rfl⟩
  go_wp2
  go_ret
  exact ⟨rfl, rfl⟩
end Go.Proofs.YtaeenedjmakelaaDoor
