/- The contracts of strconv.Itoa and spec.number at the numbers 0 to 12. -/
import Derived.Test.YtlfoimjohdaofaaDoorExact
namespace Go.Proofs.YtlfoimjohdaofaaDoor
open Go.RowKit

/-- A number of at most two digits in decimal. -/
def numS (n : Nat) : ByteArray := if n < 10 then ⟨#[(48 + n).toUInt8]⟩ else ⟨#[(48 + n / 10).toUInt8, (48 + n % 10).toUInt8]⟩
set_option maxRecDepth 100000 in
set_option maxHeartbeats 4000000 in
theorem small_any (n : Nat) (w : World) (hn : n ≤ 12) :
    Calls Tryd.prog 66 #[.int .i64 n] w fun e w' => e = .returned (.string (numS n)) ∧ w = w' := by
  have h : n = 0 ∨ n = 1 ∨ n = 2 ∨ n = 3 ∨ n = 4 ∨ n = 5 ∨ n = 6 ∨ n = 7 ∨ n = 8 ∨ n = 9 ∨ n = 10 ∨ n = 11 ∨ n = 12 := by omega
  clear hn
  rcases h with rfl | rfl | rfl | rfl | rfl | rfl | rfl | rfl | rfl | rfl | rfl | rfl | rfl
  all_goals
    go_enter Tryd.func66, Tryd.ntmps66
    go_wp2
    go_ret
    exact ⟨rfl, rfl⟩
set_option maxRecDepth 100000 in
set_option maxHeartbeats 4000000 in
theorem FormatInt_any (n : Nat) (w : World) (hn : n ≤ 12) :
    Calls Tryd.prog 62 #[.int .i64 n, .int .i64 10] w fun e w' => e = .returned (.string (numS n)) ∧ w = w' := by
  have HS := Lib.hid (small_any n w hn)
  obtain ⟨s, es⟩ : ∃ s, numS n = s := ⟨_, rfl⟩
  rw [es] at HS ⊢
  have h0 : (0 : Int) ≤ n := by omega
  have h1 : (n : Int) < 100 := by omega
  clear es
  go_enter Tryd.func62, Tryd.ntmps62
  go_wp2_with (fail)
  refine HS.out.mono ?_
  rintro e w1 ⟨rfl, rfl⟩
  go_wp2
  go_ret
  exact ⟨rfl, rfl⟩
set_option maxRecDepth 100000 in
theorem itoaI_any (n : Nat) (w : World) (hn : n ≤ 12) :
    Calls Tryd.prog 53 #[.int .i64 n] w fun e w' => e = .returned (.string (numS n)) ∧ w = w' := by
  have HS := Lib.hid (FormatInt_any n w hn)
  obtain ⟨s, es⟩ : ∃ s, numS n = s := ⟨_, rfl⟩
  rw [es] at HS ⊢
  clear es
  go_enter Tryd.func53, Tryd.ntmps53
  go_wp2_with (fail)
  refine HS.out.mono ?_
  rintro e w1 ⟨rfl, rfl⟩
  go_wp2
  go_ret
  exact ⟨rfl, rfl⟩
set_option maxRecDepth 100000 in
theorem Itoa_any (n : Nat) (w : World) (hn : n ≤ 12) :
    Calls Tryd.prog 41 #[.int .i64 n] w fun e w' => e = .returned (.string (numS n)) ∧ w = w' := by
  have HS := Lib.hid (itoaI_any n w hn)
  obtain ⟨s, es⟩ : ∃ s, numS n = s := ⟨_, rfl⟩
  rw [es] at HS ⊢
  clear es
  go_enter Tryd.func41, Tryd.ntmps41
  go_wp2_with (fail)
  refine HS.out.mono ?_
  rintro e w1 ⟨rfl, rfl⟩
  go_wp2
  go_ret
  exact ⟨rfl, rfl⟩
set_option maxRecDepth 100000 in
set_option maxHeartbeats 4000000 in
theorem number_digit (n : Nat) (w : World) (hn : n ≤ 9) :
    Calls Tryd.prog 44 #[.int .i64 n] w fun e w' => e = .returned (.string (numS n)) ∧ w = w' := by
  have h : n = 0 ∨ n = 1 ∨ n = 2 ∨ n = 3 ∨ n = 4 ∨ n = 5 ∨ n = 6 ∨ n = 7 ∨ n = 8 ∨ n = 9 := by omega
  clear hn
  rcases h with rfl | rfl | rfl | rfl | rfl | rfl | rfl | rfl | rfl | rfl
  all_goals
    go_enter Tryd.func44, Tryd.ntmps44
    go_wp2
    go_ret
    exact ⟨rfl, rfl⟩
set_option maxRecDepth 100000 in
set_option maxHeartbeats 4000000 in
theorem number_any (n : Nat) (w : World) (hn : n ≤ 12) :
    Calls Tryd.prog 44 #[.int .i64 n] w fun e w' => e = .returned (.string (numS n)) ∧ w = w' := by
  by_cases h9 : n ≤ 9
  · exact number_digit n w h9
  · have HD : ∀ (z : Int) (d : Nat), d ≤ 9 → z = (d : Int) → Calls Tryd.prog 44 #[.int .i64 z] w fun e w' => e = .returned (.string (numS d)) ∧ w = w' := fun z d hd hz => by rw [hz]; exact number_digit d w hd
    have HA := Lib.hid (HD 1 1 (by omega) rfl)
    have HB0 := Lib.hid (HD 0 0 (by omega) rfl)
    have HB1 := Lib.hid (HD 1 1 (by omega) rfl)
    have HB2 := Lib.hid (HD 2 2 (by omega) rfl)
    clear HD
    have h : n = 10 ∨ n = 11 ∨ n = 12 := by omega
    clear hn h9
    rcases h with rfl | rfl | rfl
    all_goals
      go_enter Tryd.func44, Tryd.ntmps44
      go_wp2_with (fail)
      refine HA.out.mono ?_
      rintro e w1 ⟨rfl, rfl⟩
      go_wp2_with (fail)
      first
        | (with_reducible refine HB0.out.mono ?_)
        | (with_reducible refine HB1.out.mono ?_)
        | (with_reducible refine HB2.out.mono ?_)
      rintro e w2 ⟨rfl, rfl⟩
      go_wp2
      go_ret
      exact ⟨rfl, rfl⟩
end Go.Proofs.YtlfoimjohdaofaaDoor
