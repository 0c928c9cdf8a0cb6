/- The contract of laws.total. -/
import Derived.Test.YtifldhdjopmpeaaSumTo
namespace Go.Proofs.Ytifldhdjopmpeaa
open Go.RowKit

set_option maxRecDepth 100000 in
set_option maxHeartbeats 1000000 in
theorem totalOf_any (v : Value) (xs : List Int) (w : World) (hv : IntsV w v xs) (hl : xs.length ≤ 1000) (hb : ∀ i, i < xs.length → -1000 ≤ xs.getD i 0 ∧ xs.getD i 0 ≤ 1000) :
    Calls Try.prog 24 #[v] w fun e w' => e = .returned (.int .i64 (sumTo (fun i => xs.getD i 0) xs.length)) ∧ w = w' := by
  obtain ⟨a, b, o, c, rfl, ⟨hlc, hcb⟩, ha, HC⟩ := hv.shape
  have HA := Lib.hid ha
  have HB := Lib.hid hb
  clear hv ha hb
  go_enter Try.func24, Try.ntmps24
  go_wp2
  go_loop [3, 4] (fun s i => ∃ (k : Nat) (n : Int), k ≤ xs.length ∧ i = .int .i64 k ∧ s = .int .i64 n ∧ -1000 * (k : Int) ≤ n ∧ n ≤ 1000 * (k : Int) ∧ Hid (n = sumTo (fun i => xs.getD i 0) k)) (fun _ i => xs.length - (intOf i).toNat)
  case atStart => exact ⟨0, 0, Nat.zero_le _, rfl, rfl, by omega, by omega, rfl⟩
  case round =>
    obtain ⟨k, n, hk, rfl, rfl, hn0, hn1, HI⟩ := hrel
    by_cases hlt : k < xs.length
    · obtain rfl := HA.out (by omega)
      have hc := HC.out k hlt
      have hx := HB.out k hlt
      obtain ⟨x, ex⟩ : ∃ x, xs.getD k 0 = x := ⟨_, rfl⟩
      rw [ex] at hc hx
      have HX := Lib.hid ex
      clear ex
      go_wp2
      go_round
      case rel => exact ⟨k + 1, n + x, by omega, by go_num, rfl, by omega, by omega, by show _ = _; rw [sumTo, ← HI.out, HX.out]⟩
      case measure => simp [intOf]; omega
    · obtain rfl : k = xs.length := by omega
      go_wp2
      go_ret
      exact ⟨ret_int HI.out, rfl⟩
end Go.Proofs.Ytifldhdjopmpeaa
