/- The contract of laws.isIn. -/
import Derived.Test.YtdjjimnfhfdjdaaDoorRows
import Derived.Test.YtdjjimnfhfdjdaaDoorBase
namespace Go.Proofs.YtdjjimnfhfdjdaaDoor
open Go.RowKit

set_option maxRecDepth 100000 in
set_option maxHeartbeats 1000000 in
theorem isIn_any (v : Value) (xs : List Int) (n : Int) (w : World) (hv : IntsV w v xs) :
    Calls Tryd.prog 20 #[v, .int .i64 n] w fun e w' => e = .returned (.bool (decide (n ∈ xs))) ∧ w = w' := by
  obtain ⟨a, b, o, c, rfl, ⟨hlc, hcb⟩, ha, HC⟩ := hv.shape
  have HA := Lib.hid ha
  clear hv ha
  go_enter Tryd.func20, Tryd.ntmps20
  go_wp2
  go_loop [5] (fun i => ∃ k : Nat, k ≤ xs.length ∧ i = .int .i64 k ∧ Hid (n ∉ xs.take k)) (fun i => xs.length - (intOf i).toNat)
  case atStart => exact ⟨0, Nat.zero_le _, rfl, by simp [Hid]⟩
  case round =>
    obtain ⟨k, hk, rfl, HI⟩ := hrel
    by_cases hlt : k < xs.length
    · obtain rfl := HA.out (by omega)
      have hc := HC.out k hlt
      obtain ⟨x, ex⟩ : ∃ x, xs.getD k 0 = x := ⟨_, rfl⟩
      rw [ex] at hc
      have hx : x = xs[k] := by rw [← ex]; simp [hlt]
      have HE := Lib.hid hx
      clear ex hx
      by_cases hxn : x = n
      · have ht : (x == n) = true := by simp [hxn]
        have HX := Lib.hid hxn
        clear hxn
        go_wp2
        go_ret
        refine ⟨ret_bool ?_, rfl⟩
        have : n ∈ xs := by rw [← HX.out, HE.out]; exact List.getElem_mem hlt
        simp [this]
      · have ht : (x == n) = false := by simp [hxn]
        have HX := Lib.hid hxn
        clear hxn
        go_wp2
        go_round
        case rel => exact ⟨k + 1, by omega, by go_num, by
          show n ∉ xs.take (k + 1)
          rw [List.take_succ_eq_append_getElem hlt, List.mem_append]
          rintro (h | h)
          · exact HI.out h
          · simp at h; exact HX.out (by rw [HE.out, h])⟩
        case measure => simp [intOf]; omega
    · go_wp2
      go_ret
      refine ⟨ret_bool ?_, rfl⟩
      have := HI.out
      rw [List.take_of_length_le (by omega)] at this
      simp [this]
end Go.Proofs.YtdjjimnfhfdjdaaDoor
