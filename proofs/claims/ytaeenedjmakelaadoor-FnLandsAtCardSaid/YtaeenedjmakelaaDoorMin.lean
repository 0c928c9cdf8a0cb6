/- The contract of slices.Min. -/
import Derived.Test.YtaeenedjmakelaaDoorExact
import Derived.Lib.MinMax
namespace Go.Proofs.YtaeenedjmakelaaDoor
open Go.RowKit

/-- m is the least of xs. -/
def IsMin (xs : List Int) (m : Int) : Prop := (∃ i, i < xs.length ∧ xs.getD i 0 = m) ∧ ∀ i, i < xs.length → m ≤ xs.getD i 0
def MinPost (xs : List Int) (w : World) (e : Ending) (w' : World) : Prop := ∃ m, e = .returned (.int .i64 m) ∧ IsMin xs m ∧ w = w'

set_option maxRecDepth 100000 in
set_option maxHeartbeats 400000 in
theorem slicesMin_any (v : Value) (xs : List Int) (w : World) (hv : IntsV w v xs) (h1 : 1 ≤ xs.length) :
    Calls Tryd.prog 104 #[v] w (MinPost xs w) := by
  obtain ⟨a, b, o, c, rfl, ⟨hlc, hcb⟩, ha, HC⟩ := hv.shape
  obtain rfl := ha h1
  clear hv ha
  have hc0 := HC.out 0 h1
  obtain ⟨x0, ex⟩ : ∃ x0, xs.getD 0 0 = x0 := ⟨_, rfl⟩
  rw [ex, Nat.add_zero] at hc0
  have HX := Lib.hid ex
  clear ex
  go_enter Tryd.func104, Tryd.ntmps104
  go_wp2
  go_loop [3, 4] (fun t i => ∃ (k : Nat) (m : Int), 1 ≤ k ∧ k ≤ xs.length ∧ i = .int .i64 k ∧ t = .int .i64 m ∧ Hid ((∃ j, j < k ∧ xs.getD j 0 = m) ∧ ∀ j, j < k → m ≤ xs.getD j 0)) (fun _ i => xs.length - (intOf i).toNat)
  case atStart =>
    refine ⟨1, x0, Nat.le_refl _, h1, rfl, rfl, ⟨0, by omega, HX.out⟩, fun j hj => ?_⟩
    have e0 : j = 0 := by omega
    rw [e0, HX.out]
    exact Int.le_refl _
  case round =>
    obtain ⟨k, m, hk1, hk, rfl, rfl, HI⟩ := hrel
    by_cases hlt : k < xs.length
    · have hck := HC.out k hlt
      obtain ⟨x, ex⟩ : ∃ x, xs.getD k 0 = x := ⟨_, rfl⟩
      rw [ex] at hck
      have HE := Lib.hid ex
      clear ex
      go_wp2
      go_round
      case rel => exact ⟨k + 1, min m x, by omega, by omega, by go_num, rfl, by
        obtain ⟨⟨j, hj, ej⟩, hall⟩ := HI.out
        constructor
        · by_cases h : x ≤ m
          · exact ⟨k, by omega, by rw [HE.out]; omega⟩
          · exact ⟨j, by omega, by rw [ej]; omega⟩
        · intro i hi
          by_cases e : i = k
          · subst e; rw [HE.out]; omega
          · have := hall i (by omega); omega⟩
      case measure => simp [intOf]; omega
    · obtain rfl : k = xs.length := by omega
      go_wp2
      go_ret
      exact ⟨m, rfl, HI.out, rfl⟩
end Go.Proofs.YtaeenedjmakelaaDoor
