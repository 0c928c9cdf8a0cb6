/- The contracts of spec.cells and spec.around. -/
import Derived.Test.YtifldhdjopmpeaaBeside
namespace Go.Proofs.Ytifldhdjopmpeaa
open Go.RowKit

set_option maxRecDepth 100000 in
set_option maxHeartbeats 1000000 in
theorem cells_any (v : Value) (h : List (List Int)) (w : World) (hv : RowsV w v h) (hn : 1 ≤ h.length) (hn5 : h.length ≤ 6) (hm5 : (h.getD 0 []).length ≤ 6) :
    Calls Try.prog 50 #[v] w fun e w' => e = .returned (.int .i64 ((h.length * (h.getD 0 []).length : Nat) : Int)) ∧ w = w' := by
  obtain ⟨a, b, o, c, rfl, ⟨hlc, hcb⟩, ha, HC⟩ := hv.shape
  obtain rfl := ha hn
  obtain ⟨u, hcu, hu⟩ := HC.out 0 hn
  rw [Nat.add_zero] at hcu
  obtain ⟨row, er⟩ : ∃ row, h.getD 0 [] = row := ⟨_, rfl⟩
  rw [er] at hu hm5 ⊢
  obtain ⟨a1, b1, o1, c1, rfl, _, _, _⟩ := hu.shape
  have hi0 : 0 < h.length := by omega
  have e : ((h.length * row.length : Nat) : Int) = (h.length : Int) * row.length := by simp
  have hb : (h.length : Int) * row.length ≤ 36 := by
    rw [← e]
    have : h.length * row.length ≤ 6 * 6 := Nat.mul_le_mul hn5 hm5
    omega
  have hb0 : 0 ≤ (h.length : Int) * row.length := by rw [← e]; omega
  have HE := Lib.hid e
  clear hu er ha hv e
  go_enter Try.func50, Try.ntmps50
  go_wp2
  go_ret
  exact ⟨ret_int HE.out.symm, rfl⟩

end Go.Proofs.Ytifldhdjopmpeaa
