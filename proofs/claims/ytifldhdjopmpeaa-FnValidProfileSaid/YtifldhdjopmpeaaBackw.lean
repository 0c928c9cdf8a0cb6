/- The contract of laws.backwards. -/
import Derived.Test.YtifldhdjopmpeaaExact
import Derived.Test.YtifldhdjopmpeaaSomeP
namespace Go.Proofs.Ytifldhdjopmpeaa
open Go.RowKit

set_option maxRecDepth 100000 in
set_option maxHeartbeats 1000000 in
theorem backwards_any (v : Value) (xs : List Int) (w : World) (hv : IntsV w v xs) (hx : xs.length ≤ 1000) :
    Calls Try.prog 32 #[v] w fun e w' => ∃ v', e = .returned v' ∧ IntsO 3 w.heap.size w'.heap.size w' v' xs.reverse ∧ Grew w w' := by
  obtain ⟨a, b, o, c, rfl, ⟨hlc, hcb⟩, ha, HC⟩ := hv.shape
  have HA := Lib.hid ha
  clear hv ha
  go_enter Try.func32, Try.ntmps32
  go_wp2_with (fail)
  have H0 : Hid (([] : List Int) = xs.reverse.take 0 ∧ IntsO 3 w.heap.size (w.alloc (.cells #[] 3)).heap.size (w.alloc (.cells #[] 3)) (.slice (some ⟨w.heap.size, 0, none⟩) 0 0) [] ∧ Grew w (w.alloc (.cells #[] 3))) :=
    ⟨rfl, IntsO.litAt _ _ _ _ _ _ [] #[] rfl rfl rfl (Nat.le_refl _) (by simp) (by simp), (Grew.refl _).alloc _⟩
  go_loopw [3, 4] (fun v i' wr => ∃ (ys : List Int) (g c : Nat) (j : Int), v = .slice (some ⟨g, 0, none⟩) (List.length ys) c ∧ List.length ys ≤ xs.length ∧ i' = .int .i64 j ∧ j = (xs.length : Int) - 1 - List.length ys ∧ Hid (ys = xs.reverse.take (List.length ys) ∧ IntsO 3 w.heap.size wr.heap.size wr v ys ∧ Grew w wr)) (fun _ i' _ => (intOf i' + 1).toNat)
  case atStart => exact ⟨[], _, _, (xs.length : Int) - 1, rfl, Nat.zero_le _, rfl, by simp, H0⟩
  case round =>
    obtain ⟨ys, g, c', j, rfl, hy, rfl, hj, HI⟩ := hrel
    clear H0
    have HJ := Lib.hid hj
    by_cases hlt : ys.length < xs.length
    · obtain ⟨n, rfl⟩ := Int.eq_ofNat_of_zero_le (show 0 ≤ j by omega)
      have hn : n < xs.length := by omega
      obtain rfl := HA.out (by omega)
      have hsz : w.heap.size ≤ wr.heap.size := HI.out.2.2.size
      have hc := HI.out.2.2.cell (HC.out n hn)
      obtain ⟨x, ex⟩ : ∃ x, xs.getD n 0 = x := ⟨_, rfl⟩
      rw [ex] at hc
      have HX := Lib.hid ex
      clear ex hj
      go_wp2_with (at_builtin; refine wpList_append_int rfl (.tmp 13) (.tmp 18) 32 rfl Try.underlying32 Try.infoE rfl rfl rfl HI.out.2.1 (by omega) (by omega) ?_; intro g5 c5 w5 hO5 hW5 hS5)
      have HF : Hid (IntsO 3 w.heap.size w5.heap.size w5 (.slice (some ⟨g5, 0, none⟩) (ys.length + 1) c5) (ys ++ [x]) ∧ Grew w w5) := ⟨hO5, Within.grew HI.out.2.2 hW5 (Nat.le_refl _)⟩
      clear hO5 hW5 hS5
      go_wp2
      go_roundw
      case rel => exact ⟨ys ++ [x], g5, c5, (n : Int) - 1, by simp, by simp; omega, rfl, by have := HJ.out; simp; omega, by
        have hr : ys.length < xs.reverse.length := by simp; omega
        have := List.take_succ_eq_append_getElem hr
        rw [← HI.out.1] at this
        have hg : xs.reverse[ys.length] = x := by
          rw [List.getElem_reverse, ← HX.out]
          have : xs.length - 1 - ys.length = n := by have := HJ.out; omega
          simp [this, hn]
        rw [List.length_append, List.length_singleton, this, hg], HF.out.1, HF.out.2⟩
      case measure => simp [intOf]
    · obtain rfl : j = -1 := by omega
      clear hj
      go_wp2
      go_ret
      have e := HI.out.1
      rw [List.take_of_length_le (by simp; omega)] at e
      have hb := HI.out.2.1
      rw [← e]
      exact ⟨_, rfl, hb, HI.out.2.2⟩
end Go.Proofs.Ytifldhdjopmpeaa
