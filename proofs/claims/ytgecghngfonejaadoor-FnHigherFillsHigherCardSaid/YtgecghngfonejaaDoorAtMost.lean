/- The contract of laws.atMost, where each number is at most its like; water on water. -/
import Derived.Test.YtgecghngfonejaaDoorShapes2
import Derived.Test.YtgecghngfonejaaDoorBase
namespace Go.Proofs.YtgecghngfonejaaDoor
open Go.RowKit

set_option maxRecDepth 100000 in
set_option maxHeartbeats 1000000 in
theorem atMost_any (v u : Value) (xs ys : List Int) (w : World) (hv : IntsV w v xs) (hu : IntsV w u ys) (hl : xs.length = ys.length) (hle : ∀ i, i < xs.length → xs.getD i 0 ≤ ys.getD i 0) :
    Calls Tryd.prog 34 #[v, u] w fun e w' => e = .returned (.bool true) ∧ Grew w w' := by
  obtain ⟨a, b, o, c, rfl, ⟨hlc, hcb⟩, ha, HC⟩ := hv.shape
  obtain ⟨a2, b2, o2, c2, rfl, ⟨hlc2, hcb2⟩, ha2, HC2⟩ := hu.shape
  obtain ⟨n, en⟩ : ∃ n, xs.length = n := ⟨_, rfl⟩
  have en2 : ys.length = n := by omega
  rw [en] at hle hlc ha HC ⊢
  rw [en2] at hlc2 ha2 HC2 ⊢
  have HA := Lib.hid (And.intro ha ha2)
  have HLE := Lib.hid hle
  clear hv hu ha ha2 hl hle en en2
  go_enter Tryd.func34, Tryd.ntmps34
  go_wp2
  go_loopw [5] (fun i wr => ∃ k : Nat, k ≤ n ∧ i = .int .i64 k ∧ Hid (Grew w wr)) (fun i _ => n - (intOf i).toNat)
  case atStart => exact ⟨0, Nat.zero_le _, rfl, Grew.refl _⟩
  case round =>
    obtain ⟨k, hk, rfl, HI⟩ := hrel
    by_cases hlt : k < n
    · obtain rfl := HA.out.1 (by omega)
      obtain rfl := HA.out.2 (by omega)
      have hc1 := HI.out.cell (HC.out k hlt)
      have hc2 := HI.out.cell (HC2.out k hlt)
      have hxy := HLE.out k hlt
      obtain ⟨x, ex⟩ : ∃ x, xs.getD k 0 = x := ⟨_, rfl⟩
      obtain ⟨y, ey⟩ : ∃ y, ys.getD k 0 = y := ⟨_, rfl⟩
      rw [ex] at hc1 hxy
      rw [ey] at hc2 hxy
      have hnx : ¬ y < x := by omega
      have HG : Hid (∀ W, Grew wr W → Grew w W) := Lib.hid fun W hW => HI.out.trans hW
      clear ex ey hk HI
      go_wp2
      go_quiet (fail)
      go_wp2
      go_roundw
      case rel => exact ⟨k + 1, by omega, by go_num, HG.out _ ((Grew.refl _).drewN _)⟩
      case measure => simp [intOf]; omega
    · obtain rfl : k = n := by omega
      go_wp2
      go_ret
      exact ⟨rfl, HI.out⟩

/-- Water on water is water. -/
theorem fillL_idem {h : List (List Int)} (hg : vGrid h = true) : fillL (fillL h) = fillL h := by
  have W := grid_level hg
  have e := fillL_yes hg rfl rfl W
  obtain ⟨A, hL, hF⟩ := fill_grid hg
  have W2 : Level h.length (h.getD 0 []).length (fillL h).flatten (levelL h.length (h.getD 0 []).length h.flatten) := by rw [hF]; exact W.again
  have G := Grid.of hg
  rw [fillL_yes A.to hL (A.len 0 (by have := G.n1; omega)) W2, e]
theorem fill_le {h : List (List Int)} (hg : vGrid h = true) : h.flatten.length = (fillL h).flatten.length ∧ ∀ i, i < h.flatten.length → h.flatten.getD i 0 ≤ (fillL h).flatten.getD i 0 := by
  have W := grid_level hg
  have G := Grid.of hg
  obtain ⟨A, hL, hF⟩ := fill_grid hg
  have hl := flat_grid_len G
  rw [hF]
  exact ⟨by rw [hl]; exact W.len.symm, fun i hi => W.base (by rw [← hl]; exact hi)⟩
end Go.Proofs.YtgecghngfonejaaDoor
