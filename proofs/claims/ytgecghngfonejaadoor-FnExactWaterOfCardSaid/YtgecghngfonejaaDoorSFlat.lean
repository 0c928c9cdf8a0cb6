/- The contract of spec.flat. -/
import Derived.Test.YtgecghngfonejaaDoorRowOf
namespace Go.Proofs.YtgecghngfonejaaDoor
open Go.RowKit

set_option maxRecDepth 100000 in
set_option maxHeartbeats 2000000 in
theorem sflat_any (v : Value) (h : List (List Int)) (w : World) (hv : RowsV w v h) (hn : h.length ≤ 1000) (hr : ∀ r, r < h.length → 1 ≤ (h.getD r []).length ∧ (h.getD r []).length ≤ 1000) :
    Calls Tryd.prog 60 #[v] w (FlatPost w h.flatten) := by
  obtain ⟨a, b, o, c, rfl, ⟨hlc, hcb⟩, ha, HC⟩ := hv.shape
  have HA := Lib.hid ha
  have HR := Lib.hid hr
  have HL := Lib.hid fun k hk => flat_len h k hk fun r h' => (hr r h').2
  clear hv ha hr
  go_enter Tryd.func60, Tryd.ntmps60
  go_wp2_with (fail)
  have H0 : Hid (IntsO 3 w.heap.size (w.alloc (.cells #[] 3)).heap.size (w.alloc (.cells #[] 3)) (.slice (some ⟨w.heap.size, 0, none⟩) 0 0) [] ∧ Grew w (w.alloc (.cells #[] 3))) :=
    ⟨by simpa using IntsO.lit 3 w.heap.size w [] #[] rfl (Nat.le_refl _) (by decide), (Grew.refl w).alloc _⟩
  go_loopg [3, 4] h.length (fun gk v i wr => ∃ k xs g c', v = .slice (some ⟨g, 0, none⟩) (List.length xs) c' ∧ i = .int .i64 ((k : Nat) : Int) ∧ k ≤ h.length ∧ h.length ≤ gk + k ∧
    Hid (IntsO 3 w.heap.size wr.heap.size wr v xs ∧ xs = (h.take k).flatten ∧ Grew w wr))
  case atStart => exact ⟨0, [], _, _, rfl, rfl, Nat.zero_le _, Nat.le_refl _, H0.out.1, rfl, H0.out.2⟩
  case round =>
    obtain ⟨k, xs, g, c', rfl, rfl, hk1, hk2, HI⟩ := hrel
    clear H0
    by_cases hlt : k < h.length
    · have hsw := HI.out.2.2.size
      obtain ⟨u, hck, hu⟩ := HC.out k hlt
      have hrl := HR.out k hlt
      have hfl := HL.out k hk1
      rw [← HI.out.2.1] at hfl
      obtain ⟨row, er⟩ : ∃ row, h.getD k [] = row := ⟨_, rfl⟩
      rw [er] at hu hrl
      have HER := Lib.hid er
      obtain rfl := HA.out (by omega)
      obtain ⟨a1, b1, o1, c1, rfl, _, ha1, HC1⟩ := (hu.grew HI.out.2.2).shape
      obtain rfl := ha1 (by omega)
      have hck' := HI.out.2.2.cell hck
      clear hck hu ha1 er
      go_wp2_with (at_builtin; refine wpList_append_ints rfl (.tmp 12) (.tmp 16) 26 rfl Tryd.underlying26 Tryd.infoI rfl rfl HC1.out HI.out.1 (by omega) (by omega) hsw ?_; intro g5 c5 w5 hO5 hW5)
      have HF := Lib.hid (And.intro hO5 hW5)
      clear hO5 hW5
      go_wp2
      go_roundg (gk - 1)
      case measure => omega
      case rel => exact ⟨k + 1, xs ++ row, g5, c5, by simp, by go_num, by omega, by omega, HF.out.1, by rw [HI.out.2.1, ← flat_snoc h k hlt, HER.out], HF.out.2.grew HI.out.2.2 (Nat.le_refl _)⟩
    · go_wp2
      go_ret
      have e := HI.out.2.1
      rw [List.take_of_length_le (by omega)] at e
      subst e
      exact ⟨_, _, rfl, HI.out.1, HI.out.2.2⟩
end Go.Proofs.YtgecghngfonejaaDoor
