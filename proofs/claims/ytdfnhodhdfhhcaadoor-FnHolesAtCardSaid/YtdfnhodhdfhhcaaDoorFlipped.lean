/- The contract of laws.flipped. -/
import Derived.Test.YtdfnhodhdfhhcaaDoorTurns
namespace Go.Proofs.YtdfnhodhdfhhcaaDoor
open Go.RowKit

set_option maxRecDepth 100000 in
set_option maxHeartbeats 2000000 in
theorem flipped_any (v : Value) (h : List (List Int)) (w : World) (hv : RowsV w v h) (hg : vGrid h = true) :
    Calls Tryd.prog 27 #[v] w (NewRows w (flipL h)) := by
  have G := Grid.of hg
  obtain ⟨m, em⟩ : ∃ m, (h.getD 0 []).length = m := ⟨_, rfl⟩
  rw [em] at G
  have HM := Lib.hid em
  have HG := Lib.hid G
  have b1 := G.n1
  have b5 := G.n5
  have c1 := G.m1
  have c5 := G.m5
  obtain ⟨a, b, o, c, rfl, ⟨hlc, hcb⟩, ha, HC⟩ := hv.shape
  obtain rfl := ha b1
  obtain ⟨u0, hc0, hu0⟩ := HC.out 0 b1
  rw [Nat.add_zero] at hc0
  obtain ⟨a0, b0, o0, c0, rfl, ⟨hlc0, hcb0⟩, _, _⟩ := hu0.shape
  rw [em] at hc0
  have HC0 := Lib.hid hc0
  have hi0 : (0 : Int) < h.length := by omega
  clear hv hg ha em G hu0 hlc0
  go_enter Tryd.func27, Tryd.ntmps27
  go_wp2_with (fail)
  have H0 : Hid (RowsO 29 3 w.heap.size (w.alloc (.cells #[] 29)).heap.size (w.alloc (.cells #[] 29)) (.slice (some ⟨w.heap.size, 0, none⟩) 0 0) [] ∧ Grew w (w.alloc (.cells #[] 29))) :=
    ⟨by simpa using RowsO.lit0 29 3 w.heap.size w (Nat.le_refl _), (Grew.refl w).alloc _⟩
  go_loopg [3, 4] m (fun gk v i wr => ∃ H g c', v = .slice (some ⟨g, 0, none⟩) (List.length H) c' ∧ i = .int .i64 ((List.length H : Nat) : Int) ∧ List.length H ≤ m ∧ m ≤ gk + List.length H ∧
    Hid (RowsO 29 3 w.heap.size wr.heap.size wr v H ∧ H = (flipL h).take (List.length H) ∧ Grew w wr))
  case atStart => exact ⟨[], _, _, rfl, rfl, Nat.zero_le _, Nat.le_refl _, H0.out.1, rfl, H0.out.2⟩
  case round =>
    obtain ⟨H, g, c', rfl, rfl, hH1, hH2, HI⟩ := hrel
    clear H0 hc0
    have hc0 := HI.out.2.2.cell HC0.out
    by_cases hlt : H.length < m
    · obtain ⟨wo, rfl⟩ : ∃ wo : World, wo = wr := ⟨_, rfl⟩
      obtain ⟨gn, rfl⟩ : ∃ gn : Nat, gn = gk := ⟨_, rfl⟩
      have hsw := HI.out.2.2.size
      have hd : decide ((H.length : Int) < (m : Int)) = true := by simp; omega
      go_wp2_with (fail)
      have H0 : Hid (IntsO 3 wo.heap.size (wo.alloc (.cells #[] 3)).heap.size (wo.alloc (.cells #[] 3)) (.slice (some ⟨wo.heap.size, 0, none⟩) 0 0) [] ∧ Grew wo (wo.alloc (.cells #[] 3))) :=
        ⟨by simpa using IntsO.lit 3 wo.heap.size wo [] #[] rfl (Nat.le_refl _) (by decide), (Grew.refl wo).alloc _⟩
      go_loopg [5, 6] h.length (fun gk v i wi => ∃ xs g' c', v = .slice (some ⟨g', 0, none⟩) (List.length xs) c' ∧ i = .int .i64 ((List.length xs : Nat) : Int) ∧ List.length xs ≤ h.length ∧ h.length ≤ gk + List.length xs ∧
        Hid (IntsO 3 wo.heap.size wi.heap.size wi v xs ∧ xs = (h.take (List.length xs)).map (fun row => row.getD H.length 0) ∧ Grew wo wi))
      case atStart => exact ⟨[], _, _, rfl, rfl, Nat.zero_le _, Nat.le_refl _, H0.out.1, rfl, H0.out.2⟩
      case round =>
        obtain ⟨xs, g', c2, rfl, rfl, hx1, hx2, HX⟩ := hrel
        clear H0 hc0
        by_cases hltx : xs.length < h.length
        · obtain ⟨u, hck, hu⟩ := HC.out xs.length hltx
          have hck' := HX.out.2.2.cell (HI.out.2.2.cell hck)
          have hrl := HG.out.len xs.length hltx
          obtain ⟨row, er⟩ : ∃ row, h.getD xs.length [] = row := ⟨_, rfl⟩
          rw [er] at hu hrl
          obtain ⟨a1, b1', o1, c1', rfl, ⟨hlc1, hcb1⟩, ha1, HC1⟩ := hu.shape
          obtain rfl := ha1 (by omega)
          have hel := HX.out.2.2.cell (HI.out.2.2.cell (HC1.out H.length (by omega)))
          have HER := Lib.hid (And.intro er hrl)
          have hrl2 : H.length < row.length := by omega
          obtain ⟨y, ey⟩ : ∃ y, row.getD H.length 0 = y := ⟨_, rfl⟩
          rw [ey] at hel
          have HEY := Lib.hid ey
          clear hck hu ha1 er hrl ey
          go_wp2_with (at_builtin; refine wpList_append_int rfl (.tmp 23) (.tmp 31) 29 rfl Tryd.underlying29 Tryd.infoI rfl rfl rfl HX.out.1 (by omega) HX.out.2.2.size ?_; intro g5 c5 w5 hO5 hW5 hS5)
          have HF := Lib.hid (And.intro hO5 hW5)
          clear hO5 hW5
          go_wp2
          go_roundg (gk - 1)
          case measure => omega
          case rel => exact ⟨xs ++ [y], g5, c5, by simp, by simp, by simp; omega, by simp; omega, HF.out.1, snoc_map [] HX.out.2.1 hltx (by rw [HER.out.1, HEY.out]), HF.out.2.grew HX.out.2.2 (Nat.le_refl _)⟩
        · go_wp2_with (at_builtin; refine wpList_append_row rfl (.tmp 33) (.tmp 35) 23 rfl (by decide) Tryd.underlying23 Tryd.infoIs rfl rfl rfl (HI.out.1.grew HX.out.2.2) HX.out.1 (by omega) (by have := HX.out.2.2.size; omega) hsw ?_; intro g5 c5 w5 hO5 hW5 hS5)
          have HF := Lib.hid (And.intro hO5 hW5)
          clear hO5 hW5
          go_wp2
          go_roundg (gn - 1)
          case measure => omega
          case rel => exact ⟨H ++ [xs], g5, c5, by simp, by simp, by simp; omega, by simp; omega, HF.out.1, snoc_take [] HI.out.2.1 (by rw [flipL_len HM.out]; exact hlt) (by rw [flipL_at HM.out _ hlt, HX.out.2.1, List.take_of_length_le (by omega)]), HF.out.2.grew (HI.out.2.2.trans HX.out.2.2) (Nat.le_refl _)⟩
    · go_wp2
      go_ret
      refine ⟨_, rfl, ?_, HI.out.2.2⟩
      have := HI.out.2.1
      rw [List.take_of_length_le (by rw [flipL_len HM.out]; omega)] at this
      rw [← this]
      exact HI.out.1

end Go.Proofs.YtdfnhodhdfhhcaaDoor
