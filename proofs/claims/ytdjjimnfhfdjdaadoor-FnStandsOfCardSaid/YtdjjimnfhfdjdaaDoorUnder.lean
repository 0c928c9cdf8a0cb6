/- The contract of laws.under. -/
import Derived.Test.YtdjjimnfhfdjdaaDoorTurns
namespace Go.Proofs.YtdjjimnfhfdjdaaDoor
open Go.RowKit

set_option maxRecDepth 100000 in
set_option maxHeartbeats 2000000 in
theorem under_any (v : Value) (h : List (List Int)) (w : World) (hv : RowsV w v h) (hg : vGrid h = true) :
    Calls Tryd.prog 19 #[v] w (NewRows w (underL h)) := by
  have G := Grid.of hg
  obtain ⟨m, em⟩ : ∃ m, (h.getD 0 []).length = m := ⟨_, rfl⟩
  rw [em] at G
  have HG := Lib.hid G
  have b1 := G.n1
  have b5 := G.n5
  have c1 := G.m1
  have c5 := G.m5
  obtain ⟨a, b, o, c, rfl, ⟨hlc, hcb⟩, ha, HC⟩ := hv.shape
  obtain rfl := ha b1
  clear hv hg ha em G
  go_enter Tryd.func19, Tryd.ntmps19
  go_wp2_with (fail)
  have H0 : Hid (RowsO 25 3 w.heap.size (w.alloc (.cells #[] 25)).heap.size (w.alloc (.cells #[] 25)) (.slice (some ⟨w.heap.size, 0, none⟩) 0 0) [] ∧ Grew w (w.alloc (.cells #[] 25))) :=
    ⟨by simpa using RowsO.lit0 25 3 w.heap.size w (Nat.le_refl _), (Grew.refl w).alloc _⟩
  go_loopg [3, 4] h.length (fun gk v i wr => ∃ H g c', v = .slice (some ⟨g, 0, none⟩) (List.length H) c' ∧ i = .int .i64 ((List.length H : Nat) : Int) ∧ List.length H ≤ h.length ∧ h.length ≤ gk + List.length H ∧
    Hid (RowsO 25 3 w.heap.size wr.heap.size wr v H ∧ H = (h.take (List.length H)).map (fun row => row.map fun x => 12 - x) ∧ Grew w wr))
  case atStart => exact ⟨[], _, _, rfl, rfl, Nat.zero_le _, Nat.le_refl _, H0.out.1, rfl, H0.out.2⟩
  case round =>
    obtain ⟨H, g, c', rfl, rfl, hH1, hH2, HI⟩ := hrel
    clear H0
    by_cases hlt : H.length < h.length
    · obtain ⟨wo, rfl⟩ : ∃ wo : World, wo = wr := ⟨_, rfl⟩
      obtain ⟨gn, rfl⟩ : ∃ gn : Nat, gn = gk := ⟨_, rfl⟩
      have hsw := HI.out.2.2.size
      obtain ⟨u, hck, hu⟩ := HC.out H.length hlt
      have hrl := HG.out.len H.length hlt
      obtain ⟨row, er⟩ : ∃ row, h.getD H.length [] = row := ⟨_, rfl⟩
      have hnum := HG.out.num H.length hlt
      rw [er] at hu hrl hnum
      obtain ⟨a1, b1', o1, c1', rfl, ⟨hlc1, hcb1⟩, ha1, HC1⟩ := hu.shape
      obtain rfl := ha1 (by omega)
      have HCK := Lib.hid (HI.out.2.2.cell hck)
      have HER := Lib.hid (And.intro er (And.intro hrl hnum))
      have hrm : row.length ≤ 5 ∧ 1 ≤ row.length := by omega
      clear hck hu ha1 er hrl hnum
      go_wp2_with (fail)
      have H0 : Hid (IntsO 3 wo.heap.size (wo.alloc (.cells #[] 3)).heap.size (wo.alloc (.cells #[] 3)) (.slice (some ⟨wo.heap.size, 0, none⟩) 0 0) [] ∧ Grew wo (wo.alloc (.cells #[] 3))) :=
        ⟨by simpa using IntsO.lit 3 wo.heap.size wo [] #[] rfl (Nat.le_refl _) (by decide), (Grew.refl wo).alloc _⟩
      go_loopg [5, 6] row.length (fun gk v i wi => ∃ xs g' c', v = .slice (some ⟨g', 0, none⟩) (List.length xs) c' ∧ i = .int .i64 ((List.length xs : Nat) : Int) ∧ List.length xs ≤ row.length ∧ row.length ≤ gk + List.length xs ∧
        Hid (IntsO 3 wo.heap.size wi.heap.size wi v xs ∧ xs = (row.take (List.length xs)).map (fun x => 12 - x) ∧ Grew wo wi))
      case atStart => exact ⟨[], _, _, rfl, rfl, Nat.zero_le _, Nat.le_refl _, H0.out.1, rfl, H0.out.2⟩
      case round =>
        obtain ⟨xs, g', c2, rfl, rfl, hx1, hx2, HX⟩ := hrel
        clear H0
        have hck' := HX.out.2.2.cell HCK.out
        by_cases hltx : xs.length < row.length
        · have hel := HX.out.2.2.cell (HI.out.2.2.cell (HC1.out xs.length hltx))
          obtain ⟨y, ey⟩ : ∃ y, row.getD xs.length 0 = y := ⟨_, rfl⟩
          have hy := HER.out.2.2 xs.length (by have := HER.out.2.1; omega)
          rw [ey] at hel hy
          have HEY := Lib.hid ey
          clear ey
          go_wp2_with (at_builtin; refine wpList_append_int rfl (.tmp 24) (.tmp 33) 25 rfl Tryd.underlying25 Tryd.infoI rfl rfl rfl HX.out.1 (by omega) HX.out.2.2.size ?_; intro g5 c5 w5 hO5 hW5 hS5)
          have HF := Lib.hid (And.intro hO5 hW5)
          clear hO5 hW5
          go_wp2
          go_roundg (gk - 1)
          case measure => omega
          case rel => exact ⟨xs ++ [12 - y], g5, c5, by simp, by simp, by simp; omega, by simp; omega, HF.out.1, snoc_map 0 HX.out.2.1 hltx (by rw [HEY.out]), HF.out.2.grew HX.out.2.2 (Nat.le_refl _)⟩
        · go_wp2_with (at_builtin; refine wpList_append_row rfl (.tmp 35) (.tmp 37) 23 rfl (by decide) Tryd.underlying23 Tryd.infoIs rfl rfl rfl (HI.out.1.grew HX.out.2.2) HX.out.1 (by omega) (by have := HX.out.2.2.size; omega) hsw ?_; intro g5 c5 w5 hO5 hW5 hS5)
          have HF := Lib.hid (And.intro hO5 hW5)
          clear hO5 hW5
          go_wp2
          go_roundg (gn - 1)
          case measure => omega
          case rel => exact ⟨H ++ [xs], g5, c5, by simp, by simp, by simp; omega, by simp; omega, HF.out.1, snoc_map [] HI.out.2.1 hlt (by rw [HER.out.1, HX.out.2.1, List.take_of_length_le (by omega)]), HF.out.2.grew (HI.out.2.2.trans HX.out.2.2) (Nat.le_refl _)⟩
    · go_wp2
      go_ret
      refine ⟨_, rfl, ?_, HI.out.2.2⟩
      have := HI.out.2.1
      rw [List.take_of_length_le (by omega)] at this
      rw [underL, ← this]
      exact HI.out.1
end Go.Proofs.YtdjjimnfhfdjdaaDoor
