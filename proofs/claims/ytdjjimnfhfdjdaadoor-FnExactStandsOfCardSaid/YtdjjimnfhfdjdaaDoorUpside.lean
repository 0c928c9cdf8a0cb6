/- The contracts of spec.upside and impl.upsideDown. -/
import Derived.Test.YtdjjimnfhfdjdaaDoorTurns
import Derived.Test.YtdjjimnfhfdjdaaDoorClone
import Derived.Test.YtdjjimnfhfdjdaaDoorBeside
namespace Go.Proofs.YtdjjimnfhfdjdaaDoor
open Go.RowKit

set_option maxRecDepth 100000 in
set_option maxHeartbeats 2000000 in
theorem upside_any (v : Value) (h : List (List Int)) (w : World) (hv : RowsV w v h) (hg : vGrid h = true) :
    Calls Tryd.prog 56 #[v] w (NewRows w (underL h)) := by
  have G := Grid.of hg
  obtain ⟨m, em⟩ : ∃ m, (h.getD 0 []).length = m := ⟨_, rfl⟩
  rw [em] at G
  have HG := Lib.hid G
  have b1 := G.n1
  have b5 := G.n5
  have c1 := G.m1
  have c5 := G.m5
  obtain ⟨a, b, o, c, rfl, ⟨hlc, hcb⟩, ha, HC⟩ := hv.shape
  obtain rfl := ha b1
  clear hv hg ha em G
  go_enter Tryd.func56, Tryd.ntmps56
  go_wp2_with (fail)
  have H0 : Hid (RowsO 25 3 w.heap.size (w.alloc (.cells #[] 25)).heap.size (w.alloc (.cells #[] 25)) (.slice (some ⟨w.heap.size, 0, none⟩) 0 0) [] ∧ Grew w (w.alloc (.cells #[] 25))) :=
    ⟨by simpa using RowsO.lit0 25 3 w.heap.size w (Nat.le_refl _), (Grew.refl w).alloc _⟩
  go_loopg [3, 4] h.length (fun gk v i wr => ∃ H g c', v = .slice (some ⟨g, 0, none⟩) (List.length H) c' ∧ i = .int .i64 ((List.length H : Nat) : Int) ∧ List.length H ≤ h.length ∧ h.length ≤ gk + List.length H ∧
    Hid (RowsO 25 3 w.heap.size wr.heap.size wr v H ∧ H = (h.take (List.length H)).map (fun row => row.map fun x => 12 - x) ∧ Grew w wr))
  case atStart => exact ⟨[], _, _, rfl, rfl, Nat.zero_le _, Nat.le_refl _, H0.out.1, rfl, H0.out.2⟩
  case round =>
    obtain ⟨H, g, c', rfl, rfl, hH1, hH2, HI⟩ := hrel
    clear H0
    by_cases hlt : H.length < h.length
    · obtain ⟨wo, rfl⟩ : ∃ wo : World, wo = wr := ⟨_, rfl⟩
      obtain ⟨gn, rfl⟩ : ∃ gn : Nat, gn = gk := ⟨_, rfl⟩
      have hsw := HI.out.2.2.size
      obtain ⟨u, hck, hu⟩ := HC.out H.length hlt
      have hrl := HG.out.len H.length hlt
      obtain ⟨row, er⟩ : ∃ row, h.getD H.length [] = row := ⟨_, rfl⟩
      have hnum := HG.out.num H.length hlt
      rw [er] at hu hrl hnum
      obtain ⟨a1, b1', o1, c1', rfl, ⟨hlc1, hcb1⟩, ha1, HC1⟩ := hu.shape
      obtain rfl := ha1 (by omega)
      have HCK := Lib.hid (HI.out.2.2.cell hck)
      have HER := Lib.hid (And.intro er (And.intro hrl hnum))
      have hrm : row.length ≤ 5 ∧ 1 ≤ row.length := by omega
      clear hck hu ha1 er hrl hnum
      go_wp2_with (fail)
      have H0 : Hid (IntsO 3 wo.heap.size (wo.alloc (.cells #[] 3)).heap.size (wo.alloc (.cells #[] 3)) (.slice (some ⟨wo.heap.size, 0, none⟩) 0 0) [] ∧ Grew wo (wo.alloc (.cells #[] 3))) :=
        ⟨by simpa using IntsO.lit 3 wo.heap.size wo [] #[] rfl (Nat.le_refl _) (by decide), (Grew.refl wo).alloc _⟩
      go_loopg [5, 6] row.length (fun gk v i wi => ∃ xs g' c', v = .slice (some ⟨g', 0, none⟩) (List.length xs) c' ∧ i = .int .i64 ((List.length xs : Nat) : Int) ∧ List.length xs ≤ row.length ∧ row.length ≤ gk + List.length xs ∧
        Hid (IntsO 3 wo.heap.size wi.heap.size wi v xs ∧ xs = (row.take (List.length xs)).map (fun x => 12 - x) ∧ Grew wo wi))
      case atStart => exact ⟨[], _, _, rfl, rfl, Nat.zero_le _, Nat.le_refl _, H0.out.1, rfl, H0.out.2⟩
      case round =>
        obtain ⟨xs, g', c2, rfl, rfl, hx1, hx2, HX⟩ := hrel
        clear H0
        have hck' := HX.out.2.2.cell HCK.out
        by_cases hltx : xs.length < row.length
        · have hel := HX.out.2.2.cell (HI.out.2.2.cell (HC1.out xs.length hltx))
          obtain ⟨y, ey⟩ : ∃ y, row.getD xs.length 0 = y := ⟨_, rfl⟩
          have hy := HER.out.2.2 xs.length (by have := HER.out.2.1; omega)
          rw [ey] at hel hy
          have HEY := Lib.hid ey
          clear ey
          go_wp2_with (at_builtin; refine wpList_append_int rfl (.tmp 24) (.tmp 33) 25 rfl Tryd.underlying25 Tryd.infoI rfl rfl rfl HX.out.1 (by omega) HX.out.2.2.size ?_; intro g5 c5 w5 hO5 hW5 hS5)
          have HF := Lib.hid (And.intro hO5 hW5)
          clear hO5 hW5
          go_wp2
          go_roundg (gk - 1)
          case measure => omega
          case rel => exact ⟨xs ++ [12 - y], g5, c5, by simp, by simp, by simp; omega, by simp; omega, HF.out.1, snoc_map 0 HX.out.2.1 hltx (by rw [HEY.out]), HF.out.2.grew HX.out.2.2 (Nat.le_refl _)⟩
        · go_wp2_with (at_builtin; refine wpList_append_row rfl (.tmp 35) (.tmp 37) 23 rfl (by decide) Tryd.underlying23 Tryd.infoIs rfl rfl rfl (HI.out.1.grew HX.out.2.2) HX.out.1 (by omega) (by have := HX.out.2.2.size; omega) hsw ?_; intro g5 c5 w5 hO5 hW5 hS5)
          have HF := Lib.hid (And.intro hO5 hW5)
          clear hO5 hW5
          go_wp2
          go_roundg (gn - 1)
          case measure => omega
          case rel => exact ⟨H ++ [xs], g5, c5, by simp, by simp, by simp; omega, by simp; omega, HF.out.1, snoc_map [] HI.out.2.1 hlt (by rw [HER.out.1, HX.out.2.1, List.take_of_length_le (by omega)]), HF.out.2.grew (HI.out.2.2.trans HX.out.2.2) (Nat.le_refl _)⟩
    · go_wp2
      go_ret
      refine ⟨_, rfl, ?_, HI.out.2.2⟩
      have := HI.out.2.1
      rw [List.take_of_length_le (by omega)] at this
      rw [underL, ← this]
      exact HI.out.1

/-- The first c turned upside down. -/
def partU (row : List Int) (c : Nat) : List Int := (List.range row.length).map fun i => if i < c then 12 - row.getD i 0 else row.getD i 0
theorem partU_len (row : List Int) (c : Nat) : (partU row c).length = row.length := by simp [partU]
theorem partU_at (row : List Int) (c i : Nat) (h : i < row.length) : (partU row c).getD i 0 = if i < c then 12 - row.getD i 0 else row.getD i 0 := by simp [partU, h]
theorem ext_getD' {f g : List Int} (hl : f.length = g.length) (h : ∀ i, i < f.length → f.getD i 0 = g.getD i 0) : f = g := by
  apply List.ext_getElem hl
  intro i h1 h2
  have := h i h1
  simpa [h1, h2] using this
theorem partU_zero (row : List Int) : partU row 0 = row := ext_getD' (partU_len _ _) fun i hi => by rw [partU_len] at hi; rw [partU_at _ _ _ hi, if_neg (Nat.not_lt_zero _)]
theorem partU_all (row : List Int) : partU row row.length = row.map fun x => 12 - x := ext_getD' (by rw [partU_len, List.length_map]) fun i hi => by
  rw [partU_len] at hi
  rw [partU_at _ _ _ hi, if_pos hi, getD_map' _ _ _ _ _ hi]
theorem partU_step (row : List Int) (c : Nat) (h : c < row.length) : (partU row c).set c (12 - row.getD c 0) = partU row (c + 1) := ext_getD' (by rw [List.length_set, partU_len, partU_len]) fun i hi => by
  rw [List.length_set, partU_len] at hi
  rw [partU_at _ _ _ hi, List.getD_eq_getElem?_getD]
  by_cases e : i = c
  · subst e
    rw [if_pos (by omega), List.getElem?_set_self (by rw [partU_len]; exact hi)]
    rfl
  · rw [List.getElem?_set_ne (fun e2 => e e2.symm), ← List.getD_eq_getElem?_getD, partU_at _ _ _ hi]
    by_cases h2 : i < c
    · rw [if_pos h2, if_pos (by omega)]
    · rw [if_neg h2, if_neg (by omega)]

set_option maxRecDepth 100000 in
set_option maxHeartbeats 2000000 in
theorem upsideDown_any (v : Value) (h : List (List Int)) (w : World) (hv : RowsV w v h) (hg : vGrid h = true) :
    Calls Tryd.prog 55 #[v] w (NewRows w (underL h)) := by
  have G := Grid.of hg
  obtain ⟨m, em⟩ : ∃ m, (h.getD 0 []).length = m := ⟨_, rfl⟩
  rw [em] at G
  have HG := Lib.hid G
  have b1 := G.n1
  have b5 := G.n5
  have c1 := G.m1
  have c5 := G.m5
  obtain ⟨a, b, o, c, rfl, ⟨hlc, hcb⟩, ha, HC⟩ := hv.shape
  obtain rfl := ha b1
  clear hv hg ha em G
  go_enter Tryd.func55, Tryd.ntmps55
  go_wp2
  go_loopg [3, 11] h.length (fun gk v i wr => ∃ H a' ln c', v = .slice a' ln c' ∧ i = .int .i64 ((ln : Nat) : Int) ∧ ln ≤ h.length ∧ h.length ≤ gk + ln ∧ ln = List.length H ∧
    Hid (RowsO 25 3 w.heap.size wr.heap.size wr v H ∧ H = (h.take (List.length H)).map (fun row => row.map fun x => 12 - x) ∧ Grew w wr))
  case atStart => exact ⟨[], none, 0, 0, rfl, rfl, Nat.zero_le _, Nat.le_refl _, rfl, RowsO.nil _ _ _ _ _, rfl, Grew.refl _⟩
  case round =>
    obtain ⟨H, a', ln, c', rfl, rfl, hH1, hH2, hHl, HI⟩ := hrel
    have HHL := Lib.hid hHl
    clear hHl
    by_cases hlt : ln < h.length
    · obtain ⟨wo, rfl⟩ : ∃ wo : World, wo = wr := ⟨_, rfl⟩
      obtain ⟨gn, rfl⟩ : ∃ gn : Nat, gn = gk := ⟨_, rfl⟩
      have hsw := HI.out.2.2.size
      obtain ⟨u, hck, hu⟩ := HC.out ln hlt
      have hrl := HG.out.len ln hlt
      obtain ⟨row, er⟩ : ∃ row, h.getD ln [] = row := ⟨_, rfl⟩
      have hnum := HG.out.num ln hlt
      rw [er] at hu hrl hnum
      obtain ⟨a1, b1', o1, c1', rfl, ⟨hlc1, hcb1⟩, ha1, HC1⟩ := hu.shape
      obtain rfl := ha1 (by omega)
      have hcr := HI.out.2.2.cell hck
      have HER := Lib.hid (And.intro er (And.intro hrl hnum))
      have hrm : row.length ≤ 5 ∧ 1 ≤ row.length := by omega
      have HCL := Lib.hid (slicesClone_any b1' o1 c1' row wo (fun i hi => HI.out.2.2.cell (HC1.out i hi)) hrm.2 (by omega))
      clear hck hu ha1 er hrl hnum HC1
      go_wp2_with (fail)
      refine HCL.out.mono ?_
      rintro e w2 ⟨g2, c2, rfl, hO2, hg2⟩
      have H2 : Hid (RowsO 25 3 w.heap.size wo.heap.size w2 (.slice a' ln c') H ∧ IntsO 3 wo.heap.size w2.heap.size w2 (.slice (some ⟨g2, 0, none⟩) row.length c2) row ∧ Grew w w2 ∧ wo.heap.size ≤ w2.heap.size) := Lib.hid ⟨HI.out.1.grew hg2, hO2, HI.out.2.2.trans hg2, hg2.size⟩
      clear hO2 hg2 HCL
      go_wp2
      go_loopg [19] row.length (fun gj i wi => ∃ k : Nat, i = .int .i64 (k : Int) ∧ k ≤ row.length ∧ row.length ≤ gj + k ∧
        Hid (RowsO 25 3 w.heap.size wo.heap.size wi (.slice a' ln c') H ∧ IntsO 3 wo.heap.size w2.heap.size wi (.slice (some ⟨g2, 0, none⟩) row.length c2) (partU row k) ∧ Grew w wi ∧ w2.heap.size ≤ wi.heap.size))
      case atStart => exact ⟨0, rfl, Nat.zero_le _, Nat.le_refl _, H2.out.1, by rw [partU_zero]; exact H2.out.2.1, H2.out.2.2.1, Nat.le_refl _⟩
      case round =>
        obtain ⟨k, rfl, hk1, hk2, HX⟩ := hrel
        by_cases hlk : k < row.length
        · obtain ⟨hcx, hfx⟩ := HX.out.2.1.at rfl (i := k) (by rw [partU_len]; exact hlk)
          rw [partU_at _ _ _ hlk, if_neg (Nat.lt_irrefl _)] at hcx
          have hy := HER.out.2.2 k (by have := HER.out.2.1; omega)
          have hst := partU_step row k hlk
          obtain ⟨y, ey⟩ : ∃ y, row.getD k 0 = y := ⟨_, rfl⟩
          rw [ey] at hcx hy hst
          have hgb := HX.out.2.1.blk
          have HF : Hid (RowsO 25 3 w.heap.size wo.heap.size (wr.setCell ⟨g2, k, none⟩ (.int .i64 (12 - y))) (.slice a' ln c') H ∧ IntsO 3 wo.heap.size w2.heap.size (wr.setCell ⟨g2, k, none⟩ (.int .i64 (12 - y))) (.slice (some ⟨g2, 0, none⟩) row.length c2) (partU row (k + 1)) ∧ Grew w (wr.setCell ⟨g2, k, none⟩ (.int .i64 (12 - y))) ∧ w2.heap.size ≤ (wr.setCell ⟨g2, k, none⟩ (.int .i64 (12 - y))).heap.size) := by
            have hwi : Within wo.heap.size w2.heap.size wr (wr.setCell ⟨g2, k, none⟩ (.int .i64 (12 - y))) := (Within.refl _ _ _).setCell (p := ⟨g2, k, none⟩) hgb.1 hgb.2 _
            refine Lib.hid ⟨HX.out.1.within hwi (.inl (Nat.le_refl _)), ?_, Within.grew HX.out.2.2.1 hwi hsw, by simpa using HX.out.2.2.2⟩
            rw [← hst]
            exact HX.out.2.1.set rfl k (12 - y)
          clear hst ey HX
          go_wp2
          go_roundg (gk - 1)
          case measure => omega
          case rel => exact ⟨k + 1, by go_num, by omega, by omega, HF.out⟩
        · obtain rfl : k = row.length := by omega
          have hlen : H.length = ln := HHL.out.symm
          have HLEN := Lib.hid hlen
          have HX2 : Hid (RowsO 25 3 w.heap.size wo.heap.size wr (.slice a' ln c') H ∧ IntsO 3 wo.heap.size w2.heap.size wr (.slice (some ⟨g2, 0, none⟩) row.length c2) (row.map fun x => 12 - x) ∧ Grew w wr ∧ w2.heap.size ≤ wr.heap.size) := by
            have := HX.out
            rw [partU_all] at this
            exact Lib.hid this
          have HSZ := Lib.hid H2.out.2.2.2
          clear HX hlen
          go_wp2_with (at_builtin; refine wpList_append_row rfl (.tmp 30) (.tmp 32) 23 rfl (by decide) Tryd.underlying23 Tryd.infoIs rfl rfl rfl HX2.out.1 (HX2.out.2.1.wide (Nat.le_refl _) HX2.out.2.2.2) (by rw [HLEN.out]; omega) (by have := HX2.out.2.2.1.size; omega) hsw ?_; intro g5 c5 w5 hO5 hW5 hS5; rw [HLEN.out] at hO5 ⊢)
          have HF := Lib.hid (And.intro hO5 hW5)
          clear hO5 hW5
          go_wp2
          go_roundg (gn - 1)
          case measure => omega
          case rel =>
            refine ⟨H ++ [row.map fun x => 12 - x], _, ln + 1, c5, rfl, by go_num, by omega, by omega, by simp [HLEN.out], HF.out.1, ?_, HF.out.2.grew HX2.out.2.2.1 (Nat.le_refl _)⟩
            exact snoc_map [] HI.out.2.1 (by rw [HLEN.out]; exact hlt) (by rw [HLEN.out, HER.out.1])
    · go_wp2
      go_ret
      refine ⟨_, rfl, ?_, HI.out.2.2⟩
      have := HI.out.2.1
      rw [List.take_of_length_le (by rw [← HHL.out]; omega)] at this
      rw [underL, ← this]
      exact HI.out.1
end Go.Proofs.YtdjjimnfhfdjdaaDoor
