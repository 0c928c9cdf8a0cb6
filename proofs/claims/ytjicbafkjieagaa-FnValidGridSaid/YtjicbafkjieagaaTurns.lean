/- The contracts of laws.flipped and laws.under. -/
import Derived.Test.YtjicbafkjieagaaGrid
import Derived.Test.YtjicbafkjieagaaOwn
namespace Go.Proofs.Ytjicbafkjieagaa
open Go.RowKit

theorem Try.infoI : (Try.prog.info? 3).map (fun i => (i.zero, i.size, i.bytes)) = some (some (.int .i64 0), 1, 8) := by kernel_rfl
theorem Try.infoIs : (Try.prog.info? 33).map (fun i => (i.zero, i.size, i.bytes)) = some (some (.slice none 0 0), 1, 24) := by kernel_rfl

/-- What it is to be a grid. -/
structure Grid (h : List (List Int)) (m : Nat) : Prop where
  n1 : 1 ≤ h.length
  n5 : h.length ≤ 5
  m1 : 1 ≤ m
  m5 : m ≤ 5
  len : ∀ r, r < h.length → (h.getD r []).length = m
  num : ∀ r, r < h.length → ∀ c, c < m → 0 ≤ (h.getD r []).getD c 0 ∧ (h.getD r []).getD c 0 ≤ 12
theorem all_get {α : Type} {p : α → Bool} {xs : List α} (d : α) (h : xs.all p = true) (k : Nat) (hk : k < xs.length) : p (xs.getD k d) = true := by
  have := List.all_eq_true.1 h xs[k] (List.getElem_mem hk)
  simpa [hk] using this
theorem all_of_get {α : Type} {p : α → Bool} {xs : List α} (d : α) (h : ∀ k, k < xs.length → p (xs.getD k d) = true) : xs.all p = true := by
  rw [List.all_eq_true]
  intro x hx
  obtain ⟨k, hk, rfl⟩ := List.getElem_of_mem hx
  have := h k hk
  simpa [hk] using this
theorem Grid.of {h : List (List Int)} (hv : vGrid h = true) : Grid h (h.getD 0 []).length := by
  simp only [vGrid, Bool.and_eq_true, decide_eq_true_eq] at hv
  obtain ⟨⟨h1, h5⟩, ha⟩ := hv
  have hr := fun r hr => all_get [] ha r hr
  simp only [Bool.and_eq_true, decide_eq_true_eq, vRow] at hr
  have h0 := hr 0 (by omega)
  refine ⟨h1, h5, h0.2.1.1, h0.2.1.2, fun r hl => (hr r hl).1, fun r hl c hc => ?_⟩
  have := all_get 0 (hr r hl).2.2 c (by rw [(hr r hl).1]; exact hc)
  simpa [okH] using this
theorem Grid.to {h : List (List Int)} {m : Nat} (g : Grid h m) : vGrid h = true := by
  simp only [vGrid, Bool.and_eq_true, decide_eq_true_eq]
  refine ⟨⟨g.n1, g.n5⟩, all_of_get [] fun r hr => ?_⟩
  have h0 := g.len 0 g.n1
  simp only [vRow, Bool.and_eq_true, decide_eq_true_eq]
  refine ⟨by rw [g.len r hr, h0], ⟨by rw [g.len r hr]; exact g.m1, by rw [g.len r hr]; exact g.m5⟩, all_of_get 0 fun c hc => ?_⟩
  rw [g.len r hr] at hc
  have := g.num r hr c hc
  simp only [okH, Bool.and_eq_true, decide_eq_true_eq]
  exact this

/-- Rows as columns. -/
def flipL (h : List (List Int)) : List (List Int) := (List.range (h.getD 0 []).length).map fun c => h.map fun row => row.getD c 0
/-- Upside down. -/
def underL (h : List (List Int)) : List (List Int) := h.map fun row => row.map fun x => 12 - x
theorem getD_map' {α β : Type} (f : α → β) (l : List α) (i : Nat) (d : α) (e : β) (h : i < l.length) : (l.map f).getD i e = f (l.getD i d) := by simp [h]
theorem getD_range' (n i : Nat) (d : Nat) (h : i < n) : (List.range n).getD i d = i := by simp [h]
theorem flip_grid {h : List (List Int)} {m : Nat} (g : Grid h m) : Grid (flipL h) h.length := by
  have h0 := g.len 0 g.n1
  have hl : (flipL h).length = m := by simp [flipL]; simpa using h0
  have hr : ∀ r, r < m → (flipL h).getD r [] = h.map fun row => row.getD r 0 := fun r hr => by
    unfold flipL
    rw [getD_map' _ _ r 0 [] (by simpa [← h0] using hr), getD_range' _ _ _ (by rw [h0]; exact hr)]
  refine ⟨by rw [hl]; exact g.m1, by rw [hl]; exact g.m5, g.n1, g.n5, fun r hlt => ?_, fun r hlt c hc => ?_⟩
  · rw [hr r (by rwa [hl] at hlt), List.length_map]
  · rw [hl] at hlt
    rw [hr r hlt, getD_map' _ _ c [] 0 hc]
    exact g.num c hc r hlt
theorem under_grid {h : List (List Int)} {m : Nat} (g : Grid h m) : Grid (underL h) m := by
  have hl : (underL h).length = h.length := by simp [underL]
  have hr : ∀ r, r < h.length → (underL h).getD r [] = (h.getD r []).map fun x => 12 - x := fun r hr => by
    unfold underL
    rw [getD_map' _ _ r [] [] hr]
  refine ⟨by rw [hl]; exact g.n1, by rw [hl]; exact g.n5, g.m1, g.m5, fun r hlt => ?_, fun r hlt c hc => ?_⟩
  · rw [hl] at hlt; rw [hr r hlt, List.length_map]; exact g.len r hlt
  · rw [hl] at hlt
    rw [hr r hlt, getD_map' _ _ c 0 0 (by rw [g.len r hlt]; exact hc)]
    have := g.num r hlt c hc
    omega

theorem snoc_map {α β : Type} {f : α → β} {l : List α} {xs : List β} {y : β} (d : α) (h : xs = (l.take xs.length).map f) (hl : xs.length < l.length) (hy : y = f (l.getD xs.length d)) : xs ++ [y] = (l.take (xs ++ [y]).length).map f := by
  rw [List.length_append, List.length_singleton, List.take_succ_eq_append_getElem hl, List.map_append, ← h, hy]
  simp [hl]
theorem snoc_take {α : Type} {l : List α} {xs : List α} {y : α} (d : α) (h : xs = l.take xs.length) (hl : xs.length < l.length) (hy : y = l.getD xs.length d) : xs ++ [y] = l.take (xs ++ [y]).length := by
  rw [List.length_append, List.length_singleton, List.take_succ_eq_append_getElem hl, ← h, hy]
  simp [hl]
theorem flipL_len {h : List (List Int)} {m : Nat} (e : (h.getD 0 []).length = m) : (flipL h).length = m := by simp [flipL]; simpa using e
theorem flipL_at {h : List (List Int)} {m : Nat} (e : (h.getD 0 []).length = m) (r : Nat) (hr : r < m) : (flipL h).getD r [] = h.map fun row => row.getD r 0 := by
  unfold flipL
  rw [getD_map' _ _ r 0 [] (by simpa [← e] using hr), getD_range' _ _ _ (by rw [e]; exact hr)]
def NewRows (w : World) (H : List (List Int)) (e : Ending) (w' : World) : Prop := ∃ v, e = .returned v ∧ RowsO 33 3 w.heap.size w'.heap.size w' v H ∧ Grew w w'

set_option maxHeartbeats 2000000 in
theorem flipped_any (v : Value) (h : List (List Int)) (w : World) (hv : RowsV w v h) (hg : vGrid h = true) :
    Calls Try.prog 8 #[v] w (NewRows w (flipL h)) := by
  have G := Grid.of hg
  obtain ⟨m, em⟩ : ∃ m, (h.getD 0 []).length = m := ⟨_, rfl⟩
  rw [em] at G
  have HM := Lib.hid em
  have HG := Lib.hid G
  have b1 := G.n1
  have b5 := G.n5
  have c1 := G.m1
  have c5 := G.m5
  obtain ⟨a, b, o, c, rfl, ⟨hlc, hcb⟩, ha, HC⟩ := hv.shape
  obtain rfl := ha b1
  obtain ⟨u0, hc0, hu0⟩ := HC.out 0 b1
  rw [Nat.add_zero] at hc0
  obtain ⟨a0, b0, o0, c0, rfl, ⟨hlc0, hcb0⟩, _, _⟩ := hu0.shape
  rw [em] at hc0
  have HC0 := Lib.hid hc0
  have hi0 : (0 : Int) < h.length := by omega
  clear hv hg ha em G hu0 hlc0
  go_enter Try.func8, Try.ntmps8
  go_wp2_with (fail)
  have H0 : Hid (RowsO 33 3 w.heap.size (w.alloc (.cells #[] 33)).heap.size (w.alloc (.cells #[] 33)) (.slice (some ⟨w.heap.size, 0, none⟩) 0 0) [] ∧ Grew w (w.alloc (.cells #[] 33))) :=
    ⟨by simpa using RowsO.lit0 33 3 w.heap.size w (Nat.le_refl _), (Grew.refl w).alloc _⟩
  go_loopg [3, 4] m (fun gk v i wr => ∃ H g c', v = .slice (some ⟨g, 0, none⟩) (List.length H) c' ∧ i = .int .i64 ((List.length H : Nat) : Int) ∧ List.length H ≤ m ∧ m ≤ gk + List.length H ∧
    Hid (RowsO 33 3 w.heap.size wr.heap.size wr v H ∧ H = (flipL h).take (List.length H) ∧ Grew w wr))
  case atStart => exact ⟨[], _, _, rfl, rfl, Nat.zero_le _, Nat.le_refl _, H0.out.1, rfl, H0.out.2⟩
  case round =>
    obtain ⟨H, g, c', rfl, rfl, hH1, hH2, HI⟩ := hrel
    clear H0 hc0
    have hc0 := HI.out.2.2.cell HC0.out
    by_cases hlt : H.length < m
    · obtain ⟨wo, rfl⟩ : ∃ wo : World, wo = wr := ⟨_, rfl⟩
      obtain ⟨gn, rfl⟩ : ∃ gn : Nat, gn = gk := ⟨_, rfl⟩
      have hsw := HI.out.2.2.size
      have hd : decide ((H.length : Int) < (m : Int)) = true := by simp; omega
      go_wp2_with (fail)
      have H0 : Hid (IntsO 3 wo.heap.size (wo.alloc (.cells #[] 3)).heap.size (wo.alloc (.cells #[] 3)) (.slice (some ⟨wo.heap.size, 0, none⟩) 0 0) [] ∧ Grew wo (wo.alloc (.cells #[] 3))) :=
        ⟨by simpa using IntsO.lit 3 wo.heap.size wo [] #[] rfl (Nat.le_refl _) (by decide), (Grew.refl wo).alloc _⟩
      go_loopg [5, 6] h.length (fun gk v i wi => ∃ xs g' c', v = .slice (some ⟨g', 0, none⟩) (List.length xs) c' ∧ i = .int .i64 ((List.length xs : Nat) : Int) ∧ List.length xs ≤ h.length ∧ h.length ≤ gk + List.length xs ∧
        Hid (IntsO 3 wo.heap.size wi.heap.size wi v xs ∧ xs = (h.take (List.length xs)).map (fun row => row.getD H.length 0) ∧ Grew wo wi))
      case atStart => exact ⟨[], _, _, rfl, rfl, Nat.zero_le _, Nat.le_refl _, H0.out.1, rfl, H0.out.2⟩
      case round =>
        obtain ⟨xs, g', c2, rfl, rfl, hx1, hx2, HX⟩ := hrel
        clear H0 hc0
        by_cases hltx : xs.length < h.length
        · obtain ⟨u, hck, hu⟩ := HC.out xs.length hltx
          have hck' := HX.out.2.2.cell (HI.out.2.2.cell hck)
          have hrl := HG.out.len xs.length hltx
          obtain ⟨row, er⟩ : ∃ row, h.getD xs.length [] = row := ⟨_, rfl⟩
          rw [er] at hu hrl
          obtain ⟨a1, b1', o1, c1', rfl, ⟨hlc1, hcb1⟩, ha1, HC1⟩ := hu.shape
          obtain rfl := ha1 (by omega)
          have hel := HX.out.2.2.cell (HI.out.2.2.cell (HC1.out H.length (by omega)))
          have HER := Lib.hid (And.intro er hrl)
          have hrl2 : H.length < row.length := by omega
          obtain ⟨y, ey⟩ : ∃ y, row.getD H.length 0 = y := ⟨_, rfl⟩
          rw [ey] at hel
          have HEY := Lib.hid ey
          clear hck hu ha1 er hrl ey
          go_wp2_with (at_builtin; refine wpList_append_int rfl (.tmp 23) (.tmp 31) 33 rfl Try.underlying33 Try.infoI rfl rfl rfl HX.out.1 (by omega) HX.out.2.2.size ?_; intro g5 c5 w5 hO5 hW5 hS5)
          have HF := Lib.hid (And.intro hO5 hW5)
          clear hO5 hW5
          go_wp2
          go_roundg (gk - 1)
          case measure => omega
          case rel => exact ⟨xs ++ [y], g5, c5, by simp, by simp, by simp; omega, by simp; omega, HF.out.1, snoc_map [] HX.out.2.1 hltx (by rw [HER.out.1, HEY.out]), HF.out.2.grew HX.out.2.2 (Nat.le_refl _)⟩
        · go_wp2_with (at_builtin; refine wpList_append_row rfl (.tmp 33) (.tmp 35) 23 rfl (by decide) Try.underlying23 Try.infoIs rfl rfl rfl (HI.out.1.grew HX.out.2.2) HX.out.1 (by omega) (by have := HX.out.2.2.size; omega) hsw ?_; intro g5 c5 w5 hO5 hW5 hS5)
          have HF := Lib.hid (And.intro hO5 hW5)
          clear hO5 hW5
          go_wp2
          go_roundg (gn - 1)
          case measure => omega
          case rel => exact ⟨H ++ [xs], g5, c5, by simp, by simp, by simp; omega, by simp; omega, HF.out.1, snoc_take [] HI.out.2.1 (by rw [flipL_len HM.out]; exact hlt) (by rw [flipL_at HM.out _ hlt, HX.out.2.1, List.take_of_length_le (by omega)]), HF.out.2.grew (HI.out.2.2.trans HX.out.2.2) (Nat.le_refl _)⟩
    · go_wp2
      go_ret
      refine ⟨_, rfl, ?_, HI.out.2.2⟩
      have := HI.out.2.1
      rw [List.take_of_length_le (by rw [flipL_len HM.out]; omega)] at this
      rw [← this]
      exact HI.out.1

set_option maxHeartbeats 2000000 in
theorem under_any (v : Value) (h : List (List Int)) (w : World) (hv : RowsV w v h) (hg : vGrid h = true) :
    Calls Try.prog 9 #[v] w (NewRows w (underL h)) := by
  have G := Grid.of hg
  obtain ⟨m, em⟩ : ∃ m, (h.getD 0 []).length = m := ⟨_, rfl⟩
  rw [em] at G
  have HG := Lib.hid G
  have b1 := G.n1
  have b5 := G.n5
  have c1 := G.m1
  have c5 := G.m5
  obtain ⟨a, b, o, c, rfl, ⟨hlc, hcb⟩, ha, HC⟩ := hv.shape
  obtain rfl := ha b1
  clear hv hg ha em G
  go_enter Try.func9, Try.ntmps9
  go_wp2_with (fail)
  have H0 : Hid (RowsO 33 3 w.heap.size (w.alloc (.cells #[] 33)).heap.size (w.alloc (.cells #[] 33)) (.slice (some ⟨w.heap.size, 0, none⟩) 0 0) [] ∧ Grew w (w.alloc (.cells #[] 33))) :=
    ⟨by simpa using RowsO.lit0 33 3 w.heap.size w (Nat.le_refl _), (Grew.refl w).alloc _⟩
  go_loopg [3, 4] h.length (fun gk v i wr => ∃ H g c', v = .slice (some ⟨g, 0, none⟩) (List.length H) c' ∧ i = .int .i64 ((List.length H : Nat) : Int) ∧ List.length H ≤ h.length ∧ h.length ≤ gk + List.length H ∧
    Hid (RowsO 33 3 w.heap.size wr.heap.size wr v H ∧ H = (h.take (List.length H)).map (fun row => row.map fun x => 12 - x) ∧ Grew w wr))
  case atStart => exact ⟨[], _, _, rfl, rfl, Nat.zero_le _, Nat.le_refl _, H0.out.1, rfl, H0.out.2⟩
  case round =>
    obtain ⟨H, g, c', rfl, rfl, hH1, hH2, HI⟩ := hrel
    clear H0
    by_cases hlt : H.length < h.length
    · obtain ⟨wo, rfl⟩ : ∃ wo : World, wo = wr := ⟨_, rfl⟩
      obtain ⟨gn, rfl⟩ : ∃ gn : Nat, gn = gk := ⟨_, rfl⟩
      have hsw := HI.out.2.2.size
      obtain ⟨u, hck, hu⟩ := HC.out H.length hlt
      have hrl := HG.out.len H.length hlt
      obtain ⟨row, er⟩ : ∃ row, h.getD H.length [] = row := ⟨_, rfl⟩
      have hnum := HG.out.num H.length hlt
      rw [er] at hu hrl hnum
      obtain ⟨a1, b1', o1, c1', rfl, ⟨hlc1, hcb1⟩, ha1, HC1⟩ := hu.shape
      obtain rfl := ha1 (by omega)
      have HCK := Lib.hid (HI.out.2.2.cell hck)
      have HER := Lib.hid (And.intro er (And.intro hrl hnum))
      have hrm : row.length ≤ 5 ∧ 1 ≤ row.length := by omega
      clear hck hu ha1 er hrl hnum
      go_wp2_with (fail)
      have H0 : Hid (IntsO 3 wo.heap.size (wo.alloc (.cells #[] 3)).heap.size (wo.alloc (.cells #[] 3)) (.slice (some ⟨wo.heap.size, 0, none⟩) 0 0) [] ∧ Grew wo (wo.alloc (.cells #[] 3))) :=
        ⟨by simpa using IntsO.lit 3 wo.heap.size wo [] #[] rfl (Nat.le_refl _) (by decide), (Grew.refl wo).alloc _⟩
      go_loopg [5, 6] row.length (fun gk v i wi => ∃ xs g' c', v = .slice (some ⟨g', 0, none⟩) (List.length xs) c' ∧ i = .int .i64 ((List.length xs : Nat) : Int) ∧ List.length xs ≤ row.length ∧ row.length ≤ gk + List.length xs ∧
        Hid (IntsO 3 wo.heap.size wi.heap.size wi v xs ∧ xs = (row.take (List.length xs)).map (fun x => 12 - x) ∧ Grew wo wi))
      case atStart => exact ⟨[], _, _, rfl, rfl, Nat.zero_le _, Nat.le_refl _, H0.out.1, rfl, H0.out.2⟩
      case round =>
        obtain ⟨xs, g', c2, rfl, rfl, hx1, hx2, HX⟩ := hrel
        clear H0
        have hck' := HX.out.2.2.cell HCK.out
        by_cases hltx : xs.length < row.length
        · have hel := HX.out.2.2.cell (HI.out.2.2.cell (HC1.out xs.length hltx))
          obtain ⟨y, ey⟩ : ∃ y, row.getD xs.length 0 = y := ⟨_, rfl⟩
          have hy := HER.out.2.2 xs.length (by have := HER.out.2.1; omega)
          rw [ey] at hel hy
          have HEY := Lib.hid ey
          clear ey
          go_wp2_with (at_builtin; refine wpList_append_int rfl (.tmp 24) (.tmp 33) 33 rfl Try.underlying33 Try.infoI rfl rfl rfl HX.out.1 (by omega) HX.out.2.2.size ?_; intro g5 c5 w5 hO5 hW5 hS5)
          have HF := Lib.hid (And.intro hO5 hW5)
          clear hO5 hW5
          go_wp2
          go_roundg (gk - 1)
          case measure => omega
          case rel => exact ⟨xs ++ [12 - y], g5, c5, by simp, by simp, by simp; omega, by simp; omega, HF.out.1, snoc_map 0 HX.out.2.1 hltx (by rw [HEY.out]), HF.out.2.grew HX.out.2.2 (Nat.le_refl _)⟩
        · go_wp2_with (at_builtin; refine wpList_append_row rfl (.tmp 35) (.tmp 37) 23 rfl (by decide) Try.underlying23 Try.infoIs rfl rfl rfl (HI.out.1.grew HX.out.2.2) HX.out.1 (by omega) (by have := HX.out.2.2.size; omega) hsw ?_; intro g5 c5 w5 hO5 hW5 hS5)
          have HF := Lib.hid (And.intro hO5 hW5)
          clear hO5 hW5
          go_wp2
          go_roundg (gn - 1)
          case measure => omega
          case rel => exact ⟨H ++ [xs], g5, c5, by simp, by simp, by simp; omega, by simp; omega, HF.out.1, snoc_map [] HI.out.2.1 hlt (by rw [HER.out.1, HX.out.2.1, List.take_of_length_le (by omega)]), HF.out.2.grew (HI.out.2.2.trans HX.out.2.2) (Nat.le_refl _)⟩
    · go_wp2
      go_ret
      refine ⟨_, rfl, ?_, HI.out.2.2⟩
      have := HI.out.2.1
      rw [List.take_of_length_le (by omega)] at this
      rw [underL, ← this]
      exact HI.out.1
end Go.Proofs.Ytjicbafkjieagaa
