/- The contracts of spec.goodGrid. -/
import Derived.Test.YtjibmfignifpcaaDoorReader
import Derived.Test.YtjibmfignifpcaaDoorBase
namespace Go.Proofs.YtjibmfignifpcaaDoor
open Go.RowKit

theorem Tryd.infoInt : (Tryd.prog.info? 3).map (fun i => (i.zero, i.size, i.bytes)) = some (some (.int .i64 0), 1, 8) := by kernel_rfl
theorem Tryd.infoInts : (Tryd.prog.info? 28).map (fun i => (i.zero, i.size, i.bytes)) = some (some (.slice none 0 0), 1, 24) := by kernel_rfl

/-- Every row has m numbers in 0 .. 12. -/
def RowsOk (m : Nat) (H : List (List Int)) : Prop := ∀ r, r < H.length → (H.getD r []).length = m ∧ ∀ x ∈ H.getD r [], 0 ≤ x ∧ x ≤ 12
theorem rowsOk_snoc {m : Nat} {H : List (List Int)} {xs : List Int} (h : RowsOk m H) (hl : xs.length = m) (hx : ∀ x ∈ xs, 0 ≤ x ∧ x ≤ 12) : RowsOk m (H ++ [xs]) := by
  intro r hr
  rw [List.length_append, List.length_singleton] at hr
  by_cases hlt : r < H.length
  · rw [getD_append_l _ _ _ _ hlt]; exact h r hlt
  · obtain rfl : r = H.length := by omega
    rw [getD_append_r]; exact ⟨hl, hx⟩
def GoodPost (w0 w : World) (rb p : Nat) (e : Ending) (w' : World) : Prop :=
  ∃ v H n m q, e = .returned v ∧ RowsO 28 3 w.heap.size w'.heap.size w' v H ∧ (1 ≤ n ∧ n ≤ 5 ∧ 1 ≤ m ∧ m ≤ 5 ∧ H.length = n ∧ RowsOk m H) ∧ Rdr w0 w' rb q ∧ q ≤ p + 200 ∧ Within rb (rb + 1) w w'

theorem mem_set_of {α : Type} {l : List α} {i : Nat} {a x : α} (h : x ∈ l.set i a) : x ∈ l ∨ x = a := List.mem_or_eq_of_mem_set h

/-- One round's store. -/
theorem draw_set {w0 wr w5 : World} (w : World) (rb : Nat) {p q'' b i j M g gr cr n c : Nat} {H'' : List (List Int)} {row : List Int} {x : Int}
    (hO : RowsO 28 3 w.heap.size wr.heap.size wr.drew (.slice (some ⟨g, 0, none⟩) n c) H'') (hn : H''.length = n) (hok : RowsOk M H'') (hW : Within rb (rb + 1) w wr)
    (hr5 : Rdr w0 w5 rb p) (hw5 : Within rb (rb + 1) wr.drew w5) (hlt : rb < w.heap.size) (_hgl : w.heap.size ≤ g) (hi : i < n) (hE : H''.getD i [] = row) (hlo : w.heap.size ≤ gr) (_hhi : gr < wr.heap.size) (_hj : j < row.length)
    (hcu : wr.cell? ⟨g, i, none⟩ = some (.slice (some ⟨gr, 0, none⟩) row.length cr)) (hx0 : 0 ≤ x) (hx1 : x ≤ 12) (hb : q'' ≤ b) :
    Hid (RowsO 28 3 w.heap.size (w5.setCell ⟨gr, j, none⟩ (.int .i64 x)).heap.size (w5.setCell ⟨gr, j, none⟩ (.int .i64 x)) (.slice (some ⟨g, 0, none⟩) n c) (H''.set i (row.set j x)) ∧ (H''.set i (row.set j x)).length = n ∧
      RowsOk M (H''.set i (row.set j x)) ∧ Rdr w0 (w5.setCell ⟨gr, j, none⟩ (.int .i64 x)) rb p ∧ q'' ≤ b ∧ Within rb (rb + 1) w (w5.setCell ⟨gr, j, none⟩ (.int .i64 x))) := by
  have h5 := (hO.within hw5 (.inr (by omega))).wide (Nat.le_refl _) hw5.size
  have hs : (w5.setCell ⟨gr, j, none⟩ (.int .i64 x)).heap.size = w5.heap.size := by simp [World.setCell]
  have hset := h5.set (by decide) rfl (by omega) (hw5.cell (a := wr.drew) hcu (.inr (by show rb + 1 ≤ g; omega))) j x
  rw [hE] at hset
  have hWs : Within gr (gr + 1) w5 (w5.setCell ⟨gr, j, none⟩ (.int .i64 x)) := (Within.refl _ _ _).setCell (p := ⟨gr, j, none⟩) (Nat.le_refl _) (Nat.lt_succ_self _) _
  refine ⟨by rw [hs]; exact hset, by rw [List.length_set]; exact hn, ?_, hr5.within hWs (by omega), hb, (hW.trans (((Grew.refl wr).drew.within _ _).trans hw5)).after hWs hlo⟩
  intro r hr
  rw [List.length_set] at hr
  by_cases e : r = i
  · subst e
    rw [List.getD_eq_getElem?_getD, List.getElem?_set_self hr, Option.getD_some, List.length_set]
    have := hok r hr
    rw [hE] at this
    refine ⟨this.1, fun z hz => ?_⟩
    rcases mem_set_of hz with h | rfl
    · exact this.2 z h
    · exact ⟨hx0, hx1⟩
  · rw [List.getD_eq_getElem?_getD, List.getElem?_set_ne (by omega), ← List.getD_eq_getElem?_getD]
    exact hok r hr

set_option maxRecDepth 100000 in
set_option maxHeartbeats 2000000 in
theorem goodGrid_any (w0 w : World) (rb p : Nat) (hr : Rdr w0 w rb p) (hp : p ≤ 1000) :
    Calls Tryd.prog 86 #[.pointer (some ⟨rb, 0, none⟩)] w (GoodPost w0 w rb p) := by
  have hlt := hr.lt
  have HR := Lib.hid hr
  clear hr
  go_enter Tryd.func86, Tryd.ntmps86
  go_wp2_with (fail)
  refine (one_any w0 _ rb p (w.heap.size + 1) _ [3, 4, 5, 3, 2, 1] (HR.out.later ((Grew.refl _).alloc _)) (by omega) (IntsO.lit _ _ w [3, 4, 5, 3, 2, 1] _ rfl (by omega) (by decide)) (by decide) (by decide)).mono ?_
  rintro e w1 ⟨n, hn, rfl, hr1, hw1⟩
  have hn' : 1 ≤ n ∧ n ≤ 5 := by simp at hn; omega
  have hs1 := hw1.size
  simp at hs1
  have HQ1 := Lib.hid (And.intro hr1 ((((Grew.refl w).alloc _).within _ _).trans hw1))
  clear hn hr1 hw1
  go_wp2_with (fail)
  refine (one_any w0 _ rb (p + 1) (w1.heap.size + 1) _ [3, 4, 5, 3, 2, 1] (HQ1.out.1.later ((Grew.refl _).alloc _)) (by omega) (IntsO.lit _ _ w1 [3, 4, 5, 3, 2, 1] _ rfl (by omega) (by decide)) (by decide) (by decide)).mono ?_
  rintro e w2 ⟨m, hm, rfl, hr2, hw2⟩
  have hm' : 1 ≤ m ∧ m ≤ 5 := by simp at hm; omega
  have hs2 := hw2.size
  simp at hs2
  have HQ2 := Lib.hid (And.intro hr2 (HQ1.out.2.trans ((((Grew.refl w1).alloc _).within _ _).trans hw2)))
  clear hm hr2 hw2 HQ1
  go_wp2_with (fail)
  refine (one_any w0 _ rb (p + 2) (w2.heap.size + 1) _ [5, 9, 3, 12, 2] (HQ2.out.1.later ((Grew.refl _).alloc _)) (by omega) (IntsO.lit _ _ w2 [5, 9, 3, 12, 2] _ rfl (by omega) (by decide)) (by decide) (by decide)).mono ?_
  rintro e w3 ⟨most, hmo, rfl, hr3, hw3⟩
  have hmo' : 2 ≤ most ∧ most ≤ 12 := by simp at hmo; omega
  have hs3 := hw3.size
  simp at hs3
  have HQ3 := Lib.hid (And.intro hr3 (HQ2.out.2.trans ((((Grew.refl w2).alloc _).within _ _).trans hw3)))
  clear hmo hr3 hw3 HQ2
  obtain ⟨N, rfl⟩ := Int.eq_ofNat_of_zero_le (show 0 ≤ n by omega)
  obtain ⟨M, rfl⟩ := Int.eq_ofNat_of_zero_le (show 0 ≤ m by omega)
  have hN : 1 ≤ N ∧ N ≤ 5 := by omega
  have hM : 1 ≤ M ∧ M ≤ 5 := by omega
  clear hn' hm'
  obtain ⟨iI, hiI, hzI, hsI, hbI⟩ := info_parts Tryd.infoInt
  obtain ⟨iS, hiS, hzS, hsS, hbS⟩ := info_parts Tryd.infoInts
  go_wp2_with (fail)
  have h0 := RowsO.lit0 28 3 w.heap.size w3 (by omega)
  have H0 : Hid (RowsO 28 3 w.heap.size (w3.alloc (.cells #[] 28)).heap.size (w3.alloc (.cells #[] 28)) (.slice (some ⟨w3.heap.size, 0, none⟩) 0 0) [] ∧ RowsOk M [] ∧ Rdr w0 (w3.alloc (.cells #[] 28)) rb (p + 3) ∧ p + 3 ≤ p + 3 + 0 ∧ Within rb (rb + 1) w (w3.alloc (.cells #[] 28))) :=
    ⟨by simpa using h0, fun r hr => absurd hr (Nat.not_lt_zero _), HQ3.out.1.later ((Grew.refl _).alloc _), Nat.le_refl _, HQ3.out.2.alloc _⟩
  clear h0
  go_loopg [6] N (fun gk v wr => ∃ H g c q, v = .slice (some ⟨g, 0, none⟩) (List.length H) c ∧ List.length H ≤ N ∧ N ≤ gk + List.length H ∧
    Hid (RowsO 28 3 w.heap.size wr.heap.size wr v H ∧ RowsOk M H ∧ Rdr w0 wr rb q ∧ q ≤ p + 3 + 5 * List.length H ∧ Within rb (rb + 1) w wr))
  case atStart => exact ⟨[], _, _, _, rfl, Nat.zero_le _, Nat.le_refl _, H0⟩
  case round =>
    obtain ⟨H, g, c, q, rfl, hH1, hH2, HI⟩ := hrel
    clear H0 HQ3
    by_cases hlt2 : H.length < N
    · obtain ⟨wo, rfl⟩ : ∃ wo : World, wo = wr := ⟨_, rfl⟩
      obtain ⟨gn, rfl⟩ : ∃ gn : Nat, gn = gk := ⟨_, rfl⟩
      have hsw : w.heap.size ≤ wo.heap.size := HI.out.2.2.2.2.size
      go_wp2_with (fail)
      have h0 := IntsO.lit 3 wo.heap.size wo [] #[] rfl (Nat.le_refl _) (by decide)
      have H0 : Hid (IntsO 3 wo.heap.size (wo.alloc (.cells #[] 3)).heap.size (wo.alloc (.cells #[] 3)) (.slice (some ⟨wo.heap.size, 0, none⟩) 0 0) [] ∧ (∀ x ∈ ([] : List Int), 0 ≤ x ∧ x ≤ 12) ∧ Rdr w0 (wo.alloc (.cells #[] 3)) rb q ∧ q ≤ q + 0 ∧ Within rb (rb + 1) wo (wo.alloc (.cells #[] 3))) :=
        ⟨by simpa using h0, fun x hx => by simp at hx, HI.out.2.2.1.later ((Grew.refl _).alloc _), Nat.le_refl _, (Within.refl _ _ _).alloc _⟩
      clear h0
      go_loopg [7] M (fun gk v wi => ∃ xs g' c' q', v = .slice (some ⟨g', 0, none⟩) (List.length xs) c' ∧ List.length xs ≤ M ∧ M ≤ gk + List.length xs ∧
        Hid (IntsO 3 wo.heap.size wi.heap.size wi v xs ∧ (∀ x ∈ xs, 0 ≤ x ∧ x ≤ 12) ∧ Rdr w0 wi rb q' ∧ q' ≤ q + List.length xs ∧ Within rb (rb + 1) wo wi))
      case atStart => exact ⟨[], _, _, _, rfl, Nat.zero_le _, Nat.le_refl _, H0⟩
      case round =>
        obtain ⟨xs, g', c', q', rfl, hx1, hx2, HX⟩ := hrel
        clear H0
        by_cases hltx : xs.length < M
        · have hqb : q' ≤ 100000 := by have := HI.out.2.2.2.1; have := HX.out.2.2.2.1; omega
          go_wp2_with (fail)
          refine (pick_any w0 _ rb q' _ HX.out.2.2.1 hqb (by omega)).mono ?_
          rintro e w4 ⟨x, rfl, hx0, hxm, hr4, hw4⟩
          have hx12 : x ≤ 12 := by omega
          have hs4 : wo.heap.size ≤ w4.heap.size := Nat.le_trans HX.out.2.2.2.2.size hw4.size
          have HO := Lib.hid (HX.out.1.within hw4 (.inr (by omega)))
          have HW := Lib.hid (And.intro hr4 (HX.out.2.2.2.2.trans hw4))
          have hsx := hw4.size
          clear hr4 hw4 hxm
          go_wp2_with (at_builtin; refine wpList_append_int rfl (.tmp 29) (.tmp 34) 28 rfl Tryd.underlying28 Tryd.infoInt rfl rfl rfl HO.out (by omega) (by omega) ?_; intro g5 c5 w5 hO5 hW5 hS5)
          have HF := Lib.hid (And.intro hO5 hW5)
          clear hO5 hW5
          go_wp2
          go_roundg (gk - 1)
          case measure => omega
          case rel => exact ⟨xs ++ [x], g5, c5, q' + 1, by simp, by simp; omega, by simp; omega, HF.out.1, by
            intro z hz
            rcases List.mem_append.1 hz with h | h
            · exact HX.out.2.1 z h
            · simp at h; omega, HW.out.1.within HF.out.2 (by omega), by have := HX.out.2.2.2.1; simp; omega, HW.out.2.after HF.out.2 (Nat.le_refl _)⟩
        · go_wp2_with (at_builtin; refine wpList_append_row rfl (.tmp 36) (.tmp 38) 23 rfl (by decide) Tryd.underlying23 Tryd.infoInts rfl rfl rfl (HI.out.1.within HX.out.2.2.2.2 (.inr (by omega))) HX.out.1 (by omega) (by have := HX.out.2.2.2.2.size; omega) hsw ?_; intro g5 c5 w5 hO5 hW5 hS5)
          have HF := Lib.hid (And.intro hO5 hW5)
          clear hO5 hW5
          go_wp2
          go_roundg (gn - 1)
          case measure => omega
          case rel => exact ⟨H ++ [xs], g5, c5, q', by simp, by simp; omega, by simp; omega, HF.out.1, rowsOk_snoc HI.out.2.1 (by omega) HX.out.2.1,
            HX.out.2.2.1.within HF.out.2 (by omega), by have := HI.out.2.2.2.1; have := HX.out.2.2.2.1; simp; omega, (HI.out.2.2.2.2.trans HX.out.2.2.2.2).after HF.out.2 (Nat.le_refl _)⟩
    · obtain rfl : N = H.length := by omega
      have hq : q ≤ p + 30 := by have := HI.out.2.2.2.1; omega
      have hsw : w.heap.size ≤ wr.heap.size := HI.out.2.2.2.2.size
      clear hH1 hH2 hlt2
      by_cases h33 : 2 < H.length ∧ 2 < M
      · obtain ⟨h3a, h3b⟩ := h33
        go_wp2_with (fail)
        refine (pick_any w0 _ rb q _ HI.out.2.2.1 (by omega) (by omega)).mono ?_
        rintro e w4 ⟨x, rfl, hx0, hxm, hr4, hw4⟩
        have HK : Hid (RowsO 28 3 w.heap.size w4.heap.size w4 (.slice (some ⟨g, 0, none⟩) H.length c) H ∧ RowsOk M H ∧ Rdr w0 w4 rb (q + 1) ∧ Within rb (rb + 1) w w4) :=
          ⟨(HI.out.1.within hw4 (.inr (by omega))).wide (Nat.le_refl _) hw4.size, HI.out.2.1, hr4, HI.out.2.2.2.2.trans hw4⟩
        clear hr4 hw4
        by_cases hx : x = 0
        · subst hx
          clear hx0 hxm
          go_wp2_with (fail)
          go_loopg [8] H.length (fun gk v wr => ∃ i H' q', v = .int .i64 ((i : Nat) : Int) ∧ 1 ≤ i ∧ i ≤ H.length ∧ H.length ≤ gk + i ∧
            Hid (RowsO 28 3 w.heap.size wr.heap.size wr (.slice (some ⟨g, 0, none⟩) H.length c) H' ∧ H'.length = H.length ∧ RowsOk M H' ∧ Rdr w0 wr rb q' ∧ q' ≤ q + 1 + 5 * i ∧ Within rb (rb + 1) w wr))
          case atStart => exact ⟨1, H, q + 1, rfl, Nat.le_refl _, by omega, by omega, HK.out.1, rfl, HK.out.2.1, HK.out.2.2.1, by omega, HK.out.2.2.2⟩
          case round =>
            clear HK HI
            obtain ⟨i, H', q', rfl, hi1, hi2, hi3, HI⟩ := hrel
            by_cases hlt3 : i + 1 < H.length
            · obtain ⟨wo, rfl⟩ : ∃ wo : World, wo = wr := ⟨_, rfl⟩
              obtain ⟨gn, rfl⟩ : ∃ gn : Nat, gn = gk := ⟨_, rfl⟩
              have hd3 : decide ((i : Int) + 1 < (H.length : Int)) = true := by simp; omega
              go_wp2_with (fail)
              go_loopg [9] M (fun gk v wr => ∃ j H'' q'', v = .int .i64 ((j : Nat) : Int) ∧ 1 ≤ j ∧ j ≤ M ∧ M ≤ gk + j ∧
                Hid (RowsO 28 3 w.heap.size wr.heap.size wr (.slice (some ⟨g, 0, none⟩) H.length c) H'' ∧ H''.length = H.length ∧ RowsOk M H'' ∧ Rdr w0 wr rb q'' ∧ q'' ≤ q' + j ∧ Within rb (rb + 1) w wr))
              case atStart => exact ⟨1, H', q', rfl, Nat.le_refl _, by omega, by omega, HI.out.1, HI.out.2.1, HI.out.2.2.1, HI.out.2.2.2.1, by omega, HI.out.2.2.2.2.2⟩
              case round =>
                obtain ⟨j, H'', q'', rfl, hj1, hj2, hj3, HJ⟩ := hrel
                by_cases hlt4 : j + 1 < M
                · obtain ⟨u, hcu, hu⟩ := HJ.out.1.at rfl (i := i) (by have := HJ.out.2.1; omega)
                  have hrow := HJ.out.2.2.1 i (by have := HJ.out.2.1; omega)
                  obtain ⟨row, er⟩ : ∃ row, H''.getD i [] = row := ⟨_, rfl⟩
                  rw [er] at hu hrow
                  have HE := Lib.hid er
                  obtain ⟨gr, cr, rfl, hlo, hhi, hlc, hcc⟩ := hu.pos (by have := hrow.1; omega)
                  have hjr : j < row.length := by have := hrow.1; omega
                  obtain ⟨hel, hfr⟩ := hu.at rfl (i := j) hjr
                  obtain ⟨y, ey⟩ : ∃ y, row.getD j 0 = y := ⟨_, rfl⟩
                  have hy : 0 ≤ y ∧ y ≤ 12 := hrow.2 y (by rw [← ey]; have : row.getD j 0 = row[j] := by simp [hjr]
                                                           rw [this]; exact List.getElem_mem hjr)
                  rw [ey] at hel
                  have HRow := Lib.hid hrow
                  have HCU := Lib.hid hcu
                  have HU := Lib.hid hu
                  clear er ey hu hrow
                  have hg := HJ.out.1
                  have hgl : w.heap.size ≤ g := by
                    obtain ⟨g2, c2, e2, l2, _⟩ := HJ.out.1.pos (by have := HJ.out.2.1; omega)
                    simp at e2; omega
                  clear hg
                  have hqb : q'' ≤ 100000 := by have := HJ.out.2.2.2.2.1; have := HI.out.2.2.2.2.1; omega
                  have b1 : (i : Int) < H.length := by omega
                  have b2 : (j : Int) < row.length := by omega
                  have hwr : IntKind.i64.wrap (y + 1) = y + 1 := IntWalk.i64_in _ (by omega)
                  go_wp2_with (fail)
                  go_region_with (first | (go_at_call 87; refine (pick_any w0 _ rb q'' _ (by first | exact HJ.out.2.2.2.1 | exact HJ.out.2.2.2.1.later ((Grew.refl _).drew)) hqb (by omega)).mono ?_; rintro e w5 ⟨x, rfl, hx0, hxm, hr5, hw5⟩; have hcu5 := hw5.cell hcu (.inr (by show rb + 1 ≤ g; omega)); have hel5 := hw5.cell hel (.inr (by show rb + 1 ≤ gr; omega)); have hfr5 := hw5.frozen hel hfr (.inr (by show rb + 1 ≤ gr; omega))))
                  all_goals
                    clear hcu hel hfr hcu5 hel5 hfr5 hwr
                    have HF := Lib.hid (And.intro hr5 hw5)
                    clear hr5 hw5
                    go_wp2_with (fail)
                    go_roundg (gk - 1)
                    case measure => omega
                    case rel => exact ⟨j + 1, H''.set i (row.set j x), q'' + 1, by go_num, by omega, by omega, by omega, draw_set w rb (HJ.out.1.grew ((Grew.refl _).drew)) HJ.out.2.1 HJ.out.2.2.1 HJ.out.2.2.2.2.2 HF.out.1 HF.out.2 hlt hgl (by omega) HE.out hlo hhi hjr HCU.out hx0 (by omega) (by have := HJ.out.2.2.2.2.1; omega)⟩
                · go_wp2_with (fail)
                  go_roundg (gn - 1)
                  case measure => omega
                  case rel => exact ⟨i + 1, H'', q'', by go_num, by omega, by omega, by omega, HJ.out.1, HJ.out.2.1, HJ.out.2.2.1, HJ.out.2.2.2.1, by have := HJ.out.2.2.2.2.1; have := HI.out.2.2.2.2.1; omega, HJ.out.2.2.2.2.2⟩
            · go_wp2
              go_ret
              exact ⟨_, H', H.length, M, q', rfl, HI.out.1, ⟨by omega, by omega, by omega, by omega, HI.out.2.1, HI.out.2.2.1⟩, HI.out.2.2.2.1, by have := HI.out.2.2.2.2.1; omega, HI.out.2.2.2.2.2⟩
        · have hx' : (x == 0) = false := beq_eq_false_iff_ne.2 hx
          clear hxm hx
          go_wp2
          go_ret
          exact ⟨_, H, H.length, M, q + 1, rfl, HK.out.1, ⟨by omega, by omega, by omega, by omega, rfl, HK.out.2.1⟩, HK.out.2.2.1, by omega, HK.out.2.2.2⟩
      · by_cases h3a : 2 < H.length
        all_goals
          go_wp2
          go_ret
          exact ⟨_, H, H.length, M, q, rfl, HI.out.1, ⟨by omega, by omega, by omega, by omega, rfl, HI.out.2.1⟩, HI.out.2.2.1, by omega, HI.out.2.2.2.2⟩
end Go.Proofs.YtjibmfignifpcaaDoor
