/- The contracts of spec.someGrid and of the draws of grids. -/
import Derived.Test.YtjibmfignifpcaaDoorGood
namespace Go.Proofs.YtjibmfignifpcaaDoor
open Go.RowKit

/-- At most six rows of at most five numbers in -1 .. 13. -/
def Drawn (H : List (List Int)) : Prop := H.length ≤ 6 ∧ ∀ r, r < H.length → (H.getD r []).length ≤ 5 ∧ ∀ x ∈ H.getD r [], -1 ≤ x ∧ x ≤ 13
def SomePost (w0 w : World) (rb p : Nat) (e : Ending) (w' : World) : Prop :=
  ∃ v H q, e = .returned v ∧ RowsO 28 3 w.heap.size w'.heap.size w' v H ∧ Drawn H ∧ Rdr w0 w' rb q ∧ q ≤ p + 300 ∧ Within rb (rb + 1) w w'
theorem Drawn.ok {m : Nat} {H : List (List Int)} (h : RowsOk m H) (hm : m ≤ 5) (hn : H.length ≤ 5) : Drawn H :=
  ⟨by omega, fun r hr => ⟨by have := (h r hr).1; omega, fun x hx => by have := (h r hr).2 x hx; omega⟩⟩
theorem Drawn.snoc {H : List (List Int)} {xs : List Int} (h : Drawn H) (hn : H.length ≤ 5) (hl : xs.length ≤ 5) (hx : ∀ x ∈ xs, -1 ≤ x ∧ x ≤ 13) : Drawn (H ++ [xs]) := by
  refine ⟨by simp; omega, fun r hr => ?_⟩
  rw [List.length_append, List.length_singleton] at hr
  by_cases hlt : r < H.length
  · rw [getD_append_l _ _ _ _ hlt]; exact h.2 r hlt
  · obtain rfl : r = H.length := by omega
    rw [getD_append_r]; exact ⟨hl, hx⟩
theorem Drawn.set {H : List (List Int)} (h : Drawn H) (i j : Nat) (x : Int) (hi : i < H.length) (hx : -1 ≤ x ∧ x ≤ 13) : Drawn (H.set i ((H.getD i []).set j x)) := by
  refine ⟨by rw [List.length_set]; exact h.1, fun r hr => ?_⟩
  rw [List.length_set] at hr
  by_cases e : r = i
  · subst e
    rw [List.getD_eq_getElem?_getD, List.getElem?_set_self hr, Option.getD_some, List.length_set]
    refine ⟨(h.2 r hr).1, fun z hz => ?_⟩
    rcases mem_set_of hz with h' | rfl
    · exact (h.2 r hr).2 z h'
    · exact hx
  · rw [List.getD_eq_getElem?_getD, List.getElem?_set_ne (by omega), ← List.getD_eq_getElem?_getD]
    exact h.2 r hr

theorem some_set {w0 w2 wa w5 : World} {o : Obj} (e0 : wa = (w2.alloc o).drew) (w : World) (rb : Nat) {p p0 g gr cr c n : Nat} {H : List (List Int)} {x : Int}
    (hO : RowsO 28 3 w.heap.size w2.heap.size w2 (.slice (some ⟨g, 0, none⟩) H.length c) H) (hok : Drawn H) (hW : Within rb (rb + 1) w w2)
    (hr5 : Rdr w0 w5 rb p) (hw5 : Within rb (rb + 1) wa w5) (hlt : rb < w.heap.size) (hgl : w.heap.size ≤ g) (hi : 0 < H.length) (hlo : w.heap.size ≤ gr)
    (hcu : w2.cell? ⟨g, 0, none⟩ = some (.slice (some ⟨gr, 0, none⟩) n cr)) (hx : -1 ≤ x ∧ x ≤ 13) (hb : p ≤ p0 + 300) :
    SomePost w0 w rb p0 (.returned (.slice (some ⟨g, 0, none⟩) H.length c)) (w5.setCell ⟨gr, 0, none⟩ (.int .i64 x)) := by
  subst e0
  have ga : Grew w2 (w2.alloc o).drew := ((Grew.refl w2).alloc o).drew
  have h5 := (((hO.grew ga).within hw5 (.inr (by omega))).wide (Nat.le_refl _) (Nat.le_trans ga.size hw5.size))
  have hs : (w5.setCell ⟨gr, 0, none⟩ (.int .i64 x)).heap.size = w5.heap.size := by simp [World.setCell]
  have hset := h5.set (by decide) rfl hi (hw5.cell (ga.cell hcu) (.inr (by show rb + 1 ≤ g; omega))) 0 x
  have hWs : Within gr (gr + 1) w5 (w5.setCell ⟨gr, 0, none⟩ (.int .i64 x)) := (Within.refl _ _ _).setCell (p := ⟨gr, 0, none⟩) (Nat.le_refl _) (Nat.lt_succ_self _) _
  exact ⟨_, _, p, rfl, by rw [hs]; exact hset, hok.set 0 0 x hi hx, hr5.within hWs (by omega), hb, (hW.trans ((ga.within _ _).trans hw5)).after hWs hlo⟩

set_option maxHeartbeats 2000000 in
theorem someGrid_any (w0 w : World) (rb p : Nat) (hr : Rdr w0 w rb p) (hp : p ≤ 1000) :
    Calls Tryd.prog 48 #[.pointer (some ⟨rb, 0, none⟩)] w (SomePost w0 w rb p) := by
  have hlt := hr.lt
  have HR := Lib.hid hr
  clear hr
  go_enter Tryd.func48, Tryd.ntmps48
  go_wp2_with (fail)
  refine (goodGrid_any w0 _ rb p HR.out hp).mono ?_
  rintro e w1 ⟨v, H, n, m, q, rfl, hO, ⟨hn1, hn5, hm1, hm5, hHn, hok⟩, hr1, hq, hw1⟩
  obtain ⟨g, c, rfl, hgl, hgh, hlc, hcc⟩ := hO.pos (by omega)
  subst hHn
  have hs1 := hw1.size
  have HO := Lib.hid (And.intro hO (And.intro hok (And.intro hr1 hw1)))
  clear hO hok hr1 hw1
  go_wp2_with (fail)
  refine (pick_any w0 _ rb q _ HO.out.2.2.1 (by omega) (by omega)).mono ?_
  rintro e w2 ⟨x, rfl, hx0, hxm, hr2, hw2⟩
  have hs2 := hw2.size
  have HO2 : Hid (RowsO 28 3 w.heap.size w2.heap.size w2 (.slice (some ⟨g, 0, none⟩) H.length c) H ∧ Drawn H ∧ Rdr w0 w2 rb (q + 1) ∧ Within rb (rb + 1) w w2) :=
    ⟨(HO.out.1.within hw2 (.inr (by omega))).wide (Nat.le_refl _) hs2, Drawn.ok HO.out.2.1 hm5 hn5, hr2, HO.out.2.2.2.trans hw2⟩
  have HOK := Lib.hid HO.out.2.1
  clear hr2 hw2 HO hxm
  by_cases h0 : x = 0
  · subst h0
    clear hx0
    obtain ⟨u, hcu, hu⟩ := HO2.out.1.at rfl (i := 0) (by omega)
    have hrow := HOK.out 0 (by omega)
    obtain ⟨row, er⟩ : ∃ row, H.getD 0 [] = row := ⟨_, rfl⟩
    rw [er] at hu hrow
    obtain ⟨gr, cr, rfl, hlo, hhi, hlc', hcc'⟩ := hu.pos (by omega)
    obtain ⟨hel, hfr⟩ := hu.at rfl (i := 0) (by omega)
    have HE := Lib.hid (And.intro er (And.intro hrow hu))
    have hrl : 0 < row.length := by omega
    have hHl : 0 < H.length := by omega
    have hg2 : g < w2.heap.size := by omega
    have b1 : (0 : Int) < H.length := by omega
    have b2 : (0 : Int) < row.length := by omega
    have HCU := Lib.hid hcu
    clear er hrow hu
    go_wp2_with (fail)
    have HKK := Lib.hid (one_any w0 (w2.alloc (.cells #[.int .i64 (-1), .int .i64 13] 3)).drew rb (q + 1) (w2.heap.size + 1) (.slice (some ⟨w2.heap.size, 0, none⟩) 2 2) [-1, 13] (HO2.out.2.2.1.later (((Grew.refl _).alloc _).drew)) (by omega) ((IntsO.lit _ _ w2 [-1, 13] _ rfl (by omega) (by decide)).grew ((Grew.refl _).drew)) (by decide) (by decide))
    have HC5 : Hid (∀ w5, Within rb (rb + 1) (w2.alloc (.cells #[.int .i64 (-1), .int .i64 13] 3)).drew w5 → w5.cell? ⟨g, 0, none⟩ = some (.slice (some ⟨gr, 0, none⟩) row.length cr) ∧ (∃ z, w5.cell? ⟨gr, 0, none⟩ = some (.int .i64 z)) ∧ w5.frozen? ⟨gr, 0, none⟩ = false) := fun w5 hw5 =>
      ⟨hw5.cell (((Grew.refl w2).alloc _).drew.cell hcu) (.inr (by show rb + 1 ≤ g; omega)), ⟨_, hw5.cell (((Grew.refl w2).alloc _).drew.cell hel) (.inr (by show rb + 1 ≤ gr; omega))⟩,
        hw5.frozen (((Grew.refl w2).alloc _).drew.cell hel) ((Below.frozen (((Grew.refl w2).alloc (.cells #[.int .i64 (-1), .int .i64 13] 3)).drew) (World.block_lt_of_cell? _ _ hel)).trans hfr) (.inr (by show rb + 1 ≤ gr; omega))⟩
    go_region_with (first | (go_at_call 88; refine HKK.out.mono ?_; rintro e w5 ⟨x, hx, rfl, hr5, hw5⟩; obtain ⟨hcu5, ⟨z, hel5⟩, hfr5⟩ := HC5.out w5 hw5; have HX := Lib.hid hx; have HRW := Lib.hid (And.intro hr5 hw5); clear hx hr5 hw5))
    all_goals
      clear hcu hel hfr hcu5 hel5 hfr5
      go_wp2
      go_ret
      exact some_set rfl w rb HO2.out.1 HO2.out.2.1 HO2.out.2.2.2 HRW.out.1 HRW.out.2 hlt hgl hHl hlo HCU.out (by have := HX.out; simp at this; omega) (by omega)
  · have h0' : (x == 0) = false := beq_eq_false_iff_ne.2 h0
    by_cases h1 : x = 1
    · subst h1
      clear hx0 h0 h0'
      have hu2 := IntsO.lit 3 w2.heap.size w2 [1] #[.int .i64 1] rfl (Nat.le_refl _) (by decide)
      have HO3 := Lib.hid (And.intro (HO2.out.1.grew ((Grew.refl w2).alloc (.cells #[.int .i64 1] 3))) hu2)
      clear hu2
      go_wp2_with (at_builtin; refine wpList_append_row rfl (.tmp 19) (.tmp 21) 23 rfl (by decide) Tryd.underlying23 Tryd.infoInts rfl rfl (by simp) HO3.out.1 HO3.out.2 (by omega) (by simp; omega) (by omega) ?_; intro g5 c5 w5 hO5 hW5 hS5)
      have HF := Lib.hid (And.intro hO5 hW5)
      clear hO5 hW5
      go_wp2
      go_ret
      exact ⟨_, H ++ [[1]], q + 1, rfl, HF.out.1, HO2.out.2.1.snoc (by omega) (by simp) (fun x hx => by simp at hx; omega), (HO2.out.2.2.1.later ((Grew.refl _).alloc _)).within HF.out.2 (by omega), by omega, (HO2.out.2.2.2.trans (((Grew.refl w2).alloc _).within _ _)).after HF.out.2 (Nat.le_refl _)⟩
    · have h1' : (x == 1) = false := beq_eq_false_iff_ne.2 h1
      by_cases h2 : x = 2
      · subst h2
        clear hx0 h0 h0' h1 h1'
        go_wp2
        go_ret
        exact ⟨_, [], q + 1, rfl, (by simpa using (RowsO.lit0 28 3 w2.heap.size w2 (Nat.le_refl _)).wide (Nat.le_trans hs1 hs2) (Nat.le_refl _)), ⟨by simp, fun r hr => absurd hr (Nat.not_lt_zero _)⟩, HO2.out.2.2.1.later ((Grew.refl _).alloc _), by omega, HO2.out.2.2.2.alloc _⟩
      · have h2' : (x == 2) = false := beq_eq_false_iff_ne.2 h2
        clear h0 h1 h2
        go_wp2
        go_ret
        exact ⟨_, H, q + 1, rfl, HO2.out.1, HO2.out.2.1, HO2.out.2.2.1, by omega, HO2.out.2.2.2⟩
end Go.Proofs.YtjibmfignifpcaaDoor
