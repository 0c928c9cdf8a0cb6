/- The contract of spec.someProfile: a drawn row of at most nine numbers in -1 .. 13. -/
import Derived.Test.YtaeenedjmakelaaDoorSomeG
namespace Go.Proofs.YtaeenedjmakelaaDoor
open Go.RowKit

def DrawnP (xs : List Int) : Prop := xs.length ≤ 9 ∧ ∀ i, i < xs.length → -1 ≤ xs.getD i 0 ∧ xs.getD i 0 ≤ 13
theorem DrawnP.nil : DrawnP [] := ⟨by simp, fun i hi => absurd hi (Nat.not_lt_zero _)⟩
theorem DrawnP.snoc {xs : List Int} {x : Int} (h : DrawnP xs) (hl : xs.length ≤ 8) (hx : -1 ≤ x ∧ x ≤ 13) : DrawnP (xs ++ [x]) := by
  refine ⟨by simp; omega, fun i hi => ?_⟩
  simp at hi
  by_cases hlt : i < xs.length
  · rw [getD_append_l _ _ _ _ hlt]; exact h.2 i hlt
  · obtain rfl : i = xs.length := by omega
    rw [getD_append_r]; exact hx
theorem DrawnP.set {xs : List Int} {x : Int} (h : DrawnP xs) (hx : -1 ≤ x ∧ x ≤ 13) (j : Nat) : DrawnP (xs.set j x) := by
  refine ⟨by simp; exact h.1, fun i hi => ?_⟩
  simp at hi
  by_cases e : j = i
  · subst e; simp [hi]; exact hx
  · rw [List.getD_eq_getElem?_getD, List.getElem?_set_ne e, ← List.getD_eq_getElem?_getD]; exact h.2 i hi

theorem IntsO.litAt (E lo blk hi n : Nat) (w : World) (xs : List Int) (cs : Array Value) (h : cs.toList = xs.map (.int .i64)) (hb : blk = w.heap.size) (hn : n = xs.length) (hlo : lo ≤ blk) (hhi : blk < hi) (hl : xs.length ≤ maxLen) :
    IntsO E lo hi (w.alloc (.cells cs E)) (.slice (some ⟨blk, 0, none⟩) n n) xs := by
  subst hb hn
  exact (IntsO.lit E lo w xs cs h hlo hl).wide (Nat.le_refl _) hhi

def SomePPost (w0 w : World) (rb p : Nat) (e : Ending) (w' : World) : Prop :=
  ∃ v xs q, e = .returned v ∧ IntsO 3 w.heap.size w'.heap.size w' v xs ∧ DrawnP xs ∧ Rdr w0 w' rb q ∧ q ≤ p + 20 ∧ Within rb (rb + 1) w w'
/-- The same, and never nil. -/
def SomePPost2 (w0 w : World) (rb p : Nat) (e : Ending) (w' : World) : Prop :=
  ∃ v xs q, e = .returned v ∧ (∃ g c, v = .slice (some ⟨g, 0, none⟩) xs.length c) ∧ IntsO 3 w.heap.size w'.heap.size w' v xs ∧ DrawnP xs ∧ Rdr w0 w' rb q ∧ q ≤ p + 20 ∧ Within rb (rb + 1) w w'

set_option maxRecDepth 100000 in
set_option maxHeartbeats 2000000 in
theorem someProfile_some (w0 w : World) (rb p : Nat) (hr : Rdr w0 w rb p) (hp : p ≤ 1000) :
    Calls Tryd.prog 53 #[.pointer (some ⟨rb, 0, none⟩)] w (SomePPost2 w0 w rb p) := by
  have hlt := hr.lt
  have HR := Lib.hid hr
  clear hr
  obtain ⟨iI, hiI, hzI, hsI, hbI⟩ := info_parts Tryd.infoInt
  go_enter Tryd.func53, Tryd.ntmps53
  go_wp2_with (fail)
  refine (one_any w0 _ rb p (w.heap.size + 2) _ [5, 9, 12, 2] (HR.out.later (((Grew.refl _).alloc _).alloc _)) (by omega) (IntsO.litAt _ _ _ _ _ _ [5, 9, 12, 2] _ rfl (by simp) rfl (by omega) (by omega) (by decide)) (by decide) (by decide)).mono ?_
  rintro e w1 ⟨n, hn, rfl, hr1, hw1⟩
  have hn' : 2 ≤ n ∧ n ≤ 12 := by simp at hn; omega
  have hs1 := hw1.size
  simp at hs1
  have HQ1 : Hid (Rdr w0 w1 rb (p + 1) ∧ Within rb (rb + 1) w w1 ∧ IntsO 3 w.heap.size w1.heap.size w1 (.slice (some ⟨w.heap.size, 0, none⟩) 0 0) []) :=
    ⟨hr1, ((((Grew.refl w).alloc _).alloc _).within _ _).trans hw1, ((IntsO.litAt 3 w.heap.size w.heap.size w1.heap.size 0 w [] #[] rfl rfl rfl (Nat.le_refl _) (by omega) (by decide)).grew ((Grew.refl _).alloc _)).within hw1 (.inr (by omega))⟩
  clear hn hr1 hw1
  go_wp2_with (fail)
  refine (one_any w0 _ rb (p + 1) (w1.heap.size + 1) _ [6, 5, 7, 4, 8, 9, 3, 2, 1, 0] (HQ1.out.1.later ((Grew.refl _).alloc _)) (by omega) (IntsO.litAt _ _ _ _ _ _ [6, 5, 7, 4, 8, 9, 3, 2, 1, 0] _ rfl (by simp) rfl (by omega) (by omega) (by decide)) (by decide) (by decide)).mono ?_
  rintro e w2 ⟨m, hm, rfl, hr2, hw2⟩
  have hm' : 0 ≤ m ∧ m ≤ 9 := by simp at hm; omega
  have hs2 := hw2.size
  simp at hs2
  have HQ2 : Hid (Rdr w0 w2 rb (p + 2) ∧ Within rb (rb + 1) w w2 ∧ IntsO 3 w.heap.size w2.heap.size w2 (.slice (some ⟨w.heap.size, 0, none⟩) 0 0) []) :=
    ⟨hr2, HQ1.out.2.1.trans ((((Grew.refl w1).alloc _).within _ _).trans hw2), ((HQ1.out.2.2.grew ((Grew.refl _).alloc _)).within hw2 (.inr (by omega))).wide (Nat.le_refl _) (by omega)⟩
  clear hm hr2 hw2 HQ1
  obtain ⟨M, rfl⟩ := Int.eq_ofNat_of_zero_le (show 0 ≤ m by omega)
  have hM : M ≤ 9 := by omega
  clear hm'
  have hsw : w.heap.size ≤ w2.heap.size := by omega
  go_wp2_with (fail)
  go_loopg [3] M (fun gk v wr => ∃ xs g c q, v = .slice (some ⟨g, 0, none⟩) (List.length xs) c ∧ List.length xs ≤ M ∧ M ≤ gk + List.length xs ∧
    Hid (IntsO 3 w.heap.size wr.heap.size wr v xs ∧ DrawnP xs ∧ Rdr w0 wr rb q ∧ q ≤ p + 2 + List.length xs ∧ Within rb (rb + 1) w wr))
  case atStart => exact ⟨[], _, _, _, rfl, Nat.zero_le _, Nat.le_refl _, HQ2.out.2.2, DrawnP.nil, HQ2.out.1, Nat.le_refl _, HQ2.out.2.1⟩
  case round =>
    obtain ⟨xs, g, c, q, rfl, hx1, hx2, HX⟩ := hrel
    clear HQ2
    have hsz := HX.out.2.2.2.2.size
    by_cases hltx : xs.length < M
    · have hqb : q ≤ 99999 := by have := HX.out.2.2.2.1; omega
      go_wp2_with (fail)
      refine (pick_any w0 _ rb q _ HX.out.2.2.1 (by omega) (by omega)).mono ?_
      rintro e w4 ⟨x, rfl, hx0, hxm, hr4, hw4⟩
      have hx12 : x ≤ 12 := by omega
      have HO := Lib.hid (HX.out.1.within hw4 (.inr (by omega)))
      have HW := Lib.hid (And.intro hr4 (HX.out.2.2.2.2.trans hw4))
      have hsx := hw4.size
      clear hr4 hw4 hxm
      go_wp2_with (at_builtin; refine wpList_append_int rfl (.tmp 17) (.tmp 22) 22 rfl Tryd.underlying22 Tryd.infoInt rfl rfl rfl HO.out (by omega) (by omega) ?_; intro g5 c5 w5 hO5 hW5 hS5)
      have HF := Lib.hid (And.intro hO5 hW5)
      clear hO5 hW5
      go_wp2
      go_roundg (gk - 1)
      case measure => omega
      case rel => exact ⟨xs ++ [x], g5, c5, q + 1, by simp, by simp; omega, by simp; omega, HF.out.1, HX.out.2.1.snoc (by omega) (by omega), HW.out.1.within HF.out.2 (by omega), by have := HX.out.2.2.2.1; simp; omega, HW.out.2.after HF.out.2 (Nat.le_refl _)⟩
    · have hqb : q ≤ 99999 := by have := HX.out.2.2.2.1; omega
      have HDone : Hid (xs.length ≤ 9) := HX.out.2.1.1
      by_cases h0 : 0 < xs.length
      · go_wp2_with (fail)
        refine (pick_any w0 _ rb q _ HX.out.2.2.1 (by omega) (by omega)).mono ?_
        rintro e w4 ⟨x, rfl, hx0, hxm, hr4, hw4⟩
        have HO := Lib.hid (HX.out.1.within hw4 (.inr (by omega)))
        have HW := Lib.hid (And.intro hr4 (HX.out.2.2.2.2.trans hw4))
        have hsx := hw4.size
        have hb := HX.out.1.blk
        clear hr4 hw4 hxm
        by_cases hx : x = 0
        · subst hx
          go_wp2_with (fail)
          refine (one_any w0 _ rb (q + 1) (w4.heap.size + 1) _ [-1, 13] (HW.out.1.later ((Grew.refl _).alloc _)) (by omega) (IntsO.litAt _ _ _ _ _ _ [-1, 13] _ rfl (by simp) rfl (by omega) (by omega) (by decide)) (by decide) (by decide)).mono ?_
          rintro e w5 ⟨y, hy, rfl, hr5, hw5⟩
          have hy' : -1 ≤ y ∧ y ≤ 13 := by simp at hy; omega
          have hs5 := hw5.size
          simp at hs5
          have HO5 := Lib.hid ((HO.out.grew ((Grew.refl _).alloc (.cells #[.int .i64 (-1), .int .i64 13] 3))).within hw5 (.inr (by omega)))
          have HW5 : Hid (Rdr w0 w5 rb (q + 2) ∧ Within rb (rb + 1) w w5) := ⟨hr5, HW.out.2.trans ((((Grew.refl _).alloc _).within _ _).trans hw5)⟩
          clear hy hr5 hw5
          obtain ⟨hel, hfr⟩ := HO5.out.at rfl (i := 0) h0
          obtain ⟨z, ez⟩ : ∃ z, xs.getD 0 0 = z := ⟨_, rfl⟩
          rw [ez] at hel
          clear ez
          go_wp2
          go_ret
          have hw6 : Within g (g + 1) w5 (w5.setCell ⟨g, 0, none⟩ (.int .i64 y)) := (Within.refl _ _ _).setCell (p := ⟨g, 0, none⟩) (Nat.le_refl _) (Nat.lt_succ_self _) _
          have hs6 : (w5.setCell ⟨g, 0, none⟩ (.int .i64 y)).heap.size = w5.heap.size := by simp [World.setCell]
          exact ⟨.slice (some ⟨g, 0, none⟩) xs.length c, xs.set 0 y, q + 2, rfl, ⟨g, c, by simp⟩, by rw [hs6]; exact (HO5.out.set rfl 0 y).wide (Nat.le_refl _) (by omega), HX.out.2.1.set hy' 0, HW5.out.1.within hw6 (by omega), by have := HX.out.2.2.2.1; have := HDone.out; omega, HW5.out.2.after hw6 hb.1⟩
        · have hx' : (x == 0) = false := by simp [hx]
          clear hx
          go_wp2
          go_ret
          exact ⟨_, xs, q + 1, rfl, ⟨_, _, rfl⟩, HO.out.wide (Nat.le_refl _) (by omega), HX.out.2.1, HW.out.1, by have := HX.out.2.2.2.1; have := HDone.out; omega, HW.out.2⟩
      · go_wp2
        go_ret
        exact ⟨_, xs, q, rfl, ⟨_, _, rfl⟩, HX.out.1, HX.out.2.1, HX.out.2.2.1, by have := HX.out.2.2.2.1; have := HDone.out; omega, HX.out.2.2.2.2⟩
theorem someProfile_any (w0 w : World) (rb p : Nat) (hr : Rdr w0 w rb p) (hp : p ≤ 1000) :
    Calls Tryd.prog 53 #[.pointer (some ⟨rb, 0, none⟩)] w (SomePPost w0 w rb p) :=
  (someProfile_some w0 w rb p hr hp).mono fun _ _ ⟨v, xs, q, h1, _, h2⟩ => ⟨v, xs, q, h1, h2⟩
end Go.Proofs.YtaeenedjmakelaaDoor
