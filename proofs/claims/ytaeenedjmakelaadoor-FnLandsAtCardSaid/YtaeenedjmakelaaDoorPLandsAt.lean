/- FnLandsAt: for every input the law returns true, and the input reads as it did, where the table of steps reads as the program's text lays it; tied to that text. Its conditions: those two listed variables, tied. -/
import Derived.Test.YtaeenedjmakelaaDoorFramed7
import Derived.Test.YtaeenedjmakelaaDoorAppendInts
import Derived.Test.YtaeenedjmakelaaDoorSomeG
import Derived.Test.YtaeenedjmakelaaDoorFrameS
import Derived.Test.YtaeenedjmakelaaDoorCountL
import Derived.Test.YtaeenedjmakelaaDoorPiecesW
import Derived.Test.YtaeenedjmakelaaDoorPieceT
import Derived.Test.YtaeenedjmakelaaDoorEulerE
import Derived.Test.YtaeenedjmakelaaDoorTied
import Derived.Test.YtaeenedjmakelaaDoorTouching
import Derived.Test.YtaeenedjmakelaaDoorPiecesT
import Derived.OpenShut
import Derived.Test.YtaeenedjmakelaaDoorSPieces
import Derived.Test.YtaeenedjmakelaaDoorCameRows
import Derived.Test.YtaeenedjmakelaaDoorWords
import Derived.Test.YtaeenedjmakelaaDoorTie
import Derived.Test.YtaeenedjmakelaaDoorCards
import Derived.SevenTiedAt
/- The contract of spec.framed. -/
namespace Go.Proofs.YtaeenedjmakelaaDoor
open Go.RowKit

def frRow (x : List Int) : List Int := (-1) :: (x ++ [-1])
def edgeRow (m c : Nat) : List Int := List.replicate c (-1) ++ List.replicate (m + 2 - c) 0
def frameT (h : List (List Int)) (m c : Nat) : List (List Int) := edgeRow m c :: (h.map frRow ++ [edgeRow m c])
def framedL (h : List (List Int)) (m : Nat) : List (List Int) := frameT h m (m + 2)
theorem edgeRow_len (m c : Nat) (h : c ≤ m + 2) : (edgeRow m c).length = m + 2 := by unfold edgeRow; simp; omega
theorem edgeRow_zero (m : Nat) : edgeRow m 0 = List.replicate (m + 2) 0 := by unfold edgeRow; simp
theorem edgeRow_set (m c : Nat) (h : c < m + 2) : (edgeRow m c).set c (-1) = edgeRow m (c + 1) := by
  unfold edgeRow
  rw [List.set_append_right _ _ (by simp), List.length_replicate, Nat.sub_self, show m + 2 - c = (m + 2 - (c + 1)) + 1 by omega, List.replicate_succ, List.set_cons_zero, List.replicate_succ' (n := c), List.append_assoc]
  rfl
theorem frameT_len (h : List (List Int)) (m c : Nat) : (frameT h m c).length = h.length + 2 := by unfold frameT; simp
theorem frameT_first (h : List (List Int)) (m c : Nat) : (frameT h m c).getD 0 [] = edgeRow m c := rfl
theorem frameT_last (h : List (List Int)) (m c d : Nat) : (edgeRow m d :: (h.map frRow ++ [edgeRow m c])).getD (h.length + 1) [] = edgeRow m c := by simp
theorem frameT_step (h : List (List Int)) (m c : Nat) (hc : c < m + 2) :
    ((frameT h m c).set 0 (((frameT h m c).getD 0 []).set c (-1))).set (h.length + 1) ((((frameT h m c).set 0 (((frameT h m c).getD 0 []).set c (-1))).getD (h.length + 1) []).set c (-1)) = frameT h m (c + 1) := by
  rw [frameT_first, edgeRow_set m c hc]
  unfold frameT
  rw [List.set_cons_zero, frameT_last, edgeRow_set m c hc, List.set_cons_succ, List.set_append_right _ _ (by simp)]
  simp
theorem take_nextF {α : Type} (xs : List α) (d : α) (k : Nat) (h : k < xs.length) : xs.take k ++ [xs.getD k d] = xs.take (k + 1) := by
  rw [List.take_succ_eq_append_getElem h]; simp [h]
theorem fr_next (h : List (List Int)) (r : Nat) (hr : r < h.length) : (h.take r).map frRow ++ [frRow (h.getD r [])] = (h.take (r + 1)).map frRow := by
  rw [← take_nextF h [] r hr]
  simp

theorem rows_lit1 {T E lo : Nat} {w : World} {u : Value} {xs : List Int} (hu : IntsO E lo w.heap.size w u xs) (hlo : lo ≤ w.heap.size) : RowsO T E lo (w.heap.size + 1) (w.alloc (.cells #[u] T)) (.slice (some ⟨w.heap.size, 0, none⟩) 1 1) [xs] :=
  ⟨fun _ => u, World.ownsRow_lit w #[u] 1 hlo (by unfold maxLen; omega) rfl, fun g e => by simp [Value.ownBlock] at e; omega, fun r hr => by
    obtain rfl : r = 0 := by simpa using hr
    exact (hu.grew ((Grew.refl w).alloc _)).wide (Nat.le_refl _) (by omega), fun r s h1 h2 => by simp at h2; omega⟩
end Go.Proofs.YtaeenedjmakelaaDoor
/- The contract of spec.someProfile: a drawn row of at most nine numbers in -1 .. 13. -/
namespace Go.Proofs.YtaeenedjmakelaaDoor
open Go.RowKit

def DrawnP (xs : List Int) : Prop := xs.length ≤ 9 ∧ ∀ i, i < xs.length → -1 ≤ xs.getD i 0 ∧ xs.getD i 0 ≤ 13
theorem DrawnP.nil : DrawnP [] := ⟨by simp, fun i hi => absurd hi (Nat.not_lt_zero _)⟩
theorem DrawnP.snoc {xs : List Int} {x : Int} (h : DrawnP xs) (hl : xs.length ≤ 8) (hx : -1 ≤ x ∧ x ≤ 13) : DrawnP (xs ++ [x]) := by
  refine ⟨by simp; omega, fun i hi => ?_⟩
  simp at hi
  by_cases hlt : i < xs.length
  · rw [getD_append_l _ _ _ _ hlt]; exact h.2 i hlt
  · obtain rfl : i = xs.length := by omega
    rw [getD_append_r]; exact hx
theorem DrawnP.set {xs : List Int} {x : Int} (h : DrawnP xs) (hx : -1 ≤ x ∧ x ≤ 13) (j : Nat) : DrawnP (xs.set j x) := by
  refine ⟨by simp; exact h.1, fun i hi => ?_⟩
  simp at hi
  by_cases e : j = i
  · subst e; simp [hi]; exact hx
  · rw [List.getD_eq_getElem?_getD, List.getElem?_set_ne e, ← List.getD_eq_getElem?_getD]; exact h.2 i hi

theorem IntsO.litAt (E lo blk hi n : Nat) (w : World) (xs : List Int) (cs : Array Value) (h : cs.toList = xs.map (.int .i64)) (hb : blk = w.heap.size) (hn : n = xs.length) (hlo : lo ≤ blk) (hhi : blk < hi) (hl : xs.length ≤ maxLen) :
    IntsO E lo hi (w.alloc (.cells cs E)) (.slice (some ⟨blk, 0, none⟩) n n) xs := by
  subst hb hn
  exact (IntsO.lit E lo w xs cs h hlo hl).wide (Nat.le_refl _) hhi

def SomePPost (w0 w : World) (rb p : Nat) (e : Ending) (w' : World) : Prop :=
  ∃ v xs q, e = .returned v ∧ IntsO 3 w.heap.size w'.heap.size w' v xs ∧ DrawnP xs ∧ Rdr w0 w' rb q ∧ q ≤ p + 20 ∧ Within rb (rb + 1) w w'
/-- The same, and never nil. -/
def SomePPost2 (w0 w : World) (rb p : Nat) (e : Ending) (w' : World) : Prop :=
  ∃ v xs q, e = .returned v ∧ (∃ g c, v = .slice (some ⟨g, 0, none⟩) xs.length c) ∧ IntsO 3 w.heap.size w'.heap.size w' v xs ∧ DrawnP xs ∧ Rdr w0 w' rb q ∧ q ≤ p + 20 ∧ Within rb (rb + 1) w w'

set_option maxRecDepth 100000 in
set_option maxHeartbeats 2000000 in
theorem someProfile_some (w0 w : World) (rb p : Nat) (hr : Rdr w0 w rb p) (hp : p ≤ 1000) :
    Calls Tryd.prog 53 #[.pointer (some ⟨rb, 0, none⟩)] w (SomePPost2 w0 w rb p) := by
  have hlt := hr.lt
  have HR := Lib.hid hr
  clear hr
  obtain ⟨iI, hiI, hzI, hsI, hbI⟩ := info_parts Tryd.infoInt
  go_enter Tryd.func53, Tryd.ntmps53
  go_wp2_with (fail)
  refine (one_any w0 _ rb p (w.heap.size + 2) _ [5, 9, 12, 2] (HR.out.later (((Grew.refl _).alloc _).alloc _)) (by omega) (IntsO.litAt _ _ _ _ _ _ [5, 9, 12, 2] _ rfl (by simp) rfl (by omega) (by omega) (by decide)) (by decide) (by decide)).mono ?_
  rintro e w1 ⟨n, hn, rfl, hr1, hw1⟩
  have hn' : 2 ≤ n ∧ n ≤ 12 := by simp at hn; omega
  have hs1 := hw1.size
  simp at hs1
  have HQ1 : Hid (Rdr w0 w1 rb (p + 1) ∧ Within rb (rb + 1) w w1 ∧ IntsO 3 w.heap.size w1.heap.size w1 (.slice (some ⟨w.heap.size, 0, none⟩) 0 0) []) :=
    ⟨hr1, ((((Grew.refl w).alloc _).alloc _).within _ _).trans hw1, ((IntsO.litAt 3 w.heap.size w.heap.size w1.heap.size 0 w [] #[] rfl rfl rfl (Nat.le_refl _) (by omega) (by decide)).grew ((Grew.refl _).alloc _)).within hw1 (.inr (by omega))⟩
  clear hn hr1 hw1
  go_wp2_with (fail)
  refine (one_any w0 _ rb (p + 1) (w1.heap.size + 1) _ [6, 5, 7, 4, 8, 9, 3, 2, 1, 0] (HQ1.out.1.later ((Grew.refl _).alloc _)) (by omega) (IntsO.litAt _ _ _ _ _ _ [6, 5, 7, 4, 8, 9, 3, 2, 1, 0] _ rfl (by simp) rfl (by omega) (by omega) (by decide)) (by decide) (by decide)).mono ?_
  rintro e w2 ⟨m, hm, rfl, hr2, hw2⟩
  have hm' : 0 ≤ m ∧ m ≤ 9 := by simp at hm; omega
  have hs2 := hw2.size
  simp at hs2
  have HQ2 : Hid (Rdr w0 w2 rb (p + 2) ∧ Within rb (rb + 1) w w2 ∧ IntsO 3 w.heap.size w2.heap.size w2 (.slice (some ⟨w.heap.size, 0, none⟩) 0 0) []) :=
    ⟨hr2, HQ1.out.2.1.trans ((((Grew.refl w1).alloc _).within _ _).trans hw2), ((HQ1.out.2.2.grew ((Grew.refl _).alloc _)).within hw2 (.inr (by omega))).wide (Nat.le_refl _) (by omega)⟩
  clear hm hr2 hw2 HQ1
  obtain ⟨M, rfl⟩ := Int.eq_ofNat_of_zero_le (show 0 ≤ m by omega)
  have hM : M ≤ 9 := by omega
  clear hm'
  have hsw : w.heap.size ≤ w2.heap.size := by omega
  go_wp2_with (fail)
  go_loopg [3] M (fun gk v wr => ∃ xs g c q, v = .slice (some ⟨g, 0, none⟩) (List.length xs) c ∧ List.length xs ≤ M ∧ M ≤ gk + List.length xs ∧
    Hid (IntsO 3 w.heap.size wr.heap.size wr v xs ∧ DrawnP xs ∧ Rdr w0 wr rb q ∧ q ≤ p + 2 + List.length xs ∧ Within rb (rb + 1) w wr))
  case atStart => exact ⟨[], _, _, _, rfl, Nat.zero_le _, Nat.le_refl _, HQ2.out.2.2, DrawnP.nil, HQ2.out.1, Nat.le_refl _, HQ2.out.2.1⟩
  case round =>
    obtain ⟨xs, g, c, q, rfl, hx1, hx2, HX⟩ := hrel
    clear HQ2
    have hsz := HX.out.2.2.2.2.size
    by_cases hltx : xs.length < M
    · have hqb : q ≤ 99999 := by have := HX.out.2.2.2.1; omega
      go_wp2_with (fail)
      refine (pick_any w0 _ rb q _ HX.out.2.2.1 (by omega) (by omega)).mono ?_
      rintro e w4 ⟨x, rfl, hx0, hxm, hr4, hw4⟩
      have hx12 : x ≤ 12 := by omega
      have HO := Lib.hid (HX.out.1.within hw4 (.inr (by omega)))
      have HW := Lib.hid (And.intro hr4 (HX.out.2.2.2.2.trans hw4))
      have hsx := hw4.size
      clear hr4 hw4 hxm
      go_wp2_with (at_builtin; refine wpList_append_int rfl (.tmp 17) (.tmp 22) 22 rfl Tryd.underlying22 Tryd.infoInt rfl rfl rfl HO.out (by omega) (by omega) ?_; intro g5 c5 w5 hO5 hW5 hS5)
      have HF := Lib.hid (And.intro hO5 hW5)
      clear hO5 hW5
      go_wp2
      go_roundg (gk - 1)
      case measure => omega
      case rel => exact ⟨xs ++ [x], g5, c5, q + 1, by simp, by simp; omega, by simp; omega, HF.out.1, HX.out.2.1.snoc (by omega) (by omega), HW.out.1.within HF.out.2 (by omega), by have := HX.out.2.2.2.1; simp; omega, HW.out.2.after HF.out.2 (Nat.le_refl _)⟩
    · have hqb : q ≤ 99999 := by have := HX.out.2.2.2.1; omega
      have HDone : Hid (xs.length ≤ 9) := HX.out.2.1.1
      by_cases h0 : 0 < xs.length
      · go_wp2_with (fail)
        refine (pick_any w0 _ rb q _ HX.out.2.2.1 (by omega) (by omega)).mono ?_
        rintro e w4 ⟨x, rfl, hx0, hxm, hr4, hw4⟩
        have HO := Lib.hid (HX.out.1.within hw4 (.inr (by omega)))
        have HW := Lib.hid (And.intro hr4 (HX.out.2.2.2.2.trans hw4))
        have hsx := hw4.size
        have hb := HX.out.1.blk
        clear hr4 hw4 hxm
        by_cases hx : x = 0
        · subst hx
          go_wp2_with (fail)
          refine (one_any w0 _ rb (q + 1) (w4.heap.size + 1) _ [-1, 13] (HW.out.1.later ((Grew.refl _).alloc _)) (by omega) (IntsO.litAt _ _ _ _ _ _ [-1, 13] _ rfl (by simp) rfl (by omega) (by omega) (by decide)) (by decide) (by decide)).mono ?_
          rintro e w5 ⟨y, hy, rfl, hr5, hw5⟩
          have hy' : -1 ≤ y ∧ y ≤ 13 := by simp at hy; omega
          have hs5 := hw5.size
          simp at hs5
          have HO5 := Lib.hid ((HO.out.grew ((Grew.refl _).alloc (.cells #[.int .i64 (-1), .int .i64 13] 3))).within hw5 (.inr (by omega)))
          have HW5 : Hid (Rdr w0 w5 rb (q + 2) ∧ Within rb (rb + 1) w w5) := ⟨hr5, HW.out.2.trans ((((Grew.refl _).alloc _).within _ _).trans hw5)⟩
          clear hy hr5 hw5
          obtain ⟨hel, hfr⟩ := HO5.out.at rfl (i := 0) h0
          obtain ⟨z, ez⟩ : ∃ z, xs.getD 0 0 = z := ⟨_, rfl⟩
          rw [ez] at hel
          clear ez
          go_wp2
          go_ret
          have hw6 : Within g (g + 1) w5 (w5.setCell ⟨g, 0, none⟩ (.int .i64 y)) := (Within.refl _ _ _).setCell (p := ⟨g, 0, none⟩) (Nat.le_refl _) (Nat.lt_succ_self _) _
          have hs6 : (w5.setCell ⟨g, 0, none⟩ (.int .i64 y)).heap.size = w5.heap.size := by simp [World.setCell]
          exact ⟨.slice (some ⟨g, 0, none⟩) xs.length c, xs.set 0 y, q + 2, rfl, ⟨g, c, by simp⟩, by rw [hs6]; exact (HO5.out.set rfl 0 y).wide (Nat.le_refl _) (by omega), HX.out.2.1.set hy' 0, HW5.out.1.within hw6 (by omega), by have := HX.out.2.2.2.1; have := HDone.out; omega, HW5.out.2.after hw6 hb.1⟩
        · have hx' : (x == 0) = false := by simp [hx]
          clear hx
          go_wp2
          go_ret
          exact ⟨_, xs, q + 1, rfl, ⟨_, _, rfl⟩, HO.out.wide (Nat.le_refl _) (by omega), HX.out.2.1, HW.out.1, by have := HX.out.2.2.2.1; have := HDone.out; omega, HW.out.2⟩
      · go_wp2
        go_ret
        exact ⟨_, xs, q, rfl, ⟨_, _, rfl⟩, HX.out.1, HX.out.2.1, HX.out.2.2.1, by have := HX.out.2.2.2.1; have := HDone.out; omega, HX.out.2.2.2.2⟩
theorem someProfile_any (w0 w : World) (rb p : Nat) (hr : Rdr w0 w rb p) (hp : p ≤ 1000) :
    Calls Tryd.prog 53 #[.pointer (some ⟨rb, 0, none⟩)] w (SomePPost w0 w rb p) :=
  (someProfile_some w0 w rb p hr hp).mono fun _ _ ⟨v, xs, q, h1, _, h2⟩ => ⟨v, xs, q, h1, h2⟩
end Go.Proofs.YtaeenedjmakelaaDoor
/- The contracts of the draws that give a grid and a level. -/
namespace Go.Proofs.YtaeenedjmakelaaDoor
open Go.RowKit

/-- A drawn grid in new memory, and a level. -/
def DrawnLevel (w : World) (e : Ending) (w' : World) : Prop := ∃ v H i, e = .returned (.tuple #[v, .int .i64 i]) ∧ RowsO 22 3 w.heap.size w'.heap.size w' v H ∧ Drawn H ∧ (-2 ≤ i ∧ i ≤ 13) ∧ Grew w w'

set_option maxRecDepth 100000 in
set_option maxHeartbeats 1000000 in
theorem DrawLandsAt_any (v : Value) (bs : List Int) (w : World) (hv : NumsV .u8 w v bs) (hb : ∀ i, i < bs.length → 0 ≤ bs.getD i 0 ∧ bs.getD i 0 ≤ 255) :
    Calls Tryd.prog 40 #[v] w (DrawnLevel w) := by
  have HN := Lib.hid (newReader_any v bs w hv hb)
  clear hv hb
  go_enter Tryd.func40, Tryd.ntmps40
  go_wp2_with (fail)
  refine HN.out.mono ?_
  rintro e w1 ⟨rfl, hr⟩
  have HR := Lib.hid hr
  have hl1 := hr.lt
  clear hr
  go_wp2_with (fail)
  refine (someGrid_any w w1 w.heap.size 0 HR.out (by omega)).mono ?_
  rintro e w2 ⟨v2, H, q, rfl, hO, hd, hr2, hq, hw2⟩
  have HS := Lib.hid (And.intro hO (And.intro hd hr2))
  have hs2 := hw2.size
  have hs0 : w.heap.size ≤ w1.heap.size := HR.out.grew.size
  have hq9 : q ≤ 90000 := by omega
  obtain ⟨a3, n3, c3, rfl⟩ : ∃ a n c, v2 = .slice a n c := by
    rcases hO.shape with ⟨rfl, _⟩ | ⟨g, c, rfl, _⟩ <;> exact ⟨_, _, _, rfl⟩
  clear hO hd hr2 hw2 hq
  go_wp2_with (fail)
  refine (one_any w _ w.heap.size q (w2.heap.size + 1) _ [2, 1, 3, 0, 4, 6, -1, 12, 13, -2] (HS.out.2.2.later ((Grew.refl _).alloc _)) (by omega) (IntsO.litAt _ _ _ _ _ _ [2, 1, 3, 0, 4, 6, -1, 12, 13, -2] _ rfl (by simp) rfl (by omega) (by omega) (by simp [maxLen])) (by simp) (by simp)).mono ?_
  rintro e w3 ⟨x, hx, rfl, hr3, hw3⟩
  have hx' : -2 ≤ x ∧ x ≤ 13 := by
    simp at hx
    omega
  have hs3 := hw3.size
  simp at hs3
  have HF : Hid (DrawnLevel w (.returned (.tuple #[.slice a3 n3 c3, .int .i64 x])) w3) :=
    ⟨_, H, x, rfl, ((HS.out.1.grew ((Grew.refl _).alloc _)).within hw3 (.inr (by omega))).wide (by omega) (by omega), HS.out.2.1, hx', hr3.grew⟩
  clear hr3 hw3 hx
  go_wp2
  go_ret2
  exact HF.out





end Go.Proofs.YtaeenedjmakelaaDoor
/- The contracts of spec.holes, spec.HolesAt and impl.HolesAt: the pieces of what is up to a height that do not meet the edge. -/
namespace Go.Proofs.YtaeenedjmakelaaDoor
open Go.RowKit

theorem framedL_len (h : List (List Int)) (m : Nat) : (framedL h m).length = h.length + 2 := frameT_len h m _
theorem edgeRow_all (m C : Nat) (hC : C < m + 2) : (edgeRow m (m + 2)).getD C 0 = -1 := by
  unfold edgeRow
  rw [Nat.sub_self, List.replicate_zero, List.append_nil]
  simp [hC]
theorem framedL_row (h : List (List Int)) (m r : Nat) (hr : r < h.length) : (framedL h m).getD (r + 1) [] = frRow (h.getD r []) := by
  unfold framedL frameT
  simp [hr, List.getElem?_append_left]
theorem framedL_last (h : List (List Int)) (m : Nat) : (framedL h m).getD (h.length + 1) [] = edgeRow m (m + 2) := frameT_last h m _ _
theorem framed_shp {h : List (List Int)} {m : Nat} (G : Grid h m) : Shp7 (framedL h m) (m + 2) := by
  have hn5 := G.n5
  have hm5 := G.m5
  refine ⟨by rw [framedL_len]; omega, by rw [framedL_len]; omega, by omega, by omega, fun r hr => ?_⟩
  rw [framedL_len] at hr
  by_cases e0 : r = 0
  · subst e0; exact edgeRow_len m _ (Nat.le_refl _)
  · by_cases e1 : r = h.length + 1
    · subst e1; rw [framedL_last]; exact edgeRow_len m _ (Nat.le_refl _)
    · obtain ⟨s, rfl⟩ : ∃ s, r = s + 1 := ⟨r - 1, by omega⟩
      rw [framedL_row h m s (by omega), frRow, List.length_cons, List.length_append, List.length_singleton, G.len s (by omega)]
theorem framed_in {h : List (List Int)} {m i : Nat} (G : Grid h m) (hi : i < h.length * m) : (framedL h m).flatten.getD (emb m i) 0 = h.flatten.getD i 0 := by
  have hm : 0 < m := G.m1
  have hr := div_lt_of h.length m i hi
  have hc := Nat.mod_lt i hm
  rw [flat7_at (framed_shp G) (emb m i) (by rw [framedL_len]; exact emb_lt hm hi), emb_div hm, emb_mod hm, framedL_row h m _ hr, flat_at G i hi, frRow]
  have hl := G.len _ hr
  simp [List.getElem?_append_left (show i % m < (h[i / m]?.getD []).length by simpa using (show i % m < (h.getD (i / m) []).length by omega))]
theorem framed_out {h : List (List Int)} {m c : Nat} (G : Grid h m) (hc : c < (h.length + 2) * (m + 2)) (hf : ¬ inF h.length m c) : (framedL h m).flatten.getD c 0 = -1 := by
  have hR : c / (m + 2) < h.length + 2 := div_lt_of (h.length + 2) (m + 2) c hc
  have hC : c % (m + 2) < m + 2 := Nat.mod_lt c (by omega)
  rw [flat7_at (framed_shp G) c (by rw [framedL_len]; exact hc)]
  unfold inF at hf
  obtain ⟨R, eR⟩ : ∃ R, c / (m + 2) = R := ⟨_, rfl⟩
  obtain ⟨C, eC⟩ : ∃ C, c % (m + 2) = C := ⟨_, rfl⟩
  rw [eR] at hR hf ⊢
  rw [eC] at hC hf ⊢
  by_cases e0 : R = 0
  · subst e0; exact edgeRow_all m C hC
  · by_cases e1 : R = h.length + 1
    · subst e1; rw [framedL_last]; exact edgeRow_all m C hC
    · obtain ⟨s, rfl⟩ : ∃ s, R = s + 1 := ⟨R - 1, by omega⟩
      rw [framedL_row h m s (by omega), frRow]
      have hl := G.len s (by omega)
      rcases (show C = 0 ∨ C = m + 1 by omega) with rfl | rfl
      · rfl
      · rw [List.getD_cons_succ, List.getD_eq_getElem?_getD, List.getElem?_append_right (by omega), hl, Nat.sub_self]
        rfl
/-- How many pieces of what is up to t do not meet the edge, corners and all. -/
noncomputable def holesN (h : List (List Int)) (t : Int) : Int := cntT ((h.length + 2) * ((h.getD 0 []).length + 2)) (touchB ((h.getD 0 []).length + 2) true) (below (framedL h (h.getD 0 []).length).flatten t) ((h.length + 2) * ((h.getD 0 []).length + 2)) - 1
noncomputable def holesX (h : List (List Int)) (t : Int) : Int := if vLevel h t = true then holesN h t else -1
theorem holesN_eq {h : List (List Int)} {t : Int} {f : List Int} (hp : vLevel h t = true) (F : Tc.Flats h.length (h.getD 0 []).length (bothB (below h.flatten t)) f) :
    holesT h.length (h.getD 0 []).length (piecesT f (whereL (h.length * (h.getD 0 []).length) (below h.flatten t))) (piecesT f (whereL (h.length * (h.getD 0 []).length) (below h.flatten t))).length = holesN h t := by
  have G := Grid.of (vLevel_grid hp)
  have ht : -1 ≤ t := by
    simp only [vLevel, inR, Bool.and_eq_true, decide_eq_true_eq] at hp
    exact hp.2.1
  refine (framed_holes G.n5 G.m5 G.m1 (fun i hi => ?_) (fun c hc hf => ?_) F rfl).symm
  · unfold below above
    rw [framed_in G hi]
  · unfold below above
    rw [framed_out G hc hf, decide_eq_false (by omega)]
    rfl
set_option maxRecDepth 100000 in
set_option maxHeartbeats 1000000 in
theorem HolesAt_any (v : Value) (h : List (List Int)) (t : Int) (w : World) (hv : RowsV w v h) (hS : Tc.Steps w) :
    Calls Tryd.prog 42 #[v, .int .i64 t] w fun e w' => e = .returned (.int .i64 (holesX h t)) ∧ Grew w w' := by
  unfold holesX
  cases hp : vLevel h t with
  | false =>
    have HV := Lib.hid (validLevel_any v h t w hv)
    obtain ⟨a, b, o, c, rfl, _, _, _⟩ := hv.shape
    clear hv hS
    have HP := Lib.hid hp
    clear hp
    go_enter Tryd.func42, Tryd.ntmps42
    go_wp2_with (fail)
    go_step3
    go_wp2_with (fail)
    refine HV.out.mono ?_
    rw [HP.out]
    rintro e w1 ⟨rfl, rfl⟩
    go_wp2
    try rw [Exit.noGoto_ret]
    try go_ret
    exact ⟨ret_int (by simp), Grew.refl _⟩
  | true =>
    refine (HolesAt_yes v h t w hv hp hS).mono ?_
    rintro e w' ⟨f, F, rfl, hg⟩
    rw [holesN_eq hp F]
    exact ⟨rfl, hg⟩
end Go.Proofs.YtaeenedjmakelaaDoor
/- The contracts of impl.CountsAt and spec.CountsAt. -/
namespace Go.Proofs.YtaeenedjmakelaaDoor
open Go.RowKit

def countX (h : List (List Int)) (t : Int) : Int := if vLevel h t = true then countL h t h.length (h.getD 0 []).length else 0

set_option maxRecDepth 100000 in
set_option maxHeartbeats 1000000 in
theorem CountsAt_any (v : Value) (h : List (List Int)) (t : Int) (w : World) (hv : RowsV w v h) :
    Calls Tryd.prog 43 #[v, .int .i64 t] w fun e w' => e = .returned (.int .i64 (countX h t)) ∧ Grew w w' := by
  have HV := Lib.hid (validLevel_any v h t w hv)
  have HR := Lib.hid hv
  obtain ⟨a, b, o, c, rfl, _, _, _⟩ := hv.shape
  clear hv
  unfold countX
  cases hp : vLevel h t with
  | false =>
    have HP := Lib.hid hp
    clear hp
    go_enter Tryd.func43, Tryd.ntmps43
    go_wp2_with (fail)
    refine HV.out.mono ?_
    rw [HP.out]
    rintro e w1 ⟨rfl, rfl⟩
    go_wp2
    go_ret
    exact ⟨ret_int (by simp), Grew.refl _⟩
  | true =>
    have hg := vLevel_grid hp
    have G := Grid.of hg
    have HB : Hid (∀ R C : Nat, 1 ≤ R → R ≤ 2 → 1 ≤ C → C ≤ 2 → Calls Tryd.prog 78 #[.slice a h.length c, .int .i64 R, .int .i64 C, .int .i64 t] w fun e w' => e = .returned (.int .i64 (blocksL h t R C h.length (h.getD 0 []).length)) ∧ w = w') :=
      fun R C h1 h2 h3 h4 => countBlocks_any _ h R C t w HR.out hg h1 h2 h3 h4
    have b11 := blocks_bd h t 1 1 h.length (h.getD 0 []).length G.n5 G.m5 (by omega) (by omega)
    have b12 := blocks_bd h t 1 2 h.length (h.getD 0 []).length G.n5 G.m5 (by omega) (by omega)
    have b21 := blocks_bd h t 2 1 h.length (h.getD 0 []).length G.n5 G.m5 (by omega) (by omega)
    have b22 := blocks_bd h t 2 2 h.length (h.getD 0 []).length G.n5 G.m5 (by omega) (by omega)
    have HC : Hid (countL h t h.length (h.getD 0 []).length = blocksL h t 1 1 h.length (h.getD 0 []).length - (blocksL h t 1 2 h.length (h.getD 0 []).length + blocksL h t 2 1 h.length (h.getD 0 []).length) + blocksL h t 2 2 h.length (h.getD 0 []).length) := Lib.hid rfl
    have H11 := Lib.hid (HB.out 1 1 (by omega) (by omega) (by omega) (by omega))
    have H12 := Lib.hid (HB.out 1 2 (by omega) (by omega) (by omega) (by omega))
    have H21 := Lib.hid (HB.out 2 1 (by omega) (by omega) (by omega) (by omega))
    have H22 := Lib.hid (HB.out 2 2 (by omega) (by omega) (by omega) (by omega))
    obtain ⟨c11, e11⟩ : ∃ x, blocksL h t 1 1 h.length (h.getD 0 []).length = x := ⟨_, rfl⟩
    obtain ⟨c12, e12⟩ : ∃ x, blocksL h t 1 2 h.length (h.getD 0 []).length = x := ⟨_, rfl⟩
    obtain ⟨c21, e21⟩ : ∃ x, blocksL h t 2 1 h.length (h.getD 0 []).length = x := ⟨_, rfl⟩
    obtain ⟨c22, e22⟩ : ∃ x, blocksL h t 2 2 h.length (h.getD 0 []).length = x := ⟨_, rfl⟩
    rw [e11] at b11 H11 HC
    rw [e12] at b12 H12 HC
    rw [e21] at b21 H21 HC
    rw [e22] at b22 H22 HC
    have HP := Lib.hid hp
    clear hp hg G HB e11 e12 e21 e22
    go_enter Tryd.func43, Tryd.ntmps43
    go_wp2_with (fail)
    refine HV.out.mono ?_
    rw [HP.out]
    rintro e w1 ⟨rfl, rfl⟩
    go_wp2_with (fail)
    refine H11.out.mono ?_
    rintro e w2 ⟨rfl, rfl⟩
    go_wp2_with (fail)
    refine H12.out.mono ?_
    rintro e w3 ⟨rfl, rfl⟩
    go_wp2_with (fail)
    refine H21.out.mono ?_
    rintro e w4 ⟨rfl, rfl⟩
    go_wp2_with (fail)
    refine H22.out.mono ?_
    rintro e w5 ⟨rfl, rfl⟩
    go_wp2
    go_ret
    exact ⟨ret_int (by first | exact HC.out.symm | (rw [if_pos rfl, HC.out])), Grew.refl _⟩

end Go.Proofs.YtaeenedjmakelaaDoor
/- The contract of impl.LandsAt: how many searches begin. -/
namespace Go.Proofs.YtaeenedjmakelaaDoor
open Go.RowKit

/-- How many pieces the cells above t have. -/
noncomputable def landsX (h : List (List Int)) (t : Int) : Int := if vLevel h t = true then cntT (h.length * (h.getD 0 []).length) (touchS (h.getD 0 []).length) (above h.flatten t) (h.length * (h.getD 0 []).length) else -1
set_option maxRecDepth 100000 in
set_option maxHeartbeats 1000000 in
theorem LandsAt_any (v : Value) (h : List (List Int)) (t : Int) (w : World) (hv : RowsV w v h) (hS : Steps w) :
    Calls Tryd.prog 38 #[v, .int .i64 t] w fun e w' => e = .returned (.int .i64 (landsX h t)) ∧ Grew w w' := by
  have HV := Lib.hid (validLevel_any v h t w hv)
  have HR := Lib.hid (And.intro hv hS)
  obtain ⟨a, b, o, c, rfl, _, _, _⟩ := hv.shape
  clear hv hS
  unfold landsX
  cases hp : vLevel h t with
  | false =>
    have HP := Lib.hid hp
    clear hp
    go_enter Tryd.func38, Tryd.ntmps38
    go_wp2_with (fail)
    refine HV.out.mono ?_
    rw [HP.out]
    rintro e w1 ⟨rfl, rfl⟩
    go_wp2
    go_ret
    exact ⟨ret_int (by simp), Grew.refl _⟩
  | true =>
    have hg := vLevel_grid hp
    have G := Grid.of hg
    have hpl := flat_grid_len G
    have hn5 := G.n5
    have hm5 := G.m5
    have HP := Lib.hid (And.intro hp (And.intro hg hpl))
    have HN := Lib.hid (And.intro hn5 hm5)
    clear hp hg hpl G hn5 hm5
    go_enter Tryd.func38, Tryd.ntmps38
    go_wp2_with (fail)
    refine HV.out.mono ?_
    rw [HP.out.1]
    rintro e w1 ⟨rfl, rfl⟩
    go_wp2_with (fail)
    refine (higherThan_any _ h t w HR.out.1 HP.out.2.1).mono ?_
    rintro e w2 ⟨lb, rfl, hT, hg2⟩
    rw [HP.out.2.2] at hT
    have H2 := Lib.hid (And.intro hT hg2)
    clear hT hg2
    go_wp2_with (fail)
    refine (piecesOf_any _ h h.length (h.getD 0 []).length (above h.flatten t) _ lb (enters_of Tryd.func105 (by kernel_rfl) rfl) w2 (HR.out.1.grew H2.out.2) HP.out.2.1 (HR.out.2.grew H2.out.2) rfl rfl H2.out.1).mono ?_
    rintro e w3 ⟨v3, f, rfl, hO3, hF3, hg3⟩
    obtain ⟨a3, c3, rfl⟩ := hO3.sh
    have HG3 := Lib.hid (H2.out.2.trans hg3)
    have hc := pieces_cnt HN.out.1 HN.out.2 hF3 _ (Nat.le_refl _)
    obtain ⟨K, eK⟩ : ∃ K, (piecesT f (whereL (h.length * (h.getD 0 []).length) (above h.flatten t))).length = K := ⟨_, rfl⟩
    rw [eK] at hc ⊢
    have HK := Lib.hid hc
    clear hO3 hg3 eK hc hF3
    go_wp2
    go_ret
    exact ⟨ret_int HK.out, HG3.out⟩
end Go.Proofs.YtaeenedjmakelaaDoor
/- Euler's formula of grids: lands less holes are what is counted at a level, and there are no more lands than cells. -/
namespace Go.Proofs.YtaeenedjmakelaaDoor
open Go.RowKit

theorem rt_congr {N : Nat} {T : Nat → Nat → Bool} {B B' : Nat → Bool} (h : ∀ i, i < N → B i = B' i) {i j : Nat} (hr : RT N T B i j) : RT N T B' i j := by
  induction hr with
  | refl => exact .refl
  | step _ hk hbk hT ih => exact .step ih hk (by rw [← h _ hk]; exact hbk) hT
theorem lead_congr {N : Nat} {T : Nat → Nat → Bool} {B B' : Nat → Bool} (h : ∀ i, i < N → B i = B' i) {c : Nat} (hc : c < N) (hl : LeadT N T B c) : LeadT N T B' c :=
  ⟨by rw [← h c hc]; exact hl.1, fun ⟨b, hb, hB, hr⟩ => hl.2 ⟨b, hb, by rw [h b (by omega)]; exact hB, rt_congr (fun i hi => (h i hi).symm) hr⟩⟩
theorem cntT_congr {N : Nat} {T : Nat → Nat → Bool} {B B' : Nat → Bool} (h : ∀ i, i < N → B i = B' i) : ∀ k, k ≤ N → cntT N T B k = cntT N T B' k
  | 0, _ => rfl
  | k + 1, hk => by
    have ih := cntT_congr (T := T) h k (by omega)
    by_cases hl : LeadT N T B k
    · rw [cntT_yes hl, cntT_yes (lead_congr h (by omega) hl), ih]
    · rw [cntT_no hl, cntT_no (fun h' => hl (lead_congr (fun i hi => (h i hi).symm) (by omega) h')), ih]
theorem cnt_oneE {N : Nat} {T : Nat → Nat → Bool} {B : Nat → Bool} (h0 : B 0 = true) (hall : ∀ c, c < N → B c = true → RT N T B 0 c) : ∀ k, k < N → cntT N T B (k + 1) = 1
  | 0, _ => by rw [cntT_yes ⟨h0, fun ⟨b, hb, _⟩ => absurd hb (Nat.not_lt_zero _)⟩]; rfl
  | k + 1, hk => by
    rw [cntT_no (fun hl => hl.2 ⟨0, by omega, h0, hall _ hk hl.1⟩)]
    exact cnt_oneE h0 hall k (by omega)
theorem cnt_noneE {N : Nat} {T : Nat → Nat → Bool} {B : Nat → Bool} : ∀ k, (∀ c, c < k → B c = false) → cntT N T B k = 0
  | 0, _ => rfl
  | k + 1, h => by
    rw [cntT_no (fun hl => by have := h k (by omega); rw [hl.1] at this; cases this)]
    exact cnt_noneE k fun c hc => h c (by omega)
theorem grid_all {n m : Nat} {T : Nat → Nat → Bool} {B : Nat → Bool} (hB : ∀ i, i < n * m → B i = true) (hright : ∀ R C, R < n → C + 1 < m → T (R * m + C) (R * m + (C + 1)) = true) (hdown : ∀ R C, R + 1 < n → C < m → T (R * m + C) ((R + 1) * m + C) = true) :
    ∀ C, C < m → ∀ R, R < n → RT (n * m) T B 0 (R * m + C)
  | 0, hC, 0, hR => by rw [Nat.zero_mul]; exact .refl
  | 0, hC, R + 1, hR => (grid_all hB hright hdown 0 hC R (by omega)).step (idx_lt hR hC) (hB _ (idx_lt hR hC)) (hdown R 0 hR hC)
  | C + 1, hC, R, hR => (grid_all hB hright hdown C (by omega) R hR).step (idx_lt hR hC) (hB _ (idx_lt hR hC)) (hright R C hR hC)
theorem cell_of {n m i : Nat} (hi : i < n * m) : i / m < n ∧ i % m < m ∧ i = i / m * m + i % m := by
  have hm : 0 < m := Nat.pos_of_ne_zero fun e => by subst e; omega
  exact ⟨div_lt_of n m i hi, Nat.mod_lt i hm, by rw [Nat.mul_comm]; exact (Nat.div_add_mod i m).symm⟩
theorem touchS_right {m R C : Nat} (h : C + 1 < m) : touchS m (R * m + C) (R * m + (C + 1)) = true := by
  unfold touchS
  rw [idx_div (by omega), idx_div h, idx_mod (by omega), idx_mod h, Int.sub_self, show (C : Int) - ((C + 1 : Nat) : Int) = -1 by omega]
  decide
theorem touchS_down {m R C : Nat} (h : C < m) : touchS m (R * m + C) ((R + 1) * m + C) = true := by
  unfold touchS
  rw [idx_div h, idx_div h, idx_mod h, idx_mod h, Int.sub_self, show (R : Int) - ((R + 1 : Nat) : Int) = -1 by omega]
  decide
theorem celB_congr {n m : Nat} {B B' : Nat → Bool} (h : ∀ i, i < n * m → B i = B' i) : celB n m B = celB n m B' := by
  funext R C
  by_cases hin : 0 ≤ R ∧ R < n ∧ 0 ≤ C ∧ C < m
  · unfold celB
    rw [h _ (idx_lt (by omega) (by omega))]
  · rw [celB_out hin, celB_out hin]
theorem eulD_congr {n m : Nat} {B B' : Nat → Bool} (h : ∀ i, i < n * m → B i = B' i) : eulD n m B = eulD n m B' := by
  unfold eulD chiI quadI frB
  rw [cntT_congr h _ (Nat.le_refl _), celB_congr h]
theorem chi_all_chk : ∀ n, n < 6 → ∀ m, m < 6 → 0 < n → 0 < m → chiI n m (fun _ => true) = 1 := by decide +kernel
theorem eul_none {n m : Nat} : eulD n m (fun _ => false) = 0 := by
  have hc : ∀ R C, celB n m (fun _ => false) R C = false := fun R C => by unfold celB; rw [Bool.and_false]
  have hf : ∀ k, frB n m (fun _ => false) k = true := fun k => by unfold frB; rw [hc]; rfl
  have hN : (0 : Nat) < (n + 2) * (m + 2) := Nat.mul_pos (by omega) (by omega)
  have h1 : cntT ((n + 2) * (m + 2)) (touchB (m + 2) true) (frB n m (fun _ => false)) ((n + 2) * (m + 2)) = 1 := by
    have := cnt_oneE (N := (n + 2) * (m + 2)) (T := touchB (m + 2) true) (B := frB n m (fun _ => false)) (hf 0) (fun c hcN _ => by
      obtain ⟨g1, g2, g3⟩ := cell_of hcN
      rw [g3]
      exact grid_all (fun i _ => hf i) (fun R C hR hC => touch2.2 (by rw [idx_div (by omega), idx_div hC, idx_mod (by omega), idx_mod hC]; omega)) (fun R C hR hC => touch2.2 (by rw [idx_div hC, idx_div hC, idx_mod hC, idx_mod hC]; omega)) _ g2 _ g1) ((n + 2) * (m + 2) - 1) (by omega)
    rwa [show (n + 2) * (m + 2) - 1 + 1 = (n + 2) * (m + 2) by omega] at this
  have h2 : chiI n m (fun _ => false) = 0 := by
    unfold chiI
    rw [sumTo_congr (g := fun _ => 0) fun i _ => ?_, sumTo_zero]
    rw [sumTo_congr (g := fun _ => 0) fun j _ => ?_, sumTo_zero]
    unfold quadI
    rw [hc, hc, hc, hc]; rfl
  unfold eulD
  rw [h1, h2, cnt_noneE _ fun _ _ => rfl]
  rfl
theorem eul_all {n m : Nat} (hn : n ≤ 5) (hm : m ≤ 5) (hn1 : 0 < n) (hm1 : 0 < m) : eulD n m (fun _ => true) = 0 := by
  have hN0 : 0 < n * m := Nat.mul_pos hn1 hm1
  have h0 : cntT (n * m) (touchS m) (fun _ => true) (n * m) = 1 := by
    have := cnt_oneE (N := n * m) (T := touchS m) (B := fun _ => true) rfl (fun c hcN _ => by
      obtain ⟨g1, g2, g3⟩ := cell_of hcN
      rw [g3]
      exact grid_all (fun i _ => rfl) (fun R C hR hC => touchS_right hC) (fun R C hR hC => touchS_down hC) _ g2 _ g1) (n * m - 1) (by omega)
    rwa [show n * m - 1 + 1 = n * m by omega] at this
  have hN : (0 : Nat) < (n + 2) * (m + 2) := Nat.mul_pos (by omega) (by omega)
  have hFr : ∀ c, c < (n + 2) * (m + 2) → ¬ inF n m c → frB n m (fun _ => true) c = true := fun c _ h => frB_out _ h
  have h1 : cntT ((n + 2) * (m + 2)) (touchB (m + 2) true) (frB n m (fun _ => true)) ((n + 2) * (m + 2)) = 1 := by
    have := cnt_oneE (N := (n + 2) * (m + 2)) (T := touchB (m + 2) true) (B := frB n m (fun _ => true)) (hFr 0 hN (by unfold inF; rw [Nat.zero_div]; omega)) (fun c hcN hc => by
      refine frame_all hFr hcN fun hin => ?_
      obtain ⟨i, hi, rfl⟩ := emb_of hm1 hin
      rw [frB_emb _ hi] at hc
      cases hc) ((n + 2) * (m + 2) - 1) (by omega)
    rwa [show (n + 2) * (m + 2) - 1 + 1 = (n + 2) * (m + 2) by omega] at this
  unfold eulD
  rw [h0, h1, chi_all_chk n (by omega) m (by omega) hn1 hm1]
  rfl
/-- Pieces less holes are cells less pairs and more squares. -/
theorem euler {n m : Nat} (hn : n ≤ 5) (hm : m ≤ 5) (hn1 : 0 < n) (hm1 : 0 < m) (S : Nat → Bool) : eulD n m S = 0 := by
  have step : ∀ (B : Nat → Bool) (x : Nat), x < n * m → B x = false → eulD n m (put1 B x) ≤ eulD n m B := fun B x hx hb => by
    obtain ⟨g1, g2, g3⟩ := cell_of hx
    rw [g3] at hb ⊢
    exact euler_step g1 g2 hb
  have u1 := chain_first (D := eulD n m) (N := n * m) (fun B x hx h => step B x hx (h x (Nat.le_refl _))) S (n * m) (Nat.le_refl _)
  have u2 := chain_with (D := eulD n m) (N := n * m) (fun B x hx _ hb => step B x hx hb) S (n * m) (Nat.le_refl _)
  have e1 : eulD n m (firstB S (n * m)) = eulD n m S := eulD_congr fun i hi => by unfold firstB; rw [decide_eq_true hi, Bool.true_and]
  have e2 : eulD n m (firstB S 0) = 0 := (eulD_congr fun i hi => by unfold firstB; simp).trans eul_none
  have e3 : eulD n m (withB S (n * m)) = 0 := (eulD_congr fun i hi => by unfold withB; rw [decide_eq_true hi, Bool.true_or]).trans (eul_all hn hm hn1 hm1)
  have e4 : eulD n m (withB S 0) = eulD n m S := eulD_congr fun i hi => by unfold withB; simp
  omega
theorem celB_hi {h : List (List Int)} {m : Nat} (g : Grid h m) (t : Int) (R C : Nat) : celB h.length m (above h.flatten t) R C = if R < h.length then (if C < m then hiB h t R C else false) else false := by
  by_cases hR : R < h.length
  · by_cases hC : C < m
    · rw [if_pos hR, if_pos hC]
      unfold celB above hiB
      rw [Int.toNat_natCast, Int.toNat_natCast, decide_eq_true (by omega), Bool.true_and, cell_flat g hR hC]
    · rw [if_pos hR, if_neg hC, celB_out (by omega)]
  · rw [if_neg hR, celB_out (by omega)]
theorem chi_count {h : List (List Int)} {m : Nat} (g : Grid h m) (t : Int) : chiI h.length m (above h.flatten t) = countL h t h.length m := by
  rw [← squares_blocks g t, sumTo_grid]
  refine sumTo_congr fun r hr => sumTo_congr fun c hc => ?_
  rw [sq_cell g t hr hc]
  unfold quadI
  rw [show ((c : Int) + 1) = ((c + 1 : Nat) : Int) by omega, show ((r : Int) + 1) = ((r + 1 : Nat) : Int) by omega, celB_hi g, celB_hi g, celB_hi g, celB_hi g, if_pos hr, if_pos hc, if_pos hr, if_pos hc]
  unfold locI
  by_cases h1 : c + 1 < m <;> by_cases h2 : r + 1 < h.length <;> simp only [h1, h2, if_true, if_false, Bool.and_false] <;> rfl
/-- Lands less holes are counted. -/
theorem lands_count {h : List (List Int)} {t : Int} (hp : vLevel h t = true) : landsX h t - holesX h t = countX h t ∧ landsX h t ≤ areaX h t ∧ 0 ≤ landsX h t ∧ landsX h t ≤ 25 := by
  have G := Grid.of (vLevel_grid hp)
  have ht : -1 ≤ t := by
    simp only [vLevel, inR, Bool.and_eq_true, decide_eq_true_eq] at hp
    exact hp.2.1
  have hpl := flat_grid_len G
  have hE := euler G.n5 G.m5 G.n1 G.m1 (above h.flatten t)
  unfold landsX holesX countX areaX
  rw [if_pos hp, if_pos hp, if_pos hp, if_pos hp, ← chi_count G]
  have hfr : holesN h t = cntT ((h.length + 2) * ((h.getD 0 []).length + 2)) (touchB ((h.getD 0 []).length + 2) true) (frB h.length (h.getD 0 []).length (above h.flatten t)) ((h.length + 2) * ((h.getD 0 []).length + 2)) - 1 := by
    unfold holesN
    rw [cntT_congr (fun c hc => ?_) _ (Nat.le_refl _)]
    by_cases hf : inF h.length (h.getD 0 []).length c
    · obtain ⟨i, hi, rfl⟩ := emb_of G.m1 hf
      rw [frB_emb _ hi]
      unfold below above
      rw [framed_in G hi]
    · rw [frB_out _ hf]
      unfold below above
      rw [framed_out G hc hf, decide_eq_false (by omega)]
      rfl
  rw [hfr]
  have hN : h.length * (h.getD 0 []).length ≤ 5 * 5 := Nat.mul_le_mul G.n5 G.m5
  have hb := cntT_le (h.length * (h.getD 0 []).length) (touchS (h.getD 0 []).length) (above h.flatten t) (h.length * (h.getD 0 []).length)
  have ha := cnt_le_cells (h.length * (h.getD 0 []).length) (touchS (h.getD 0 []).length) (above h.flatten t) (h.length * (h.getD 0 []).length)
  unfold areaL
  rw [hpl]
  unfold eulD at hE
  refine ⟨by omega, ha, hb.1, by omega⟩
end Go.Proofs.YtaeenedjmakelaaDoor
/- What two listed variables give a walk: both tables lie where they are laid; and a world that meets the condition. -/
namespace Go.Proofs.YtaeenedjmakelaaDoor
open Go.RowKit Go.ChangeShapes Go.WideShapes Go.ChangeAt

abbrev laid2 : List (String × DataW Unit) := [("loop.example/wateronheights/impl.steps", Rows.laid_loop_example_wateronheights_impl_steps), ("loop.example/wateronheights/impl.cornerSteps", Rows.laid_loop_example_wateronheights_impl_cornerSteps)]
theorem gCorn : Tryd.prog.globalNamed "loop.example/wateronheights/impl.cornerSteps" = some 1 := by kernel_rfl
theorem tCorn : (Tryd.prog.globals[1]?).map (·.type) = some 98 := by kernel_rfl
theorem door_met2 (os : Os) (args : Array Value) : laidMetH Tryd.prog laid2 ((World.doorLaid Tryd.prog 400 os).forCall (fun _ _ => 0) ⟨#[], args, []⟩).memory :=
  laidMetH_of_parts3 (fuel := 8) (laidMet_of_run' 8 (by kernel_rfl) (by kernel_rfl)) (by kernel_rfl) (by kernel_rfl)
set_option maxRecDepth 100000 in
theorem steps_of_laid2 {W : World} (h : laidMetH Tryd.prog laid2 W) : Tc.Steps W := by
  rw [MakeChecks.laidMetH_plain _ _ _ (by kernel_rfl)] at h
  obtain ⟨ps, ⟨g0, t0, cs0, f0, p0, q0, hg0, ht0, hv0, hd0, ⟨g1, t1, cs1, f1, p1, q1, hg1, ht1, hv1, hd1, _, hps1⟩, hps⟩, _, hz⟩ := h
  have h0 : Go.Proofs.YtaeenedjmakelaaDoor.Steps W := by
      obtain rfl := Option.some.inj (gSteps.symm.trans hg0)
      obtain rfl := Option.some.inj (tSteps.symm.trans ht0)
      obtain ⟨xs, m, rfl, hx, hlen, hn, hel⟩ := DataW.trod_array Tryd.underlying98 hd0
      rw [cSteps] at hlen
      simp only [Prod.mk.injEq] at hx
      obtain ⟨l0⟩ := cs0
      obtain ⟨a0, a1, a2, a3, a4, a5, a6, a7, rfl⟩ := list8 (show l0.length = 8 from hlen)
      obtain ⟨x0, x1, x2, x3, rfl⟩ := list4 hn
      have k0 := hel 0 (by decide)
      have k1 := hel 1 (by decide)
      have k2 := hel 2 (by decide)
      have k3 := hel 3 (by decide)
      rw [cPlace] at k0 k1 k2 k3
      have hcell : ∃ c t, W.heap[0]? = some (.cells c t (0, 0)) := by
        refine hz 0 0 ?_ |>.1
        rw [hps]
        simp only [List.append_assoc, List.mem_append]
        left
        show MemPlace.cell 0 0 ∈ MemPlace.row ⟨0, 0, none⟩ 8
        decide
      obtain ⟨c, t, hc⟩ := hcell
      have hc2 : c = ⟨[a0, a1, a2, a3, a4, a5, a6, a7]⟩ := by
        unfold World.var? at hv0
        rw [gSteps] at hv0
        simp only [Option.bind_some, hc] at hv0
        exact Option.some.inj hv0
      subst hc2
      refine ⟨t, ?_⟩
      rw [hc]
      have hx' := hx.1
      unfold Rows.laid_loop_example_wateronheights_impl_steps at hx'
      simp only [DataW.agg.injEq, List.map_cons, List.map_nil, List.cons.injEq, and_true] at hx'
      obtain ⟨d0, d1, d2, d3⟩ := hx'
      obtain ⟨y0, z0⟩ := x0
      obtain ⟨y1, z1⟩ := x1
      obtain ⟨y2, z2⟩ := x2
      obtain ⟨y3, z3⟩ := x3
      simp only at d0 d1 d2 d3
      subst d0 d1 d2 d3
      have e0 := place_cells (show DataW.trod _ Tryd.prog W 0 _ false m 97 [a0, a1] = some _ from k0)
      have e1 := place_cells (show DataW.trod _ Tryd.prog W 0 _ false m 97 [a2, a3] = some _ from k1)
      have e2 := place_cells (show DataW.trod _ Tryd.prog W 0 _ false m 97 [a4, a5] = some _ from k2)
      have e3 := place_cells (show DataW.trod _ Tryd.prog W 0 _ false m 97 [a6, a7] = some _ from k3)
      simp only [List.cons.injEq, and_true] at e0 e1 e2 e3
      obtain ⟨rfl, rfl⟩ := e0
      obtain ⟨rfl, rfl⟩ := e1
      obtain ⟨rfl, rfl⟩ := e2
      obtain ⟨rfl, rfl⟩ := e3
      rfl
  have h1 : Tc.Corners W := by
      obtain rfl := Option.some.inj (gCorn.symm.trans hg1)
      obtain rfl := Option.some.inj (tCorn.symm.trans ht1)
      obtain ⟨xs, m, rfl, hx, hlen, hn, hel⟩ := DataW.trod_array Tryd.underlying98 hd1
      rw [cSteps] at hlen
      simp only [Prod.mk.injEq] at hx
      obtain ⟨l0⟩ := cs1
      obtain ⟨a0, a1, a2, a3, a4, a5, a6, a7, rfl⟩ := list8 (show l0.length = 8 from hlen)
      obtain ⟨x0, x1, x2, x3, rfl⟩ := list4 hn
      have k0 := hel 0 (by decide)
      have k1 := hel 1 (by decide)
      have k2 := hel 2 (by decide)
      have k3 := hel 3 (by decide)
      rw [cPlace] at k0 k1 k2 k3
      have hcell : ∃ c t, W.heap[1]? = some (.cells c t (0, 0)) := by
        refine hz 1 0 ?_ |>.1
        rw [hps, hps1]
        simp only [List.append_assoc, List.mem_append]
        right
        right
        left
        show MemPlace.cell 1 0 ∈ MemPlace.row ⟨1, 0, none⟩ 8
        decide
      obtain ⟨c, t, hc⟩ := hcell
      have hc2 : c = ⟨[a0, a1, a2, a3, a4, a5, a6, a7]⟩ := by
        unfold World.var? at hv1
        rw [gCorn] at hv1
        simp only [Option.bind_some, hc] at hv1
        exact Option.some.inj hv1
      subst hc2
      refine ⟨t, ?_⟩
      rw [hc]
      have hx' := hx.1
      unfold Rows.laid_loop_example_wateronheights_impl_cornerSteps at hx'
      simp only [DataW.agg.injEq, List.map_cons, List.map_nil, List.cons.injEq, and_true] at hx'
      obtain ⟨d0, d1, d2, d3⟩ := hx'
      obtain ⟨y0, z0⟩ := x0
      obtain ⟨y1, z1⟩ := x1
      obtain ⟨y2, z2⟩ := x2
      obtain ⟨y3, z3⟩ := x3
      simp only at d0 d1 d2 d3
      subst d0 d1 d2 d3
      have e0 := place_cells (show DataW.trod _ Tryd.prog W 0 _ false m 97 [a0, a1] = some _ from k0)
      have e1 := place_cells (show DataW.trod _ Tryd.prog W 0 _ false m 97 [a2, a3] = some _ from k1)
      have e2 := place_cells (show DataW.trod _ Tryd.prog W 0 _ false m 97 [a4, a5] = some _ from k2)
      have e3 := place_cells (show DataW.trod _ Tryd.prog W 0 _ false m 97 [a6, a7] = some _ from k3)
      simp only [List.cons.injEq, and_true] at e0 e1 e2 e3
      obtain ⟨rfl, rfl⟩ := e0
      obtain ⟨rfl, rfl⟩ := e1
      obtain ⟨rfl, rfl⟩ := e2
      obtain ⟨rfl, rfl⟩ := e3
      rfl
  exact ⟨h0, h1⟩
end Go.Proofs.YtaeenedjmakelaaDoor
/- The contract of spec.LandsAt. -/
namespace Go.Proofs.YtaeenedjmakelaaDoor
open Go.RowKit

theorem belX_above (p : List Int) (t : Int) : belX p t true = above p t := by
  funext i
  unfold belX
  simp
theorem touchB_no (m : Nat) : touchB m false = touchS m := by
  funext i k
  rfl
set_option maxRecDepth 100000 in
set_option maxHeartbeats 1000000 in
theorem SLandsAt_any (v : Value) (h : List (List Int)) (t : Int) (w : World) (hv : RowsV w v h) :
    Calls Tryd.prog 41 #[v, .int .i64 t] w fun e w' => e = .returned (.int .i64 (landsX h t)) ∧ Grew w w' := by
  have HV := Lib.hid (validTop_any v h t w hv)
  have HR := Lib.hid hv
  obtain ⟨a, b, o, c, rfl, _, _, _⟩ := hv.shape
  clear hv
  unfold landsX
  cases hp : vLevel h t with
  | false =>
    have HP := Lib.hid hp
    clear hp
    go_enter Tryd.func41, Tryd.ntmps41
    go_wp2_with (fail)
    refine HV.out.mono ?_
    rw [HP.out]
    rintro e w1 ⟨rfl, hg1⟩
    have HG1 := Lib.hid hg1
    clear hg1
    go_wp2
    go_ret
    exact ⟨ret_int (by simp), HG1.out⟩
  | true =>
    have HP := Lib.hid (And.intro hp (vLevel_grid hp))
    clear hp
    go_enter Tryd.func41, Tryd.ntmps41
    go_wp2_with (fail)
    refine HV.out.mono ?_
    rw [HP.out.1]
    rintro e w1 ⟨rfl, hg1⟩
    have HG1 := Lib.hid hg1
    clear hg1
    go_wp2_with (fail)
    refine (spieces_any _ h t true false _ (HR.out.grew HG1.out) HP.out.2).mono ?_
    rw [belX_above, touchB_no]
    obtain ⟨K, eK⟩ : ∃ K, cntT (h.length * (h.getD 0 []).length) (touchS (h.getD 0 []).length) (above h.flatten t) (h.length * (h.getD 0 []).length) = K := ⟨_, rfl⟩
    rw [eK]
    rintro e w2 ⟨rfl, hg2⟩
    have HG2 := Lib.hid (HG1.out.trans hg2)
    have HK := Lib.hid eK
    clear hg2 eK
    go_wp2
    go_ret
    exact ⟨ret_int HK.out.symm, HG2.out⟩
end Go.Proofs.YtaeenedjmakelaaDoor
/- The law FnLandsAt returns true. -/
namespace Go.Proofs.YtaeenedjmakelaaDoor
open Go.RowKit

set_option maxRecDepth 100000 in
set_option maxHeartbeats 4000000 in
theorem FnLandsAt_any (v : Value) (bs : List Int) (w : World) (hv : NumsV .u8 w v bs) (hb : ∀ i, i < bs.length → 0 ≤ bs.getD i 0 ∧ bs.getD i 0 ≤ 255) (hS : Tc.Steps w) :
    Calls Tryd.prog 9 #[v] w fun e w' => e = .returned (.bool true) ∧ Grew w w' := by
  have HD := Lib.hid (DrawLandsAt_any v bs w hv hb)
  have HS := Lib.hid hS
  obtain ⟨a, b, o, c, rfl, ⟨hlc, hcb⟩, _, _⟩ := hv.shape
  clear hv hb hS
  by_cases hbig : 1048576 < bs.length
  · go_enter Tryd.func9, Tryd.ntmps9
    go_wp2
    go_ret
    exact ⟨rfl, Grew.refl _⟩
  · go_enter Tryd.func9, Tryd.ntmps9
    go_wp2_with (fail)
    refine HD.out.mono ?_
    rintro e w1 ⟨v1, h, t, rfl, hO, hd, ht, hg1⟩
    have HV := Lib.hid (And.intro hO.toV hg1)
    have HS1 : Hid (Tc.Steps w1) := Lib.hid (HS.out.grew hg1)
    have HS0 : Hid (Steps w1) := Lib.hid (And.left HS1.out)
    obtain ⟨a3, c3, rfl⟩ := hO.sh
    obtain ⟨X, eX⟩ : ∃ X, landsX h t = X := ⟨_, rfl⟩
    have HX := Lib.hid eX
    clear hO hd hg1 HD eX
    go_wp2_with (fail)
    (with_reducible refine (LandsAt_any _ h t _ HV.out.1 HS0.out).mono ?_)
    rw [HX.out]
    rintro e w2 ⟨rfl, hg2⟩
    have HG2 := Lib.hid hg2
    clear hg2
    go_wp2_with (fail)
    (with_reducible refine (SLandsAt_any _ h t _ (HV.out.1.grew HG2.out)).mono ?_)
    rw [HX.out]
    rintro e w3 ⟨rfl, hg3⟩
    have HG3 := Lib.hid (HG2.out.trans hg3)
    clear hg3
    have exx : (X != X) = false := by simp
    cases hp : vLevel h t with
    | false =>
      have hX : X = -1 := by rw [← HX.out]; unfold landsX; rw [hp]; rfl
      subst hX
      clear hp
      go_wp2_with (fail)
      (with_reducible refine (SLandsAt_any _ h t _ (HV.out.1.grew HG3.out)).mono ?_)
      rw [HX.out]
      rintro e w4 ⟨rfl, hg4⟩
      have HG4 := Lib.hid (HV.out.2.trans (HG3.out.trans hg4))
      clear hg4
      go_wp2
      go_ret
      exact ⟨rfl, HG4.out⟩
    | true =>
      obtain ⟨l1, l2, l3, l4⟩ := lands_count hp
      rw [HX.out] at l1 l2 l3 l4
      obtain ⟨A, eA⟩ : ∃ A, areaX h t = A := ⟨_, rfl⟩
      obtain ⟨Z, eZ⟩ : ∃ Z, holesX h t = Z := ⟨_, rfl⟩
      obtain ⟨K, eK⟩ : ∃ K, countX h t = K := ⟨_, rfl⟩
      rw [eA] at l2
      rw [eZ, eK] at l1
      have hZ : -1 ≤ Z ∧ Z ≤ 48 := by
        rw [← eZ]
        unfold holesX
        rw [if_pos hp]
        have G := Grid.of (vLevel_grid hp)
        have hb := cntT_le ((h.length + 2) * ((h.getD 0 []).length + 2)) (touchB ((h.getD 0 []).length + 2) true) (below (framedL h (h.getD 0 []).length).flatten t) ((h.length + 2) * ((h.getD 0 []).length + 2))
        have hN : (h.length + 2) * ((h.getD 0 []).length + 2) ≤ 7 * 7 := Nat.mul_le_mul (by have := G.n5; omega) (by have := G.m5; omega)
        unfold holesN
        omega
      have wK : IntKind.i64.wrap (X - Z) = K := by rw [IntWalk.i64_in _ (by omega)]; exact l1
      have HA := Lib.hid (And.intro eA (And.intro eZ eK))
      have hX0 : ¬ X < 0 := by omega
      have eKK : (K == K) = true := by simp
      have eXA : decide (X ≤ A) = true := decide_eq_true l2
      clear hp l1 l2 l3 l4 eA eZ eK hZ
      go_wp2_with (fail)
      (with_reducible refine (HolesAt_any _ h t _ (HV.out.1.grew HG3.out) (HS1.out.grew HG3.out)).mono ?_)
      rw [HA.out.2.1]
      rintro e w4 ⟨rfl, hg4⟩
      have HG4 := Lib.hid (HG3.out.trans hg4)
      clear hg4
      go_wp2_with (fail)
      (with_reducible refine (CountsAt_any _ h t _ (HV.out.1.grew HG4.out)).mono ?_)
      rw [HA.out.2.2]
      rintro e w5 ⟨rfl, hg5⟩
      have HG5 := Lib.hid (HG4.out.trans hg5)
      clear hg5
      go_wp2_with (fail)
      (with_reducible refine (AreaAt_any _ h t _ (HV.out.1.grew HG5.out)).mono ?_)
      rw [HA.out.1]
      rintro e w6 ⟨rfl, hg6⟩
      have HG6 := Lib.hid (HV.out.2.trans (HG5.out.trans hg6))
      clear hg6
      go_wp2
      go_ret
      exact ⟨ret_bool (by first | rfl | (simp; done) | (simp [wK]; done) | (simp [wK, eXA]; done)), HG6.out⟩
end Go.Proofs.YtaeenedjmakelaaDoor
namespace Go.Proofs.YtaeenedjmakelaaDoor.pLandsAt
open Go.RowKit Go.ChangeShapes Go.WideShapes Go.ChangeAt

set_option maxRecDepth 100000 in
theorem lifted (os : Os) (started : os.Started) (H : Type) (enc : TypeId × Value → H) :
    ReturnsInHanded {} Tryd.checked os 9 .any (fun w args => (Rows.fnLandsAtSpec.pre enc Tryd.prog Tryd.f9 [] false w args ∧ laidMetH Tryd.prog laid2 w) ∧ sizedMet enc Tryd.prog Tryd.f9 (OpenSpec.ofChange Rows.fnLandsAtSpec) false w args)
      (Rows.fnLandsAtSpec.post enc Tryd.prog Tryd.f9 false true false false) := by
  refine returnsInHanded_of_change_and (C := Tryd.checked) (X := fun w _ => laidMetH Tryd.prog laid2 w) (fun _ _ _ hh h => h.of_heap hh) Tryd.own started (by kernel_rfl) Tryd.func9
    (ChangeSpec.witness_shaped (enc := enc) (C := Tryd.checked) (os := os) (X := fun w _ => laidMetH Tryd.prog laid2 w) false (World.doorLaid Tryd.prog 400 os) #[.slice none 0 0] 8 rfl (World.shaped_of_RefB (by kernel_rfl) (by kernel_rfl)) (by kernel_rfl) (by kernel_rfl) (by kernel_rfl) (door_met2 os _)) ?_
  intro W base args ds gs before hval0 hW _ _ hL _
  have hval : ∀ (j : Nat) t v, Tryd.f9.params[j]? = some t → args[j]? = some v → Value.okWide Tryd.prog W .any base t v := hval0
  have hW' := hW
  obtain ⟨p, q, hA0, hV, rfl, _, _⟩ := hW
  have hA : DataW.TrodAll enc Tryd.prog W 0 (fun _ => true) true Tryd.f9.params.toList args.toList ds p := hA0
  rw [Tryd.params9] at hA hval
  obtain ⟨v0, d0, rfl, rfl, h0⟩ := trodAll_one hA
  have hV' := hV
  obtain ⟨_, _, _, _, dv0, _, _, _, _, _, dv1, _, rfl, _⟩ := trodVars_two hV
  obtain ⟨a0, len0, cap0, rfl⟩ := okWide_slice Tryd.underlying27 (hval 0 27 v0 rfl rfl)
  have k0 := h0
  have lt0 : ∀ x ∈ p, x.block < W.heap.size := by obtain ⟨m, hm⟩ := k0; exact DataW.trod_lt m _ _ _ hm
  obtain ⟨bs0, hn0, hb0⟩ := bytes_came h0
  have HS := steps_of_laid2 hL
  clear hA0 hval0
  refine (FnLandsAt_any _ bs0 W hn0 hb0 HS).mono fun e W' ⟨he, bel⟩ => ?_
  subst he
  exact ⟨_, rfl, _, _, _, [], _, q, hW', trodAll_mk1 (shut_bool Tryd.underlying4 _), (trodAll_mk1 (Below.trod Tryd.laidOut (by kernel_rfl) (of_decide_eq_true (by kernel_rfl)) k0 bel lt0)), Below.trodVars Tryd.laidOut bel (by kernel_rfl) hV', Below.frame bel _, fun h => by cases h⟩

theorem row_proved : Rows.FnLandsAtSaid :=
  OpenClaim.holds_of_wide 9 Tryd.f9 rfl rfl rfl rfl rfl rfl rfl ⟨rfl, rfl, rfl, rfl, rfl⟩ rfl rfl rfl rfl rfl (by kernel_rfl) Tryd.func9
    (show joinedFacts Tryd.prog 9 Tryd.f9 Rows.fnLandsAtSpec Rows.fnLandsAtRow = true by unfold joinedFacts; rw [Tryd.makeG, Tryd.liftsG, Tryd.enterG]; kernel_rfl)
    (of_decide_eq_true (by kernel_rfl)) (by unfold Func.isWrapper; first | (rw [if_pos (by decide +kernel)]; kernel_rfl) | (rw [if_neg (by decide +kernel)]; exact ⟨rfl, rfl⟩))
    (fun os started H enc _ => lifted os started H enc)

theorem proved : Rows.FnLandsAtCardSaid :=
  Claim7.holds_tied_plain_at .later [] [.data, .data] true Rows.fnLandsAtCard.stood.harness Rows.fnLandsAtCard.stood.looks
    row_proved (fun _ h => by cases h) (by kernel_rfl) (fun _ h => by cases h) fnLandsAt_row_tie rfl ⟨rfl, rfl⟩ (show Tryd.prog.mainIs = some (Rows.fnLandsAtCard.stood.harness.1, Rows.fnLandsAtCard.stood.harness.2.toList) from Tryd.mainG) rfl
    (fun f fn hf hfn => by
      obtain rfl : f = 9 := Option.some.inj ((show Tryd.prog.funcNamed "loop.example/wateronheights/laws.FnLandsAt" = some 9 by kernel_rfl).symm.trans hf) |>.symm
      obtain rfl : fn = Tryd.f9 := (Option.some.inj (Tryd.func9.symm.trans hfn)).symm
      exact ⟨by kernel_rfl, fun j t ht => by
        rw [Tryd.params9] at ht
        have hm : t ∈ [27] := by simpa using Array.mem_of_getElem? ht
        have hall : ([27].all fun u => !Tryd.prog.wantsStandIn u) = true := by kernel_rfl
        exact (show Tryd.prog.wantsStandIn t = false by simpa using List.all_eq_true.1 hall t hm)⟩)
    (by kernel_rfl)
#print axioms proved
end Go.Proofs.YtaeenedjmakelaaDoor.pLandsAt
