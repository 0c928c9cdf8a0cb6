/- The contracts of spec.DrawEarthCost and spec.DrawEarthMoves, and of spec.DrawTerraceCost. -/
import Derived.Test.YtlifjhhjkcmneaaSomeP
import Derived.Test.YtlifjhhjkcmneaaRowOf
import Derived.Test.YtlifjhhjkcmneaaAppendInts
import Derived.OwnWalk
namespace Go.Proofs.Ytlifjhhjkcmneaa
open Go.RowKit

/-- A drawn row in new memory, and a number. -/
def DrawnTerr (w : World) (e : Ending) (w' : World) : Prop := ∃ v xs k, e = .returned (.tuple #[v, .int .i64 k]) ∧ IntsO 3 w.heap.size w'.heap.size w' v xs ∧ DrawnP xs ∧ (0 ≤ k ∧ k ≤ 10) ∧ Grew w w'
set_option maxRecDepth 100000 in
set_option maxHeartbeats 1000000 in
theorem DrawTerraceCost_any (v : Value) (bs : List Int) (w : World) (hv : NumsV .u8 w v bs) (hb : ∀ i, i < bs.length → 0 ≤ bs.getD i 0 ∧ bs.getD i 0 ≤ 255) :
    Calls Try.prog 28 #[v] w (DrawnTerr w) := by
  have HN := Lib.hid (newReader_any v bs w hv hb)
  clear hv hb
  go_enter Try.func28, Try.ntmps28
  go_wp2_with (fail)
  refine HN.out.mono ?_
  rintro e w1 ⟨rfl, hr⟩
  have HR := Lib.hid hr
  have hl1 := hr.lt
  clear hr
  go_wp2_with (fail)
  refine (someProfile_any w w1 w.heap.size 0 HR.out (by omega)).mono ?_
  rintro e w2 ⟨v2, xs, q, rfl, hO, hd, hr2, hq, hw2⟩
  have HS := Lib.hid (And.intro hO (And.intro hd hr2))
  have hq20 : q ≤ 20 := by omega
  have hs2 := hw2.size
  have hs0 : w.heap.size ≤ w1.heap.size := HR.out.grew.size
  obtain ⟨a3, n3, c3, rfl⟩ : ∃ a n c, v2 = .slice a n c := by
    rcases hO.shape with ⟨rfl, rfl⟩ | ⟨g, c, rfl, _⟩
    · exact ⟨_, _, _, rfl⟩
    · exact ⟨_, _, _, rfl⟩
  clear hO hd hr2 hw2 hq
  go_wp2_with (fail)
  refine (one_any w _ w.heap.size q (w2.heap.size + 1) _ [2, 3, 1, 4, 9, 0, 10] (HS.out.2.2.later ((Grew.refl _).alloc _)) (by omega) (IntsO.litAt _ _ _ _ _ _ [2, 3, 1, 4, 9, 0, 10] _ rfl (by simp) rfl (by omega) (by omega) (by simp [maxLen])) (by simp) (by simp)).mono ?_
  rintro e w5 ⟨x, hx, rfl, hr5, hw5⟩
  have hx' : 0 ≤ x ∧ x ≤ 10 := by
    simp at hx
    omega
  have hs5 := hw5.size
  simp at hs5
  have HF : Hid (DrawnTerr w (.returned (.tuple #[.slice a3 n3 c3, .int .i64 x])) w5) :=
    ⟨_, xs, x, rfl, ((HS.out.1.grew ((Grew.refl _).alloc _)).within hw5 (.inr (by omega))).wide (by omega) (by omega), HS.out.2.1, hx', hr5.grew⟩
  clear hr5 hw5 hx
  go_wp2
  go_ret2
  exact HF.out

/-- Numbers that a drawn second row has. -/
def DrawnQ (xs : List Int) : Prop := ∀ i, i < xs.length → -1 ≤ xs.getD i 0 ∧ xs.getD i 0 ≤ 14
theorem DrawnP.q {xs : List Int} (h : DrawnP xs) : ∀ i, i < xs.length → -1 ≤ xs.getD i 0 ∧ xs.getD i 0 ≤ 13 := h.2
/-- Two drawn rows in new memory. -/
def DrawnTwo (w : World) (e : Ending) (w' : World) : Prop := ∃ v u p q, e = .returned (.tuple #[v, u]) ∧ IntsV w' v p ∧ IntsV w' u q ∧ p.length ≤ 9 ∧ q.length = p.length ∧ Grew w w'
theorem getD_setQ (s : List Int) (j : Nat) (x : Int) (hj : j < s.length) (i : Nat) : (s.set j x).getD i 0 = if i = j then x else s.getD i 0 := by
  by_cases h : i = j
  · subst h; simp [hj]
  · rw [if_neg h]
    simp [Ne.symm h]
theorem bd_set {s : List Int} {j : Nat} {x : Int} (h : ∀ i, i < s.length → -1 ≤ s.getD i 0 ∧ s.getD i 0 ≤ 13) (hj : j < s.length) (hx : -1 ≤ x ∧ x ≤ 13) : ∀ i, i < (s.set j x).length → -1 ≤ (s.set j x).getD i 0 ∧ (s.set j x).getD i 0 ≤ 13 := fun i hi => by
  rw [List.length_set] at hi
  rw [getD_setQ _ _ _ hj]
  by_cases e : i = j
  · rw [if_pos e]; exact hx
  · rw [if_neg e]; exact h i hi

set_option maxRecDepth 100000 in
set_option maxHeartbeats 4000000 in
theorem DrawEarthCost_any (v : Value) (bs : List Int) (w : World) (hv : NumsV .u8 w v bs) (hb : ∀ i, i < bs.length → 0 ≤ bs.getD i 0 ∧ bs.getD i 0 ≤ 255) :
    Calls Try.prog 35 #[v] w (DrawnTwo w) := by
  have HN := Lib.hid (newReader_any v bs w hv hb)
  clear hv hb
  go_enter Try.func35, Try.ntmps35
  go_wp2_with (fail)
  refine HN.out.mono ?_
  rintro e w1 ⟨rfl, hr⟩
  have HR := Lib.hid hr
  have hl1 := hr.lt
  clear hr
  go_wp2_with (fail)
  refine (someProfile_some w w1 w.heap.size 0 HR.out (by omega)).mono ?_
  rintro e w2 ⟨v2, xs, q, rfl, ⟨g, c3, rfl⟩, hO, hd, hr2, hq, hw2⟩
  have HS := Lib.hid (And.intro hO (And.intro hd hr2))
  have hq20 : q ≤ 20 := by omega
  have hs2 := hw2.size
  have hs0 : w.heap.size ≤ w1.heap.size := HR.out.grew.size
  have h9 := hd.1
  have hC : Hid (∀ i, i < xs.length → (w2.alloc (.cells #[] 3)).cell? ⟨g, 0 + i, none⟩ = some (.int .i64 (xs.getD i 0))) := fun i hi => by
    rw [Nat.zero_add]
    exact ((Grew.refl _).alloc _).cell (hO.at rfl hi).1
  have H0 : Hid (IntsO 3 w2.heap.size (w2.heap.size + 1) (w2.alloc (.cells #[] 3)) (.slice (some ⟨w2.heap.size, 0, none⟩) 0 0) []) :=
    Lib.hid (by have := IntsO.lit 3 w2.heap.size w2 [] #[] rfl (Nat.le_refl _) (by decide); simpa using this)
  clear hO hd hr2 hw2 hq
  go_wp2_with (at_builtin; refine wpList_append_rowOf rfl (.tmp 14) (.tmp 15) 23 rfl Try.underlying23 Try.infoInt rfl rfl rfl hC.out H0.out (by simp; omega) (by simp) ?_; intro g5 c5 w5 hO5 hW5)
  simp only [List.length_nil, Nat.zero_add, List.nil_append] at hO5 ⊢
  have hs5 := hW5.size
  simp at hs5
  have H5 : Hid (IntsO 3 w2.heap.size w5.heap.size w5 (.slice g5 xs.length c5) xs ∧ IntsO 3 w1.heap.size w2.heap.size w5 (.slice (some ⟨g, 0, none⟩) xs.length c3) xs ∧ Rdr w w5 w.heap.size q) :=
    ⟨hO5, (HS.out.1.grew ((Grew.refl _).alloc _)).within hW5 (.inl (Nat.le_refl _)), (HS.out.2.2.later ((Grew.refl _).alloc _)).within hW5 (by omega)⟩
  clear hO5 hW5 H0
  go_wp2_with (fail)
  refine (pick_any w w5 w.heap.size q 12 H5.out.2.2 (by omega) (by omega)).mono ?_
  rintro e w6 ⟨K, rfl, hK0, hK1, hr6, hw6⟩
  have hs6 := hw6.size
  obtain ⟨k0, rfl⟩ := Int.eq_ofNat_of_zero_le hK0
  have hk12 : k0 ≤ 12 := by omega
  have H6 : Hid (IntsO 3 w2.heap.size w6.heap.size w6 (.slice g5 xs.length c5) xs ∧ IntsO 3 w1.heap.size w2.heap.size w6 (.slice (some ⟨g, 0, none⟩) xs.length c3) xs ∧ Rdr w w6 w.heap.size (q + 1) ∧ (∀ i, i < xs.length → -1 ≤ xs.getD i 0 ∧ xs.getD i 0 ≤ 13)) :=
    ⟨(H5.out.1.within hw6 (.inr (by omega))).wide (Nat.le_refl _) hs6, H5.out.2.1.within hw6 (.inr (by omega)), hr6, HS.out.2.1.q⟩
  clear hr6 hw6 H5 hK0 hK1
  go_wp2
  go_loopw [7] (fun kv wr => ∃ (k : Nat) (ys : List Int) (qq : Nat), kv = .int .i64 (k : Int) ∧ k ≤ 12 ∧ Hid (ys.length = xs.length ∧ qq + 2 * k ≤ q + 1 + 24 ∧ IntsO 3 w2.heap.size wr.heap.size wr (.slice g5 xs.length c5) ys ∧ IntsO 3 w1.heap.size w2.heap.size wr (.slice (some ⟨g, 0, none⟩) xs.length c3) xs ∧ Rdr w wr w.heap.size qq ∧ (∀ i, i < ys.length → -1 ≤ ys.getD i 0 ∧ ys.getD i 0 ≤ 13) ∧ w2.heap.size ≤ wr.heap.size)) (fun kv _ => (intOf kv).toNat)
  case atStart => exact ⟨k0, xs, q + 1, rfl, hk12, rfl, by omega, H6.out.1, H6.out.2.1, H6.out.2.2.1, H6.out.2.2.2, by omega⟩
  case round =>
    obtain ⟨k, ys, qq, rfl, hk, HI⟩ := hrel
    have hqq : qq ≤ 99990 := by have := HI.out.2.1; omega
    have hsw := HI.out.2.2.2.2.2.2
    by_cases hgo : 0 < k ∧ 0 < xs.length
    · obtain ⟨hk0, hx0⟩ := hgo
      have e1 : (0 : Int) < k := by omega
      have e2 : (0 : Int) < xs.length := by omega
      go_wp2_with (fail)
      refine (pick_any w _ w.heap.size qq (xs.length : Int) HI.out.2.2.2.2.1 (by omega) (by omega)).mono ?_
      rintro e w7 ⟨A, rfl, hA0, hA1, hr7, hw7⟩
      have hs7 := hw7.size
      obtain ⟨A, rfl⟩ := Int.eq_ofNat_of_zero_le hA0
      have hA : A < xs.length := by omega
      have H7 : Hid (IntsO 3 w2.heap.size w7.heap.size w7 (.slice g5 xs.length c5) ys ∧ IntsO 3 w1.heap.size w2.heap.size w7 (.slice (some ⟨g, 0, none⟩) xs.length c3) xs ∧ Rdr w w7 w.heap.size (qq + 1)) :=
        ⟨(HI.out.2.2.1.within hw7 (.inr (by omega))).wide (Nat.le_refl _) hs7, HI.out.2.2.2.1.within hw7 (.inr (by omega)), hr7⟩
      clear hr7 hw7 hA0 hA1
      go_wp2_with (fail)
      refine (pick_any w _ w.heap.size (qq + 1) (xs.length : Int) H7.out.2.2 (by omega) (by omega)).mono ?_
      rintro e w8 ⟨B, rfl, hB0, hB1, hr8, hw8⟩
      have hs8 := hw8.size
      obtain ⟨B, rfl⟩ := Int.eq_ofNat_of_zero_le hB0
      have hB : B < xs.length := by omega
      have H8 : Hid (IntsO 3 w2.heap.size w8.heap.size w8 (.slice g5 xs.length c5) ys ∧ IntsO 3 w1.heap.size w2.heap.size w8 (.slice (some ⟨g, 0, none⟩) xs.length c3) xs ∧ Rdr w w8 w.heap.size (qq + 2)) :=
        ⟨(H7.out.1.within hw8 (.inr (by omega))).wide (Nat.le_refl _) hs8, H7.out.2.1.within hw8 (.inr (by omega)), hr8⟩
      clear hr8 hw8 hB0 hB1 H7
      obtain ⟨b5, c5', e5, hb5lo, hb5hi⟩ : ∃ b c, (Value.slice g5 xs.length c5) = .slice (some ⟨b, 0, none⟩) xs.length c ∧ w2.heap.size ≤ b ∧ b < w8.heap.size := by
        obtain ⟨b, c, e, h1, h2, _⟩ := H8.out.1.pos (by rw [HI.out.1]; exact hx0)
        exact ⟨b, c, by rw [e, HI.out.1], h1, h2⟩
      simp only [Value.slice.injEq] at e5
      obtain ⟨rfl, _, rfl⟩ := e5
      obtain ⟨hcA, hfA⟩ := H8.out.1.at rfl (i := A) (by rw [HI.out.1]; exact hA)
      obtain ⟨hcB, hfB⟩ := H8.out.1.at rfl (i := B) (by rw [HI.out.1]; exact hB)
      have hbA := HI.out.2.2.2.2.2.1 A (by rw [HI.out.1]; exact hA)
      have hbB := HI.out.2.2.2.2.2.1 B (by rw [HI.out.1]; exact hB)
      obtain ⟨x, ex⟩ : ∃ x, ys.getD A 0 = x := ⟨_, rfl⟩
      obtain ⟨y, ey⟩ : ∃ y, ys.getD B 0 = y := ⟨_, rfl⟩
      rw [ex] at hcA hbA
      rw [ey] at hcB hbB
      have r1 : (A : Int) < xs.length := by omega
      have r2 : (0 : Int) ≤ A := by omega
      have r3 : (B : Int) < xs.length := by omega
      have r4 : (0 : Int) ≤ B := by omega
      obtain ⟨k1, rfl⟩ : ∃ k1, k = k1 + 1 := ⟨k - 1, by omega⟩
      have hkk : ((k1 + 1 : Nat) : Int) - 1 = (k1 : Int) := by omega
      clear ex ey
      by_cases hc : 0 < x ∧ y < 12 ∧ A ≠ B
      · obtain ⟨hc1, hc2, hc3⟩ := hc
        have hc3' : ((A : Int) != (B : Int)) = true := by simp; omega
        have d1 : decide (0 < x) = true := by simpa using hc1
        have d2 : decide (y < 12) = true := by simpa using hc2
        have hwi : Within b5 (b5 + 1) w8 ((w8.setCell ⟨b5, A, none⟩ (.int .i64 (x - 1))).setCell ⟨b5, B, none⟩ (.int .i64 (y + 1))) :=
          ((Within.refl _ _ _).setCell (p := ⟨b5, A, none⟩) (Nat.le_refl _) (Nat.lt_succ_self _) _).setCell (p := ⟨b5, B, none⟩) (Nat.le_refl _) (Nat.lt_succ_self _) _
        have hszs : ((w8.setCell ⟨b5, A, none⟩ (.int .i64 (x - 1))).setCell ⟨b5, B, none⟩ (.int .i64 (y + 1))).heap.size = w8.heap.size := by simp [World.setCell]
        have H9 : Hid (((ys.set A (x - 1)).set B (y + 1)).length = xs.length ∧ IntsO 3 w2.heap.size ((w8.setCell ⟨b5, A, none⟩ (.int .i64 (x - 1))).setCell ⟨b5, B, none⟩ (.int .i64 (y + 1))).heap.size ((w8.setCell ⟨b5, A, none⟩ (.int .i64 (x - 1))).setCell ⟨b5, B, none⟩ (.int .i64 (y + 1))) (.slice (some ⟨b5, 0, none⟩) xs.length c5) ((ys.set A (x - 1)).set B (y + 1)) ∧
            IntsO 3 w1.heap.size w2.heap.size ((w8.setCell ⟨b5, A, none⟩ (.int .i64 (x - 1))).setCell ⟨b5, B, none⟩ (.int .i64 (y + 1))) (.slice (some ⟨g, 0, none⟩) xs.length c3) xs ∧ Rdr w ((w8.setCell ⟨b5, A, none⟩ (.int .i64 (x - 1))).setCell ⟨b5, B, none⟩ (.int .i64 (y + 1))) w.heap.size (qq + 2) ∧
            (∀ i, i < ((ys.set A (x - 1)).set B (y + 1)).length → -1 ≤ ((ys.set A (x - 1)).set B (y + 1)).getD i 0 ∧ ((ys.set A (x - 1)).set B (y + 1)).getD i 0 ≤ 13) ∧ w2.heap.size ≤ ((w8.setCell ⟨b5, A, none⟩ (.int .i64 (x - 1))).setCell ⟨b5, B, none⟩ (.int .i64 (y + 1))).heap.size) := by
          refine ⟨by simp [HI.out.1], ?_, H8.out.2.1.within hwi (.inl hb5lo), H8.out.2.2.within hwi (by omega), bd_set (bd_set HI.out.2.2.2.2.2.1 (by rw [HI.out.1]; exact hA) (by omega)) (by rw [List.length_set, HI.out.1]; exact hB) (by omega), by omega⟩
          rw [hszs]
          exact (H8.out.1.set rfl A (x - 1)).set rfl B (y + 1)
        clear hwi hszs
        go_wp2
        go_roundw
        case rel => exact ⟨k1, _, qq + 2, by go_num, by omega, H9.out.1, by have := HI.out.2.1; omega, H9.out.2⟩
        case measure => simp [intOf]
      · have H9 : Hid (ys.length = xs.length ∧ qq + 2 + 2 * k1 ≤ q + 1 + 24 ∧ IntsO 3 w2.heap.size w8.heap.size w8 (.slice (some ⟨b5, 0, none⟩) xs.length c5) ys ∧ IntsO 3 w1.heap.size w2.heap.size w8 (.slice (some ⟨g, 0, none⟩) xs.length c3) xs ∧ Rdr w w8 w.heap.size (qq + 2) ∧ (∀ i, i < ys.length → -1 ≤ ys.getD i 0 ∧ ys.getD i 0 ≤ 13) ∧ w2.heap.size ≤ w8.heap.size) :=
          ⟨HI.out.1, by have := HI.out.2.1; omega, H8.out.1, H8.out.2.1, H8.out.2.2, HI.out.2.2.2.2.2.1, by omega⟩
        by_cases hc1 : 0 < x
        · have d1 : decide (0 < x) = true := by simpa using hc1
          by_cases hc2 : y < 12
          · have d2 : decide (y < 12) = true := by simpa using hc2
            have hc3 : A = B := by omega
            have hc3' : ((A : Int) != (B : Int)) = false := by simp [hc3]
            clear hc hc3
            go_wp2
            go_roundw
            case rel => exact ⟨k1, ys, qq + 2, by go_num, by omega, H9.out⟩
            case measure => simp [intOf]
          · have d2 : decide (y < 12) = false := by simpa using hc2
            clear hc
            go_wp2
            go_roundw
            case rel => exact ⟨k1, ys, qq + 2, by go_num, by omega, H9.out⟩
            case measure => simp [intOf]
        · have d1 : decide (0 < x) = false := by simpa using hc1
          clear hc
          go_wp2
          go_roundw
          case rel => exact ⟨k1, ys, qq + 2, by go_num, by omega, H9.out⟩
          case measure => simp [intOf]
    · by_cases hx0 : 0 < xs.length
      · have hk0 : k = 0 := by omega
        have e2 : (0 : Int) < xs.length := by omega
        subst hk0
        clear hgo
        go_wp2_with (fail)
        refine (pick_any w _ w.heap.size qq 20 HI.out.2.2.2.2.1 (by omega) (by omega)).mono ?_
        rintro e w7 ⟨A, rfl, hA0, hA1, hr7, hw7⟩
        have hs7 := hw7.size
        have H8 : Hid (IntsO 3 w2.heap.size w7.heap.size w7 (.slice g5 xs.length c5) ys ∧ IntsO 3 w1.heap.size w2.heap.size w7 (.slice (some ⟨g, 0, none⟩) xs.length c3) xs ∧ Rdr w w7 w.heap.size (qq + 1)) :=
          ⟨(HI.out.2.2.1.within hw7 (.inr (by omega))).wide (Nat.le_refl _) hs7, HI.out.2.2.2.1.within hw7 (.inr (by omega)), hr7⟩
        clear hr7 hw7
        by_cases hz : A = 0
        · subst hz
          obtain ⟨b5, c5', e5, hb5lo, hb5hi⟩ : ∃ b c, (Value.slice g5 xs.length c5) = .slice (some ⟨b, 0, none⟩) xs.length c ∧ w2.heap.size ≤ b ∧ b < w7.heap.size := by
            obtain ⟨b, c, e, h1, h2, _⟩ := H8.out.1.pos (by rw [HI.out.1]; exact hx0)
            exact ⟨b, c, by rw [e, HI.out.1], h1, h2⟩
          simp only [Value.slice.injEq] at e5
          obtain ⟨rfl, _, rfl⟩ := e5
          obtain ⟨hcA, hfA⟩ := H8.out.1.at rfl (i := 0) (by rw [HI.out.1]; exact hx0)
          have hbA := HI.out.2.2.2.2.2.1 0 (by rw [HI.out.1]; exact hx0)
          obtain ⟨x, ex⟩ : ∃ x, ys.getD 0 0 = x := ⟨_, rfl⟩
          rw [ex] at hcA hbA
          clear ex
          have hwi : Within b5 (b5 + 1) w7 (w7.setCell ⟨b5, 0, none⟩ (.int .i64 (x + 1))) := (Within.refl _ _ _).setCell (p := ⟨b5, 0, none⟩) (Nat.le_refl _) (Nat.lt_succ_self _) _
          have H9 : Hid (DrawnTwo w (.returned (.tuple #[.slice (some ⟨g, 0, none⟩) xs.length c3, .slice (some ⟨b5, 0, none⟩) xs.length c5])) (w7.setCell ⟨b5, 0, none⟩ (.int .i64 (x + 1)))) :=
            ⟨_, _, xs, ys.set 0 (x + 1), rfl, (H8.out.2.1.within hwi (.inl hb5lo)).toV, (H8.out.1.set rfl 0 (x + 1)).toV, h9, by simp [HI.out.1], Within.grew H8.out.2.2.grew hwi (by omega)⟩
          clear hwi
          go_wp2
          go_ret2
          exact H9.out
        · have hz' : (A == 0) = false := by simp [hz]
          have H9 : Hid (DrawnTwo w (.returned (.tuple #[.slice (some ⟨g, 0, none⟩) xs.length c3, .slice g5 xs.length c5])) w7) :=
            ⟨_, _, xs, ys, rfl, H8.out.2.1.toV, H8.out.1.toV, h9, HI.out.1, H8.out.2.2.grew⟩
          clear hz
          go_wp2
          go_ret2
          exact H9.out
      · have e2 : ¬ (0 : Int) < xs.length := by omega
        have H9 : Hid (DrawnTwo w (.returned (.tuple #[.slice (some ⟨g, 0, none⟩) xs.length c3, .slice g5 xs.length c5])) wr) :=
          ⟨_, _, xs, ys, rfl, HI.out.2.2.2.1.toV, HI.out.2.2.1.toV, h9, HI.out.1, HI.out.2.2.2.2.1.grew⟩
        clear hgo
        by_cases hk0 : 0 < k
        · have e1 : (0 : Int) < k := by omega
          go_wp2
          go_ret2
          exact H9.out
        · obtain rfl : k = 0 := by omega
          go_wp2
          go_ret2
          exact H9.out

set_option maxRecDepth 100000 in
set_option maxHeartbeats 4000000 in
theorem DrawEarthMoves_any (v : Value) (bs : List Int) (w : World) (hv : NumsV .u8 w v bs) (hb : ∀ i, i < bs.length → 0 ≤ bs.getD i 0 ∧ bs.getD i 0 ≤ 255) :
    Calls Try.prog 40 #[v] w (DrawnTwo w) := by
  have HN := Lib.hid (newReader_any v bs w hv hb)
  clear hv hb
  go_enter Try.func40, Try.ntmps40
  go_wp2_with (fail)
  refine HN.out.mono ?_
  rintro e w1 ⟨rfl, hr⟩
  have HR := Lib.hid hr
  have hl1 := hr.lt
  clear hr
  go_wp2_with (fail)
  refine (someProfile_some w w1 w.heap.size 0 HR.out (by omega)).mono ?_
  rintro e w2 ⟨v2, xs, q, rfl, ⟨g, c3, rfl⟩, hO, hd, hr2, hq, hw2⟩
  have HS := Lib.hid (And.intro hO (And.intro hd hr2))
  have hq20 : q ≤ 20 := by omega
  have hs2 := hw2.size
  have hs0 : w.heap.size ≤ w1.heap.size := HR.out.grew.size
  have h9 := hd.1
  have hC : Hid (∀ i, i < xs.length → (w2.alloc (.cells #[] 3)).cell? ⟨g, 0 + i, none⟩ = some (.int .i64 (xs.getD i 0))) := fun i hi => by
    rw [Nat.zero_add]
    exact ((Grew.refl _).alloc _).cell (hO.at rfl hi).1
  have H0 : Hid (IntsO 3 w2.heap.size (w2.heap.size + 1) (w2.alloc (.cells #[] 3)) (.slice (some ⟨w2.heap.size, 0, none⟩) 0 0) []) :=
    Lib.hid (by have := IntsO.lit 3 w2.heap.size w2 [] #[] rfl (Nat.le_refl _) (by decide); simpa using this)
  clear hO hd hr2 hw2 hq
  go_wp2_with (at_builtin; refine wpList_append_rowOf rfl (.tmp 14) (.tmp 15) 23 rfl Try.underlying23 Try.infoInt rfl rfl rfl hC.out H0.out (by simp; omega) (by simp) ?_; intro g5 c5 w5 hO5 hW5)
  simp only [List.length_nil, Nat.zero_add, List.nil_append] at hO5 ⊢
  have hs5 := hW5.size
  simp at hs5
  have H5 : Hid (IntsO 3 w2.heap.size w5.heap.size w5 (.slice g5 xs.length c5) xs ∧ IntsO 3 w1.heap.size w2.heap.size w5 (.slice (some ⟨g, 0, none⟩) xs.length c3) xs ∧ Rdr w w5 w.heap.size q) :=
    ⟨hO5, (HS.out.1.grew ((Grew.refl _).alloc _)).within hW5 (.inl (Nat.le_refl _)), (HS.out.2.2.later ((Grew.refl _).alloc _)).within hW5 (by omega)⟩
  clear hO5 hW5 H0
  go_wp2_with (fail)
  refine (pick_any w w5 w.heap.size q 12 H5.out.2.2 (by omega) (by omega)).mono ?_
  rintro e w6 ⟨K, rfl, hK0, hK1, hr6, hw6⟩
  have hs6 := hw6.size
  obtain ⟨k0, rfl⟩ := Int.eq_ofNat_of_zero_le hK0
  have hk12 : k0 ≤ 12 := by omega
  have H6 : Hid (IntsO 3 w2.heap.size w6.heap.size w6 (.slice g5 xs.length c5) xs ∧ IntsO 3 w1.heap.size w2.heap.size w6 (.slice (some ⟨g, 0, none⟩) xs.length c3) xs ∧ Rdr w w6 w.heap.size (q + 1) ∧ (∀ i, i < xs.length → -1 ≤ xs.getD i 0 ∧ xs.getD i 0 ≤ 13)) :=
    ⟨(H5.out.1.within hw6 (.inr (by omega))).wide (Nat.le_refl _) hs6, H5.out.2.1.within hw6 (.inr (by omega)), hr6, HS.out.2.1.q⟩
  clear hr6 hw6 H5 hK0 hK1
  go_wp2
  go_loopw [7] (fun kv wr => ∃ (k : Nat) (ys : List Int) (qq : Nat), kv = .int .i64 (k : Int) ∧ k ≤ 12 ∧ Hid (ys.length = xs.length ∧ qq + 2 * k ≤ q + 1 + 24 ∧ IntsO 3 w2.heap.size wr.heap.size wr (.slice g5 xs.length c5) ys ∧ IntsO 3 w1.heap.size w2.heap.size wr (.slice (some ⟨g, 0, none⟩) xs.length c3) xs ∧ Rdr w wr w.heap.size qq ∧ (∀ i, i < ys.length → -1 ≤ ys.getD i 0 ∧ ys.getD i 0 ≤ 13) ∧ w2.heap.size ≤ wr.heap.size)) (fun kv _ => (intOf kv).toNat)
  case atStart => exact ⟨k0, xs, q + 1, rfl, hk12, rfl, by omega, H6.out.1, H6.out.2.1, H6.out.2.2.1, H6.out.2.2.2, by omega⟩
  case round =>
    obtain ⟨k, ys, qq, rfl, hk, HI⟩ := hrel
    have hqq : qq ≤ 99990 := by have := HI.out.2.1; omega
    have hsw := HI.out.2.2.2.2.2.2
    by_cases hgo : 0 < k ∧ 0 < xs.length
    · obtain ⟨hk0, hx0⟩ := hgo
      have e1 : (0 : Int) < k := by omega
      have e2 : (0 : Int) < xs.length := by omega
      go_wp2_with (fail)
      refine (pick_any w _ w.heap.size qq (xs.length : Int) HI.out.2.2.2.2.1 (by omega) (by omega)).mono ?_
      rintro e w7 ⟨A, rfl, hA0, hA1, hr7, hw7⟩
      have hs7 := hw7.size
      obtain ⟨A, rfl⟩ := Int.eq_ofNat_of_zero_le hA0
      have hA : A < xs.length := by omega
      have H7 : Hid (IntsO 3 w2.heap.size w7.heap.size w7 (.slice g5 xs.length c5) ys ∧ IntsO 3 w1.heap.size w2.heap.size w7 (.slice (some ⟨g, 0, none⟩) xs.length c3) xs ∧ Rdr w w7 w.heap.size (qq + 1)) :=
        ⟨(HI.out.2.2.1.within hw7 (.inr (by omega))).wide (Nat.le_refl _) hs7, HI.out.2.2.2.1.within hw7 (.inr (by omega)), hr7⟩
      clear hr7 hw7 hA0 hA1
      go_wp2_with (fail)
      refine (pick_any w _ w.heap.size (qq + 1) (xs.length : Int) H7.out.2.2 (by omega) (by omega)).mono ?_
      rintro e w8 ⟨B, rfl, hB0, hB1, hr8, hw8⟩
      have hs8 := hw8.size
      obtain ⟨B, rfl⟩ := Int.eq_ofNat_of_zero_le hB0
      have hB : B < xs.length := by omega
      have H8 : Hid (IntsO 3 w2.heap.size w8.heap.size w8 (.slice g5 xs.length c5) ys ∧ IntsO 3 w1.heap.size w2.heap.size w8 (.slice (some ⟨g, 0, none⟩) xs.length c3) xs ∧ Rdr w w8 w.heap.size (qq + 2)) :=
        ⟨(H7.out.1.within hw8 (.inr (by omega))).wide (Nat.le_refl _) hs8, H7.out.2.1.within hw8 (.inr (by omega)), hr8⟩
      clear hr8 hw8 hB0 hB1 H7
      obtain ⟨b5, c5', e5, hb5lo, hb5hi⟩ : ∃ b c, (Value.slice g5 xs.length c5) = .slice (some ⟨b, 0, none⟩) xs.length c ∧ w2.heap.size ≤ b ∧ b < w8.heap.size := by
        obtain ⟨b, c, e, h1, h2, _⟩ := H8.out.1.pos (by rw [HI.out.1]; exact hx0)
        exact ⟨b, c, by rw [e, HI.out.1], h1, h2⟩
      simp only [Value.slice.injEq] at e5
      obtain ⟨rfl, _, rfl⟩ := e5
      obtain ⟨hcA, hfA⟩ := H8.out.1.at rfl (i := A) (by rw [HI.out.1]; exact hA)
      obtain ⟨hcB, hfB⟩ := H8.out.1.at rfl (i := B) (by rw [HI.out.1]; exact hB)
      have hbA := HI.out.2.2.2.2.2.1 A (by rw [HI.out.1]; exact hA)
      have hbB := HI.out.2.2.2.2.2.1 B (by rw [HI.out.1]; exact hB)
      obtain ⟨x, ex⟩ : ∃ x, ys.getD A 0 = x := ⟨_, rfl⟩
      obtain ⟨y, ey⟩ : ∃ y, ys.getD B 0 = y := ⟨_, rfl⟩
      rw [ex] at hcA hbA
      rw [ey] at hcB hbB
      have r1 : (A : Int) < xs.length := by omega
      have r2 : (0 : Int) ≤ A := by omega
      have r3 : (B : Int) < xs.length := by omega
      have r4 : (0 : Int) ≤ B := by omega
      obtain ⟨k1, rfl⟩ : ∃ k1, k = k1 + 1 := ⟨k - 1, by omega⟩
      have hkk : ((k1 + 1 : Nat) : Int) - 1 = (k1 : Int) := by omega
      clear ex ey
      by_cases hc : 0 < x ∧ y < 12 ∧ A ≠ B
      · obtain ⟨hc1, hc2, hc3⟩ := hc
        have hc3' : ((A : Int) != (B : Int)) = true := by simp; omega
        have d1 : decide (0 < x) = true := by simpa using hc1
        have d2 : decide (y < 12) = true := by simpa using hc2
        have hwi : Within b5 (b5 + 1) w8 ((w8.setCell ⟨b5, A, none⟩ (.int .i64 (x - 1))).setCell ⟨b5, B, none⟩ (.int .i64 (y + 1))) :=
          ((Within.refl _ _ _).setCell (p := ⟨b5, A, none⟩) (Nat.le_refl _) (Nat.lt_succ_self _) _).setCell (p := ⟨b5, B, none⟩) (Nat.le_refl _) (Nat.lt_succ_self _) _
        have hszs : ((w8.setCell ⟨b5, A, none⟩ (.int .i64 (x - 1))).setCell ⟨b5, B, none⟩ (.int .i64 (y + 1))).heap.size = w8.heap.size := by simp [World.setCell]
        have H9 : Hid (((ys.set A (x - 1)).set B (y + 1)).length = xs.length ∧ IntsO 3 w2.heap.size ((w8.setCell ⟨b5, A, none⟩ (.int .i64 (x - 1))).setCell ⟨b5, B, none⟩ (.int .i64 (y + 1))).heap.size ((w8.setCell ⟨b5, A, none⟩ (.int .i64 (x - 1))).setCell ⟨b5, B, none⟩ (.int .i64 (y + 1))) (.slice (some ⟨b5, 0, none⟩) xs.length c5) ((ys.set A (x - 1)).set B (y + 1)) ∧
            IntsO 3 w1.heap.size w2.heap.size ((w8.setCell ⟨b5, A, none⟩ (.int .i64 (x - 1))).setCell ⟨b5, B, none⟩ (.int .i64 (y + 1))) (.slice (some ⟨g, 0, none⟩) xs.length c3) xs ∧ Rdr w ((w8.setCell ⟨b5, A, none⟩ (.int .i64 (x - 1))).setCell ⟨b5, B, none⟩ (.int .i64 (y + 1))) w.heap.size (qq + 2) ∧
            (∀ i, i < ((ys.set A (x - 1)).set B (y + 1)).length → -1 ≤ ((ys.set A (x - 1)).set B (y + 1)).getD i 0 ∧ ((ys.set A (x - 1)).set B (y + 1)).getD i 0 ≤ 13) ∧ w2.heap.size ≤ ((w8.setCell ⟨b5, A, none⟩ (.int .i64 (x - 1))).setCell ⟨b5, B, none⟩ (.int .i64 (y + 1))).heap.size) := by
          refine ⟨by simp [HI.out.1], ?_, H8.out.2.1.within hwi (.inl hb5lo), H8.out.2.2.within hwi (by omega), bd_set (bd_set HI.out.2.2.2.2.2.1 (by rw [HI.out.1]; exact hA) (by omega)) (by rw [List.length_set, HI.out.1]; exact hB) (by omega), by omega⟩
          rw [hszs]
          exact (H8.out.1.set rfl A (x - 1)).set rfl B (y + 1)
        clear hwi hszs
        go_wp2
        go_roundw
        case rel => exact ⟨k1, _, qq + 2, by go_num, by omega, H9.out.1, by have := HI.out.2.1; omega, H9.out.2⟩
        case measure => simp [intOf]
      · have H9 : Hid (ys.length = xs.length ∧ qq + 2 + 2 * k1 ≤ q + 1 + 24 ∧ IntsO 3 w2.heap.size w8.heap.size w8 (.slice (some ⟨b5, 0, none⟩) xs.length c5) ys ∧ IntsO 3 w1.heap.size w2.heap.size w8 (.slice (some ⟨g, 0, none⟩) xs.length c3) xs ∧ Rdr w w8 w.heap.size (qq + 2) ∧ (∀ i, i < ys.length → -1 ≤ ys.getD i 0 ∧ ys.getD i 0 ≤ 13) ∧ w2.heap.size ≤ w8.heap.size) :=
          ⟨HI.out.1, by have := HI.out.2.1; omega, H8.out.1, H8.out.2.1, H8.out.2.2, HI.out.2.2.2.2.2.1, by omega⟩
        by_cases hc1 : 0 < x
        · have d1 : decide (0 < x) = true := by simpa using hc1
          by_cases hc2 : y < 12
          · have d2 : decide (y < 12) = true := by simpa using hc2
            have hc3 : A = B := by omega
            have hc3' : ((A : Int) != (B : Int)) = false := by simp [hc3]
            clear hc hc3
            go_wp2
            go_roundw
            case rel => exact ⟨k1, ys, qq + 2, by go_num, by omega, H9.out⟩
            case measure => simp [intOf]
          · have d2 : decide (y < 12) = false := by simpa using hc2
            clear hc
            go_wp2
            go_roundw
            case rel => exact ⟨k1, ys, qq + 2, by go_num, by omega, H9.out⟩
            case measure => simp [intOf]
        · have d1 : decide (0 < x) = false := by simpa using hc1
          clear hc
          go_wp2
          go_roundw
          case rel => exact ⟨k1, ys, qq + 2, by go_num, by omega, H9.out⟩
          case measure => simp [intOf]
    · by_cases hx0 : 0 < xs.length
      · have hk0 : k = 0 := by omega
        have e2 : (0 : Int) < xs.length := by omega
        subst hk0
        clear hgo
        go_wp2_with (fail)
        refine (pick_any w _ w.heap.size qq 20 HI.out.2.2.2.2.1 (by omega) (by omega)).mono ?_
        rintro e w7 ⟨A, rfl, hA0, hA1, hr7, hw7⟩
        have hs7 := hw7.size
        have H8 : Hid (IntsO 3 w2.heap.size w7.heap.size w7 (.slice g5 xs.length c5) ys ∧ IntsO 3 w1.heap.size w2.heap.size w7 (.slice (some ⟨g, 0, none⟩) xs.length c3) xs ∧ Rdr w w7 w.heap.size (qq + 1)) :=
          ⟨(HI.out.2.2.1.within hw7 (.inr (by omega))).wide (Nat.le_refl _) hs7, HI.out.2.2.2.1.within hw7 (.inr (by omega)), hr7⟩
        clear hr7 hw7
        by_cases hz : A = 0
        · subst hz
          obtain ⟨b5, c5', e5, hb5lo, hb5hi⟩ : ∃ b c, (Value.slice g5 xs.length c5) = .slice (some ⟨b, 0, none⟩) xs.length c ∧ w2.heap.size ≤ b ∧ b < w7.heap.size := by
            obtain ⟨b, c, e, h1, h2, _⟩ := H8.out.1.pos (by rw [HI.out.1]; exact hx0)
            exact ⟨b, c, by rw [e, HI.out.1], h1, h2⟩
          simp only [Value.slice.injEq] at e5
          obtain ⟨rfl, _, rfl⟩ := e5
          obtain ⟨hcA, hfA⟩ := H8.out.1.at rfl (i := 0) (by rw [HI.out.1]; exact hx0)
          have hbA := HI.out.2.2.2.2.2.1 0 (by rw [HI.out.1]; exact hx0)
          obtain ⟨x, ex⟩ : ∃ x, ys.getD 0 0 = x := ⟨_, rfl⟩
          rw [ex] at hcA hbA
          clear ex
          have hwi : Within b5 (b5 + 1) w7 (w7.setCell ⟨b5, 0, none⟩ (.int .i64 (x + 1))) := (Within.refl _ _ _).setCell (p := ⟨b5, 0, none⟩) (Nat.le_refl _) (Nat.lt_succ_self _) _
          have H9 : Hid (DrawnTwo w (.returned (.tuple #[.slice (some ⟨g, 0, none⟩) xs.length c3, .slice (some ⟨b5, 0, none⟩) xs.length c5])) (w7.setCell ⟨b5, 0, none⟩ (.int .i64 (x + 1)))) :=
            ⟨_, _, xs, ys.set 0 (x + 1), rfl, (H8.out.2.1.within hwi (.inl hb5lo)).toV, (H8.out.1.set rfl 0 (x + 1)).toV, h9, by simp [HI.out.1], Within.grew H8.out.2.2.grew hwi (by omega)⟩
          clear hwi
          go_wp2
          go_ret2
          exact H9.out
        · have hz' : (A == 0) = false := by simp [hz]
          have H9 : Hid (DrawnTwo w (.returned (.tuple #[.slice (some ⟨g, 0, none⟩) xs.length c3, .slice g5 xs.length c5])) w7) :=
            ⟨_, _, xs, ys, rfl, H8.out.2.1.toV, H8.out.1.toV, h9, HI.out.1, H8.out.2.2.grew⟩
          clear hz
          go_wp2
          go_ret2
          exact H9.out
      · have e2 : ¬ (0 : Int) < xs.length := by omega
        have H9 : Hid (DrawnTwo w (.returned (.tuple #[.slice (some ⟨g, 0, none⟩) xs.length c3, .slice g5 xs.length c5])) wr) :=
          ⟨_, _, xs, ys, rfl, HI.out.2.2.2.1.toV, HI.out.2.2.1.toV, h9, HI.out.1, HI.out.2.2.2.2.1.grew⟩
        clear hgo
        by_cases hk0 : 0 < k
        · have e1 : (0 : Int) < k := by omega
          go_wp2
          go_ret2
          exact H9.out
        · obtain rfl : k = 0 := by omega
          go_wp2
          go_ret2
          exact H9.out
end Go.Proofs.Ytlifjhhjkcmneaa
