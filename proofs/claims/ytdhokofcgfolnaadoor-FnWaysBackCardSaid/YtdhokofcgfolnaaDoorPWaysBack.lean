/- FnWaysBack: for every input the law returns true, and the input reads as it did, where the table of steps reads as the program's text lays it; tied to that text. Its conditions: that one listed variable, tied. -/
import Derived.Test.YtdhokofcgfolnaaDoorFewest
import Derived.Test.YtdhokofcgfolnaaDoorRows
import Derived.Test.YtdhokofcgfolnaaDoorBase
import Derived.Test.YtdhokofcgfolnaaDoorExact
import Derived.Test.YtdhokofcgfolnaaDoorSomeP
import Derived.Test.YtdhokofcgfolnaaDoorWayOf
import Derived.Test.YtdhokofcgfolnaaDoorSClimb
import Derived.Test.YtdhokofcgfolnaaDoorSClimbB
import Derived.Test.YtdhokofcgfolnaaDoorDraws4
import Derived.Test.YtdhokofcgfolnaaDoorRowOf
import Derived.Lib.MinMax
import Derived.Test.YtdhokofcgfolnaaDoorCameRows
import Derived.Test.YtdhokofcgfolnaaDoorTied
import Derived.Test.YtdhokofcgfolnaaDoorWords
import Derived.Test.YtdhokofcgfolnaaDoorTie
import Derived.Test.YtdhokofcgfolnaaDoorCards
import Derived.SevenTiedAt
/- The contract of spec.FewestSteps. -/
namespace Go.Proofs.YtdhokofcgfolnaaDoor
open Go.RowKit

set_option maxRecDepth 100000 in
set_option maxHeartbeats 2000000 in
theorem SFewestSteps_any (v : Value) (h : List (List Int)) (i k : Int) (w : World) (hv : RowsV w v h) :
    Calls Tryd.prog 24 #[v, .int .i64 i, .int .i64 k] w fun e w' => e = .returned (.int .i64 (fewV h i k)) ∧ Grew w w' := by
  have HK := Lib.hid (sValidGrid_any v h w hv)
  cases hg : vGrid h with
  | false =>
    have HK1 := HK.out
    rw [hg] at HK1
    have HK2 := Lib.hid HK1
    rw [fewV_no (by rw [vCell_no hg]; rfl)]
    obtain ⟨a, b, o, c, rfl, _, _, _⟩ := hv.shape
    clear HK1 HK hg hv
    go_enter Tryd.func24, Tryd.ntmps24
    go_wp2_with (fail)
    refine HK2.out.mono ?_
    rintro e w' ⟨rfl, hG⟩
    have HG := Lib.hid hG
    clear hG
    go_wp2
    go_ret
    exact ⟨rfl, HG.out⟩
  | true =>
    have HK1 := HK.out
    rw [hg] at HK1
    have HK2 := Lib.hid HK1
    have HI := Lib.hid (inR_cell (i := i) hg)
    have HJ := Lib.hid (inR_cell (i := k) hg)
    have G := Grid.of hg
    obtain ⟨n, en⟩ : ∃ n, h.length = n := ⟨_, rfl⟩
    obtain ⟨m, em⟩ : ∃ m, (h.getD 0 []).length = m := ⟨_, rfl⟩
    obtain ⟨N, eN⟩ : ∃ N, n * m = N := ⟨_, rfl⟩
    have HN := Lib.hid (fun (W : World) (hW : Grew w W) => cells_any _ h W (hv.grew hW) G.n1 (by have := G.n5; omega) (by have := G.m5; omega))
    have hp := cells_le hg
    rw [en, em, eN] at HI HJ HN hp
    have hcon := fun W => inRange_any i 0 ((N : Int) - 1) W
    rw [HI.out] at hcon
    have hdon := fun W => inRange_any k 0 ((N : Int) - 1) W
    rw [HJ.out] at hdon
    cases hc : vCell h i with
    | false =>
      rw [hc] at hcon
      have HCON := Lib.hid hcon
      rw [fewV_no (by rw [hc]; rfl)]
      obtain ⟨a, b, o, c, rfl, _, _, _⟩ := hv.shape
      clear hc hcon hdon HK1 HK hg hv HI HJ G en em eN
      go_enter Tryd.func24, Tryd.ntmps24
      go_wp2_with (fail)
      refine HK2.out.mono ?_
      rintro e w1 ⟨rfl, hG⟩
      have HG := Lib.hid hG
      clear hG
      go_wp2_with (fail)
      refine (HN.out _ HG.out).mono ?_
      rintro e w2 ⟨rfl, rfl⟩
      go_wp2_with (fail)
      refine (HCON.out _).mono ?_
      rintro e w3 ⟨rfl, rfl⟩
      go_wp2
      go_ret
      exact ⟨rfl, HG.out⟩
    | true =>
      rw [hc] at hcon
      have HCON := Lib.hid hcon
      cases hd : vCell h k with
      | false =>
        rw [hd] at hdon
        have HDON := Lib.hid hdon
        rw [fewV_no (by rw [hc, hd]; rfl)]
        obtain ⟨a, b, o, c, rfl, _, _, _⟩ := hv.shape
        clear hc hd hcon hdon HK1 HK hg hv HI HJ G en em eN
        go_enter Tryd.func24, Tryd.ntmps24
        go_wp2_with (fail)
        refine HK2.out.mono ?_
        rintro e w1 ⟨rfl, hG⟩
        have HG := Lib.hid hG
        clear hG
        go_wp2_with (fail)
        refine (HN.out _ HG.out).mono ?_
        rintro e w2 ⟨rfl, rfl⟩
        go_wp2_with (fail)
        refine (HCON.out _).mono ?_
        rintro e w3 ⟨rfl, rfl⟩
        go_wp2_with (fail)
        refine (HN.out _ HG.out).mono ?_
        rintro e w2 ⟨rfl, rfl⟩
        go_wp2_with (fail)
        refine (HDON.out _).mono ?_
        rintro e w3 ⟨rfl, rfl⟩
        go_wp2
        go_ret
        exact ⟨rfl, HG.out⟩
      | true =>
        rw [hd] at hdon
        have HDON := Lib.hid hdon
        obtain ⟨_, h0, hI, _⟩ := vCell_yes hc
        obtain ⟨_, k0, hK, _⟩ := vCell_yes hd
        obtain ⟨I, rfl⟩ := Int.eq_ofNat_of_zero_le h0
        obtain ⟨K, rfl⟩ := Int.eq_ofNat_of_zero_le k0
        rw [Int.toNat_natCast] at hI hK
        have hIN : I < N := by rw [← eN, ← en, ← em]; exact hI
        have hKN : K < N := by rw [← eN, ← en, ← em]; exact hK
        have HW : Hid (fewV h I K = lastCh (aroundL n m) h.flatten K N I) := Lib.hid (fewV_yes en em eN hc hd)
        have HF := Lib.hid fun (W : World) (hW : Grew w W) => fewest_any v h n m N I K W (hv.grew hW) hg en em eN hIN hKN hc hd
        obtain ⟨x, ex⟩ : ∃ x, lastCh (aroundL n m) h.flatten K N I = x := ⟨_, rfl⟩
        rw [ex] at HW HF
        obtain ⟨a, b, o, c, rfl, _, _, _⟩ := hv.shape
        clear hc hd hcon hdon HK1 HK hg hv HI HJ G h0 k0 hI hK en em eN ex
        go_enter Tryd.func24, Tryd.ntmps24
        go_wp2_with (fail)
        refine HK2.out.mono ?_
        rintro e w1 ⟨rfl, hG⟩
        have HG := Lib.hid hG
        clear hG
        go_wp2_with (fail)
        refine (HN.out _ HG.out).mono ?_
        rintro e w2 ⟨rfl, rfl⟩
        go_wp2_with (fail)
        refine (HCON.out _).mono ?_
        rintro e w3 ⟨rfl, rfl⟩
        go_wp2_with (fail)
        refine (HN.out _ HG.out).mono ?_
        rintro e w2 ⟨rfl, rfl⟩
        go_wp2_with (fail)
        refine (HDON.out _).mono ?_
        rintro e w3 ⟨rfl, rfl⟩
        go_wp2_with (fail)
        refine (HF.out _ HG.out).mono ?_
        rintro e w4 ⟨rfl, hg4⟩
        have HG4 := Lib.hid (HG.out.trans hg4)
        clear hg4
        go_wp2
        go_ret
        exact ⟨ret_int HW.out.symm, HG4.out⟩
end Go.Proofs.YtdhokofcgfolnaaDoor
/- The contract of laws.equalInts. -/
namespace Go.Proofs.YtdhokofcgfolnaaDoor
open Go.RowKit

set_option maxRecDepth 100000 in
set_option maxHeartbeats 1000000 in
theorem equalInts_any (v1 v2 : Value) (xs ys : List Int) (w : World) (hv1 : IntsV w v1 xs) (hv2 : IntsV w v2 ys) :
    Calls Tryd.prog 41 #[v1, v2] w (QuietBool (decide (xs = ys)) w) := by
  obtain ⟨a, b, o, c, rfl, ⟨hlc, hcb⟩, ha, HC⟩ := hv1.shape
  obtain ⟨a2, b2, o2, c2, rfl, ⟨hlc2, hcb2⟩, ha2, HC2⟩ := hv2.shape
  have HA := Lib.hid ha
  have HA2 := Lib.hid ha2
  clear hv1 hv2 ha ha2
  by_cases hl : xs.length = ys.length
  · have hn : ((xs.length : Int) != (ys.length : Int)) = false := by simp [hl]
    have HL := Lib.hid hl
    clear hl
    go_enter Tryd.func41, Tryd.ntmps41
    go_wp2
    clear hn
    go_loopw [5] (fun i wr => ∃ k : Nat, k ≤ xs.length ∧ i = .int .i64 k ∧ Hid (xs.take k = ys.take k ∧ ∃ n, wr = w.drewN n)) (fun i _ => xs.length - (intOf i).toNat)
    case atStart => exact ⟨0, Nat.zero_le _, rfl, rfl, 0, rfl⟩
    case round =>
      obtain ⟨k, hk, rfl, HI⟩ := hrel
      have HW := Lib.hid (quiet_grew HI.out.2)
      by_cases hlt : k < xs.length
      · have hlt2 : k < ys.length := by have := HL.out; omega
        obtain rfl := HA.out (by omega)
        obtain rfl := HA2.out (by omega)
        have hc1 := HW.out.cell (HC.out k hlt)
        have hc2 := HW.out.cell (HC2.out k hlt2)
        obtain ⟨x, ex⟩ : ∃ x, xs.getD k 0 = x := ⟨_, rfl⟩
        obtain ⟨y, ey⟩ : ∃ y, ys.getD k 0 = y := ⟨_, rfl⟩
        rw [ex] at hc1
        rw [ey] at hc2
        have HE := Lib.hid (And.intro ex ey)
        have r1 : (k : Int) < xs.length := by omega
        have r2 : (k : Int) < ys.length := by omega
        have r3 : (0 : Int) ≤ k := by omega
        clear ex ey
        by_cases hxy : x = y
        · have ht : (x != y) = false := by simp [hxy]
          have HXY := Lib.hid hxy
          clear hxy
          go_wp2
          go_quiet (fail)
          go_wp2
          go_roundw
          case rel => exact ⟨k + 1, by omega, by go_num, take_eq_snoc 0 hlt hlt2 HI.out.1 (by rw [HE.out.1, HE.out.2, HXY.out]), quiet_step HI.out.2 _⟩
          case measure => simp [intOf]; omega
        · have ht : (x != y) = true := by simp [hxy]
          have HXY := Lib.hid hxy
          clear hxy
          go_wp2
          go_quiet (fail)
          go_wp2
          go_ret
          refine ⟨ret_bool ?_, quiet_step HI.out.2 _⟩
          have : xs ≠ ys := fun e => HXY.out (by rw [← HE.out.1, ← HE.out.2, e])
          simp [this]
      · go_wp2
        go_ret
        refine ⟨ret_bool ?_, HI.out.2⟩
        have := HI.out.1
        rw [List.take_of_length_le (by omega), List.take_of_length_le (by have := HL.out; omega)] at this
        simp [this]
  · have hn : ((xs.length : Int) != (ys.length : Int)) = true := by simp; omega
    have HL := Lib.hid hl
    clear hl
    go_enter Tryd.func41, Tryd.ntmps41
    go_wp2
    go_ret
    refine ⟨ret_bool ?_, 0, rfl⟩
    have : xs ≠ ys := fun e => HL.out (by rw [e])
    simp [this]

end Go.Proofs.YtdhokofcgfolnaaDoor
/- The contract of laws.backwards. -/
namespace Go.Proofs.YtdhokofcgfolnaaDoor
open Go.RowKit

set_option maxRecDepth 100000 in
set_option maxHeartbeats 1000000 in
theorem backwards_any (v : Value) (xs : List Int) (w : World) (hv : IntsV w v xs) (hx : xs.length ≤ 1000) :
    Calls Tryd.prog 44 #[v] w fun e w' => ∃ v', e = .returned v' ∧ IntsO 3 w.heap.size w'.heap.size w' v' xs.reverse ∧ Grew w w' := by
  obtain ⟨a, b, o, c, rfl, ⟨hlc, hcb⟩, ha, HC⟩ := hv.shape
  have HA := Lib.hid ha
  clear hv ha
  go_enter Tryd.func44, Tryd.ntmps44
  go_wp2_with (fail)
  have H0 : Hid (([] : List Int) = xs.reverse.take 0 ∧ IntsO 3 w.heap.size (w.alloc (.cells #[] 3)).heap.size (w.alloc (.cells #[] 3)) (.slice (some ⟨w.heap.size, 0, none⟩) 0 0) [] ∧ Grew w (w.alloc (.cells #[] 3))) :=
    ⟨rfl, IntsO.litAt _ _ _ _ _ _ [] #[] rfl rfl rfl (Nat.le_refl _) (by simp) (by simp), (Grew.refl _).alloc _⟩
  go_loopw [3, 4] (fun v i' wr => ∃ (ys : List Int) (g c : Nat) (j : Int), v = .slice (some ⟨g, 0, none⟩) (List.length ys) c ∧ List.length ys ≤ xs.length ∧ i' = .int .i64 j ∧ j = (xs.length : Int) - 1 - List.length ys ∧ Hid (ys = xs.reverse.take (List.length ys) ∧ IntsO 3 w.heap.size wr.heap.size wr v ys ∧ Grew w wr)) (fun _ i' _ => (intOf i' + 1).toNat)
  case atStart => exact ⟨[], _, _, (xs.length : Int) - 1, rfl, Nat.zero_le _, rfl, by simp, H0⟩
  case round =>
    obtain ⟨ys, g, c', j, rfl, hy, rfl, hj, HI⟩ := hrel
    clear H0
    have HJ := Lib.hid hj
    by_cases hlt : ys.length < xs.length
    · obtain ⟨n, rfl⟩ := Int.eq_ofNat_of_zero_le (show 0 ≤ j by omega)
      have hn : n < xs.length := by omega
      obtain rfl := HA.out (by omega)
      have hsz : w.heap.size ≤ wr.heap.size := HI.out.2.2.size
      have hc := HI.out.2.2.cell (HC.out n hn)
      obtain ⟨x, ex⟩ : ∃ x, xs.getD n 0 = x := ⟨_, rfl⟩
      rw [ex] at hc
      have HX := Lib.hid ex
      clear ex hj
      go_wp2_with (at_builtin; refine wpList_append_int rfl (.tmp 13) (.tmp 18) 27 rfl Tryd.underlying27 Tryd.infoE rfl rfl rfl HI.out.2.1 (by omega) (by omega) ?_; intro g5 c5 w5 hO5 hW5 hS5)
      have HF : Hid (IntsO 3 w.heap.size w5.heap.size w5 (.slice (some ⟨g5, 0, none⟩) (ys.length + 1) c5) (ys ++ [x]) ∧ Grew w w5) := ⟨hO5, Within.grew HI.out.2.2 hW5 (Nat.le_refl _)⟩
      clear hO5 hW5 hS5
      go_wp2
      go_roundw
      case rel => exact ⟨ys ++ [x], g5, c5, (n : Int) - 1, by simp, by simp; omega, rfl, by have := HJ.out; simp; omega, by
        have hr : ys.length < xs.reverse.length := by simp; omega
        have := List.take_succ_eq_append_getElem hr
        rw [← HI.out.1] at this
        have hg : xs.reverse[ys.length] = x := by
          rw [List.getElem_reverse, ← HX.out]
          have : xs.length - 1 - ys.length = n := by have := HJ.out; omega
          simp [this, hn]
        rw [List.length_append, List.length_singleton, this, hg], HF.out.1, HF.out.2⟩
      case measure => simp [intOf]
    · obtain rfl : j = -1 := by omega
      clear hj
      go_wp2
      go_ret
      have e := HI.out.1
      rw [List.take_of_length_le (by simp; omega)] at e
      have hb := HI.out.2.1
      rw [← e]
      exact ⟨_, rfl, hb, HI.out.2.2⟩
end Go.Proofs.YtdhokofcgfolnaaDoor
/- What is known of a way's steps, forth and back (lists). -/
namespace Go.Proofs.YtdhokofcgfolnaaDoor

variable {ar : Nat → List Int} {p : List Int} {K N : Nat}
/-- Each step of the way leads on beside, and its climb and what is left are what was left. -/
theorem WayAt.steps (hN : ∀ i x, i < N → x ∈ ar i → 0 ≤ x ∧ x < N) (h0 : ∀ i x, x ∈ ar i → 0 ≤ x) (hpos : ∀ i, i < N → 0 ≤ costT ar p upF K N i) {I r : Nat} (h : WayAt ar p K N I r) :
    (∀ t, t ≤ r → WayAt ar p K N (iterN ar p K N I t) (r - t)) ∧
    (∀ t, t < r → ((iterN ar p K N I (t + 1) : Nat) : Int) ∈ ar (iterN ar p K N I t) ∧ climbC p (iterN ar p K N I t) (iterN ar p K N I (t + 1)) + costT ar p upF K N (iterN ar p K N I (t + 1)) = costT ar p upF K N (iterN ar p K N I t)) ∧
    iterN ar p K N I r = K ∧ costT ar p upF K N K = 0 := by
  have hAN : ∀ t, t ≤ r → WayAt ar p K N (iterN ar p K N I t) (r - t) := fun t => by
    induction t with
    | zero => exact fun _ => h
    | succ t ih =>
      intro ht
      have := ih (by omega)
      rw [show r - t = (r - (t + 1)) + 1 by omega] at this
      obtain ⟨_, _, _, _, _, h5⟩ := this.next hN h0 hpos
      exact h5
  refine ⟨hAN, fun t ht => ?_, ?_⟩
  · have h1 := hAN t (by omega)
    rw [show r - t = (r - (t + 1)) + 1 by omega] at h1
    obtain ⟨s, h2, h3, _, h5, _⟩ := h1.next hN h0 hpos
    have hm : (ar (iterN ar p K N I t)).getD s 0 ∈ ar (iterN ar p K N I t) := by
      have e1 : (ar (iterN ar p K N I t)).getD s 0 = (ar (iterN ar p K N I t))[s] := by simp [h2]
      rw [e1]; exact List.getElem_mem h2
    rw [h5] at hm h3
    refine ⟨hm, ?_⟩
    unfold nextB at h3
    simp only [Bool.and_eq_true, decide_eq_true_eq, Int.toNat_natCast] at h3
    exact h3.1
  · have h1 := hAN r (Nat.le_refl _)
    rw [Nat.sub_self] at h1
    have e := h1.zero_iff.1 rfl
    have h2 := h1.walk.zero
    rw [e] at h2
    exact ⟨e, h2.2⟩
/-- Backwards a step climbs what it climbs forth and how much higher it began. -/
theorem climb_back (p : List Int) (a b : Nat) : climbC p b a = climbC p a b + (p.getD a 0 - p.getD b 0) := by unfold climbC; omega
end Go.Proofs.YtdhokofcgfolnaaDoor
/- A way as a law meets it. -/
namespace Go.Proofs.YtdhokofcgfolnaaDoor

/-- The way from I to K over the cells c 0, .., c r. -/
structure WayIs (n m N : Nat) (p : List Int) (I K r : Nat) (c : Nat → Nat) : Prop where
  first : c 0 = I
  last : c r = K
  lt : ∀ t, t ≤ r → c t < N
  near : ∀ t, t < r → ((c (t + 1) : Nat) : Int) ∈ aroundL n m (c t)
  step : ∀ t, t < r → climbC p (c t) (c (t + 1)) = climbN n m p (c t) K - climbN n m p (c (t + 1)) K
  zero : climbN n m p K K = 0
  few : r ≤ N
theorem way_is {H : List (List Int)} {I K n m N : Nat} (G : Grid H (H.getD 0 []).length) (en : H.length = n) (em : (H.getD 0 []).length = m) (eN : n * m = N) (hi : vCell H (I : Int) = true) (hk : vCell H (K : Int) = true) (hI : I < N) (hK : K < N) :
    ∃ r c, WayIs n m N H.flatten I K r c ∧ wayL H I K = (List.range (r + 1)).map (fun t => ((c t : Nat) : Int)) ∧ wayV upF H I K = climbN n m H.flatten I K ∧ wayV upF H K I = climbN n m H.flatten K I ∧ fewV H I K = (r : Int) := by
  have n5 := G.n5
  have m5 := G.m5
  rw [en] at n5
  rw [em] at m5
  have hNb := around_range G en em eN
  have h0 : ∀ i x, x ∈ aroundL n m i → 0 ≤ x := fun i x hx => around_nonneg hx
  have hpn : ∀ i, i < n * m → 0 ≤ H.flatten.getD i 0 ∧ H.flatten.getD i 0 ≤ 12 := fun i hi => grid_num G i (by rw [en, em]; exact hi)
  have hpos : ∀ i, i < N → 0 ≤ costT (aroundL n m) H.flatten upF K N i := fun i hi => by
    have := (climbN_walk n5 m5 hpn (i := i) (k := K) (by omega) (by omega)).1
    rwa [climbN, eN] at this
  obtain ⟨r, hA⟩ := wayAt (p := H.flatten) (K := K) hNb h0 hI (hpos I hI)
  obtain ⟨h1, h2, h3, h4⟩ := hA.steps hNb h0 hpos
  have ec : ∀ x, costT (aroundL n m) H.flatten upF K N x = climbN n m H.flatten x K := fun x => by rw [climbN, eN]
  refine ⟨r, iterN (aroundL n m) H.flatten K N I, ⟨rfl, h3, fun t ht => (h1 t ht).lt, fun t ht => (h2 t ht).1, fun t ht => ?_, by rw [← ec]; exact h4, hA.le⟩, wayL_yes en em eN hi hk hA.few, ?_, ?_, ?_⟩
  · have := (h2 t ht).2
    rw [ec, ec] at this
    omega
  · rw [wayV_yes en em eN hi hk, ec]
  · rw [wayV_yes en em eN hk hi, climbN, eN]
  · rw [fewV_yes en em eN hi hk]; exact hA.few
theorem wayL_small (H : List (List Int)) (i k : Int) : (wayL H i k).length ≤ 1000 := by
  by_cases hc : (vCell H i && vCell H k) = true
  · obtain ⟨hci, hck⟩ := (Bool.and_eq_true _ _ ▸ hc : _ ∧ _)
    obtain ⟨hvg, h0, hI, _⟩ := vCell_yes hci
    obtain ⟨_, k0, hK, _⟩ := vCell_yes hck
    obtain ⟨I, rfl⟩ := Int.eq_ofNat_of_zero_le h0
    obtain ⟨K, rfl⟩ := Int.eq_ofNat_of_zero_le k0
    rw [Int.toNat_natCast] at hI hK
    have G := Grid.of hvg
    obtain ⟨r, c, hW, hwl, _⟩ := way_is G rfl rfl rfl hci hck hI hK
    have h25 := Nat.mul_le_mul G.n5 G.m5
    have := hW.few
    rw [hwl]
    simp
    omega
  · rw [wayL_no (by simpa using hc)]; simp
/-- What the way climbs up to its cell t. -/
theorem WayIs.up {n m N : Nat} {p : List Int} {I K r : Nat} {c : Nat → Nat} (h : WayIs n m N p I K r c) (t : Nat) (ht : t < r) : (climbN n m p I K - climbN n m p (c t) K) + max (p.getD (c (t + 1)) 0 - p.getD (c t) 0) 0 = climbN n m p I K - climbN n m p (c (t + 1)) K := by
  have := h.step t ht
  unfold climbC at this
  omega
/-- What it climbs backwards. -/
theorem WayIs.down {n m N : Nat} {p : List Int} {I K r : Nat} {c : Nat → Nat} (h : WayIs n m N p I K r c) (t : Nat) (ht : t < r) :
    (climbN n m p (c (t + 1)) K + p.getD (c (t + 1)) 0 - p.getD K 0) + max (p.getD (c t) 0 - p.getD (c (t + 1)) 0) 0 = climbN n m p (c t) K + p.getD (c t) 0 - p.getD K 0 := by
  have h1 := h.step t ht
  have h2 := climb_back p (c t) (c (t + 1))
  unfold climbC at h1 h2
  omega
end Go.Proofs.YtdhokofcgfolnaaDoor
/- The contract of spec.WayOf. -/
namespace Go.Proofs.YtdhokofcgfolnaaDoor
open Go.RowKit

theorem nextB_iff {ar : Nat → List Int} {p : List Int} {K N i x : Nat} : nextB ar p K N i (x : Int) = true ↔ climbC p i x + costT ar p upF K N x = costT ar p upF K N i ∧ lastCh ar p K N x = lastCh ar p K N i - 1 := by
  unfold nextB upF climbC
  rw [Int.toNat_natCast, Bool.and_eq_true, decide_eq_true_eq, decide_eq_true_eq]

theorem wayL_total (h : List (List Int)) (i k : Int) : (wayL h i k).length ≤ 1000000 := by
  cases hp : vEnds h i k with
  | false => unfold wayL; rw [if_neg (by rw [hp]; simp)]; simp
  | true =>
    have hcc := hp
    unfold vEnds at hcc
    simp only [Bool.and_eq_true] at hcc
    obtain ⟨hg, _, _⟩ := vCell_facts hcc.1
    have hN := cells_le hg
    obtain ⟨r, h1, h2, _⟩ := lastCh_spec (ar := aroundL h.length (h.getD 0 []).length) (p := h.flatten) (e := k.toNat) (fun i x hx => around_nonneg hx) i.toNat (h.length * (h.getD 0 []).length)
    unfold wayL
    rw [if_pos hp, wayT_len, h1, Int.toNat_natCast]
    omega

set_option maxRecDepth 100000 in
set_option maxHeartbeats 2000000 in
theorem SWayOf_any (v : Value) (h : List (List Int)) (i k : Int) (w : World) (hv : RowsV w v h) :
    Calls Tryd.prog 34 #[v, .int .i64 i, .int .i64 k] w (OwnI w (wayL h i k)) := by
  have HK := Lib.hid (sValidGrid_any v h w hv)
  cases hg : vGrid h with
  | false =>
    have HK1 := HK.out
    rw [hg] at HK1
    have HK2 := Lib.hid HK1
    rw [wayL_no (by rw [vCell_no hg]; rfl)]
    obtain ⟨a, b, o, c, rfl, _, _, _⟩ := hv.shape
    clear HK1 HK hg hv
    go_enter Tryd.func34, Tryd.ntmps34
    go_wp2_with (fail)
    refine HK2.out.mono ?_
    rintro e w' ⟨rfl, hG⟩
    have HG := Lib.hid hG
    clear hG
    go_wp2
    go_ret
    exact ⟨none, 0, rfl, ⟨World.ownsRow_nil _ _ _ _, fun g e => by simp [Value.ownBlock] at e⟩, HG.out⟩
  | true =>
    have HK1 := HK.out
    rw [hg] at HK1
    have HK2 := Lib.hid HK1
    have HI := Lib.hid (inR_cell (i := i) hg)
    have HJ := Lib.hid (inR_cell (i := k) hg)
    have G := Grid.of hg
    obtain ⟨n, en⟩ : ∃ n, h.length = n := ⟨_, rfl⟩
    obtain ⟨m, em⟩ : ∃ m, (h.getD 0 []).length = m := ⟨_, rfl⟩
    obtain ⟨N, eN⟩ : ∃ N, n * m = N := ⟨_, rfl⟩
    have HN := Lib.hid (fun (W : World) (hW : Grew w W) => cells_any _ h W (hv.grew hW) G.n1 (by have := G.n5; omega) (by have := G.m5; omega))
    have hp := cells_le hg
    rw [en, em, eN] at HI HJ HN hp
    have hcon := fun W => inRange_any i 0 ((N : Int) - 1) W
    rw [HI.out] at hcon
    have hdon := fun W => inRange_any k 0 ((N : Int) - 1) W
    rw [HJ.out] at hdon
    cases hc : vCell h i with
    | false =>
      rw [hc] at hcon
      have HCON := Lib.hid hcon
      rw [wayL_no (by rw [hc]; rfl)]
      obtain ⟨a, b, o, c, rfl, _, _, _⟩ := hv.shape
      clear hc hcon hdon HK1 HK hg hv HI HJ G en em eN
      go_enter Tryd.func34, Tryd.ntmps34
      go_wp2_with (fail)
      refine HK2.out.mono ?_
      rintro e w1 ⟨rfl, hG⟩
      have HG := Lib.hid hG
      clear hG
      go_wp2_with (fail)
      refine (HN.out _ HG.out).mono ?_
      rintro e w2 ⟨rfl, rfl⟩
      go_wp2_with (fail)
      refine (HCON.out _).mono ?_
      rintro e w3 ⟨rfl, rfl⟩
      go_wp2
      go_ret
      exact ⟨none, 0, rfl, ⟨World.ownsRow_nil _ _ _ _, fun g e => by simp [Value.ownBlock] at e⟩, HG.out⟩
    | true =>
      rw [hc] at hcon
      have HCON := Lib.hid hcon
      cases hd : vCell h k with
      | false =>
        rw [hd] at hdon
        have HDON := Lib.hid hdon
        rw [wayL_no (by rw [hc, hd]; rfl)]
        obtain ⟨a, b, o, c, rfl, _, _, _⟩ := hv.shape
        clear hc hd hcon hdon HK1 HK hg hv HI HJ G en em eN
        go_enter Tryd.func34, Tryd.ntmps34
        go_wp2_with (fail)
        refine HK2.out.mono ?_
        rintro e w1 ⟨rfl, hG⟩
        have HG := Lib.hid hG
        clear hG
        go_wp2_with (fail)
        refine (HN.out _ HG.out).mono ?_
        rintro e w2 ⟨rfl, rfl⟩
        go_wp2_with (fail)
        refine (HCON.out _).mono ?_
        rintro e w3 ⟨rfl, rfl⟩
        go_wp2_with (fail)
        refine (HN.out _ HG.out).mono ?_
        rintro e w2 ⟨rfl, rfl⟩
        go_wp2_with (fail)
        refine (HDON.out _).mono ?_
        rintro e w3 ⟨rfl, rfl⟩
        go_wp2
        go_ret
        exact ⟨none, 0, rfl, ⟨World.ownsRow_nil _ _ _ _, fun g e => by simp [Value.ownBlock] at e⟩, HG.out⟩
      | true =>
        rw [hd] at hdon
        have HDON := Lib.hid hdon
        obtain ⟨_, h0, hI, _⟩ := vCell_yes hc
        obtain ⟨_, k0, hK, _⟩ := vCell_yes hd
        obtain ⟨I, rfl⟩ := Int.eq_ofNat_of_zero_le h0
        obtain ⟨K, rfl⟩ := Int.eq_ofNat_of_zero_le k0
        rw [Int.toNat_natCast] at hI hK
        have hIN : I < N := by rw [← eN, ← en, ← em]; exact hI
        have hKN : K < N := by rw [← eN, ← en, ← em]; exact hK
        have hn5 := G.n5
        have hm5 := G.m5
        rw [en] at hn5
        rw [em] at hm5
        have hN25 : N ≤ 25 := by rw [← eN]; exact Nat.mul_le_mul hn5 hm5
        have hpn : ∀ i, i < N → 0 ≤ h.flatten.getD i 0 ∧ h.flatten.getD i 0 ≤ 12 := fun i hi => grid_num G i (by rw [en, em, eN]; exact hi)
        have hNb := around_range G en em eN
        have h00 : ∀ i x, x ∈ aroundL n m i → 0 ≤ x := fun i x hx => around_nonneg hx
        have hpos : ∀ i, i < N → 0 ≤ costT (aroundL n m) h.flatten upF K N i := fun i hi => by
          have := (climbN_walk hn5 hm5 (fun i hi => hpn i (by rw [← eN]; exact hi)) (i := i) (k := K) (by omega) (by omega)).1
          rwa [climbN, eN] at this
        have hcell : ∀ j : Nat, j < N → vCell h j = true := fun j hj => by rw [← inR_cell hg, en, em, eN, inR, Bool.and_eq_true, decide_eq_true_eq, decide_eq_true_eq]; omega
        obtain ⟨r, hA⟩ := wayAt (p := h.flatten) (K := K) hNb h00 hIN (hpos I hIN)
        have hWL := wayL_yes en em eN hc hd hA.few
        have hAN : ∀ t, t ≤ r → WayAt (aroundL n m) h.flatten K N (iterN (aroundL n m) h.flatten K N I t) (r - t) := fun t => by
          induction t with
          | zero => exact fun _ => hA
          | succ t ih =>
            intro ht
            have := ih (by omega)
            rw [show r - t = (r - (t + 1)) + 1 by omega] at this
            obtain ⟨_, _, _, _, _, h5⟩ := this.next hNb h00 hpos
            exact h5
        obtain ⟨C, eC⟩ : ∃ C : Nat → Int, C = costT (aroundL n m) h.flatten upF K N := ⟨_, rfl⟩
        obtain ⟨F, eF⟩ : ∃ F : Nat → Int, F = lastCh (aroundL n m) h.flatten K N := ⟨_, rfl⟩
        obtain ⟨D, eD⟩ : ∃ D : Nat → Nat → Int, D = climbC h.flatten := ⟨_, rfl⟩
        obtain ⟨T, eT⟩ : ∃ T : Nat → Nat, T = iterN (aroundL n m) h.flatten K N I := ⟨_, rfl⟩
        obtain ⟨Z, eZ⟩ : ∃ Z : Nat → List Int, Z = wayT (aroundL n m) h.flatten K N I := ⟨_, rfl⟩
        have HF : Hid (∀ (j : Nat), j < N → ∀ W, Grew w W → Calls Tryd.prog 59 #[v, .int .i64 j, .int .i64 K] W fun e w' => e = .returned (.int .i64 (F j)) ∧ Grew W w') := Lib.hid fun j hj W hW => by
          rw [eF]; exact fewest_any v h n m N j K W (hv.grew hW) hg en em eN hj hKN (hcell j hj) hd
        have HCB : Hid (∀ (j : Nat), j < N → ∀ W, Grew w W → Calls Tryd.prog 17 #[v, .int .i64 j, .int .i64 K] W fun e w' => e = .returned (.int .i64 (C j)) ∧ Grew W w') := Lib.hid fun j hj W hW => by
          have := SClimbBetween_any v h j K W (hv.grew hW)
          rw [wayV_yes en em eN (hcell j hj) hd] at this
          rw [eC]; exact this
        have HCL : Hid (∀ (i j : Nat), i < N → j < N → ∀ W, Grew w W → Calls Tryd.prog 68 #[v, .int .i64 i, .int .i64 j] W fun e w' => e = .returned (.int .i64 (D i j)) ∧ Grew W w') := Lib.hid fun i j hi hj W hW => by
          rw [eD]; exact (climb_any v h n m N i j W (hv.grew hW) hg en em eN hi hj).mono fun e w' h => ⟨h.1, quiet_grew h.2⟩
        have HAR : Hid (∀ (j : Nat), j < N → ∀ W, Grew w W → Calls Tryd.prog 67 #[v, .int .i64 j] W (OwnI W (aroundL n m j))) := Lib.hid fun j hj W hW => by
          have := around_any v h j W (hv.grew hW) hg (by rw [en, em, eN]; exact hj)
          rwa [en, em] at this
        have HT : Hid (∀ t, t ≤ r → T t < N ∧ (t < r → T t ≠ K) ∧ (t = r → T t = K)) := Lib.hid fun t ht => by
          have h1 := hAN t ht
          have h2 := h1.zero_iff
          rw [eT]
          exact ⟨h1.lt, fun g e => by have := h2.2 e; omega, fun g => h2.1 (by omega)⟩
        have HB : Hid (∀ t, t < r → ∃ s, s < (aroundL n m (T t)).length ∧ (aroundL n m (T t)).getD s 0 = ((T (t + 1) : Nat) : Int) ∧ (D (T t) (T (t + 1)) + C (T (t + 1)) = C (T t) ∧ F (T (t + 1)) = F (T t) - 1) ∧ ∀ q, q < s → ∃ x : Nat, (aroundL n m (T t)).getD q 0 = (x : Int) ∧ x < N ∧ ¬ (D (T t) x + C x = C (T t) ∧ F x = F (T t) - 1)) := Lib.hid fun t ht => by
          have h1 := hAN t (by omega)
          rw [show r - t = (r - (t + 1)) + 1 by omega] at h1
          obtain ⟨s, h2, h3, h4, h5, h6⟩ := h1.next hNb h00 hpos
          have hlt := h1.lt
          subst eC eF eD eT
          rw [h5] at h3
          refine ⟨s, h2, h5, nextB_iff.1 h3, fun q hq => ?_⟩
          have hm : (aroundL n m (iterN (aroundL n m) h.flatten K N I t)).getD q 0 ∈ aroundL n m (iterN (aroundL n m) h.flatten K N I t) := by
            have hql : q < (aroundL n m (iterN (aroundL n m) h.flatten K N I t)).length := by omega
            have e1 : (aroundL n m (iterN (aroundL n m) h.flatten K N I t)).getD q 0 = (aroundL n m (iterN (aroundL n m) h.flatten K N I t))[q] := by simp [hql]
            rw [e1]; exact List.getElem_mem hql
          have hr := hNb _ _ hlt hm
          obtain ⟨x, ex⟩ := Int.eq_ofNat_of_zero_le hr.1
          have h7 := h4 q hq
          rw [ex] at h7 hr ⊢
          exact ⟨x, rfl, by omega, fun g => by rw [nextB_iff.2 g] at h7; cases h7⟩
        have HBD : Hid (∀ i j : Nat, i < N → j < N → (0 ≤ D i j ∧ D i j ≤ 12) ∧ (0 ≤ C j ∧ C j ≤ 400) ∧ 0 ≤ F j ∧ F j ≤ 25) := Lib.hid fun i j hi hj => by
          subst eC eF eD
          have h1 := hpn i hi
          have h2 := hpn j hj
          obtain ⟨q, hq⟩ := wayAt (p := h.flatten) (K := K) hNb h00 hj (hpos j hj)
          have h3 := hq.few
          have h4 := hq.le
          refine ⟨by unfold climbC; omega, ⟨hpos j hj, by have := (costT_up upF_rule hNb hpn (e := K) N j hj).2; omega⟩, by omega, by omega⟩
        have HZ : Hid ((∀ t, Z (t + 1) = Z t ++ [((T (t + 1) : Nat) : Int)]) ∧ (∀ t, (Z t).length = t + 1) ∧ Z 0 = [(I : Int)] ∧ wayL h I K = Z r) := Lib.hid (by
          subst eT eZ
          exact ⟨fun t => wayT_succ I t, fun t => wayT_len I t, wayT_zero I, hWL⟩)
        have HT0 : Hid (T 0 = I) := Lib.hid (by rw [eT]; rfl)
        have hrN := hA.le
        have HAL : Hid (∀ j, j < N → (aroundL n m j).length ≤ 4) := Lib.hid fun j hj => (around_facts hn5 hm5 (by rw [eN]; exact hj)).2.2
        obtain ⟨AR, eAR⟩ : ∃ AR : Nat → List Int, AR = aroundL n m := ⟨_, rfl⟩
        rw [← eAR] at HAR HB HAL
        obtain ⟨a, b, o, c, rfl, _, _, _⟩ := hv.shape
        clear hc hd hcon hdon HK1 HK hg hv HI HJ G h0 k0 hI hK en em eN hn5 hm5 hpn hNb h00 hpos hcell hA hWL hAN eC eF eD eT eZ eAR
        go_enter Tryd.func34, Tryd.ntmps34
        go_wp2_with (fail)
        refine HK2.out.mono ?_
        rintro e w1 ⟨rfl, hG⟩
        have HG := Lib.hid hG
        clear hG
        go_wp2_with (fail)
        refine (HN.out _ HG.out).mono ?_
        rintro e w2 ⟨rfl, rfl⟩
        go_wp2_with (fail)
        refine (HCON.out _).mono ?_
        rintro e w3 ⟨rfl, rfl⟩
        go_wp2_with (fail)
        refine (HN.out _ HG.out).mono ?_
        rintro e w2 ⟨rfl, rfl⟩
        go_wp2_with (fail)
        refine (HDON.out _).mono ?_
        rintro e w3 ⟨rfl, rfl⟩
        go_wp2
        go_loopg [7, 8] r (fun gk v i wr => ∃ t g c, v = .slice (some ⟨g, 0, none⟩) (t + 1) c ∧ i = .int .i64 ((T t : Nat) : Int) ∧ t ≤ r ∧ r ≤ gk + t ∧
          Hid (IntsO 3 w.heap.size wr.heap.size wr v (Z t) ∧ Grew w wr))
        case atStart =>
          refine ⟨0, _, 1, rfl, by rw [HT0.out], Nat.zero_le _, Nat.le_refl _, Lib.hid ⟨?_, HG.out.alloc _⟩⟩
          rw [HZ.out.2.2.1]
          exact (IntsO.lit 3 w.heap.size w1 [(I : Int)] #[.int .i64 (I : Int)] rfl HG.out.size (by simp [maxLen])).wide (Nat.le_refl _) (by simp)
        case round =>
          obtain ⟨t, g, c', rfl, rfl, ht, hgk, HI⟩ := hrel
          obtain ⟨ht1, ht2, ht3⟩ := HT.out t ht
          by_cases hlt : t < r
          · have hne : ((T t : Nat) : Int) ≠ (K : Int) := fun e => ht2 hlt (by omega)
            obtain ⟨s, hs1, hs2, hs3, hs4⟩ := HB.out t hlt
            have hn1 := (HT.out (t + 1) (by omega)).1
            have HT1 : Hid (∃ y, T (t + 1) = y) := Lib.hid ⟨_, rfl⟩
            have HZ1 := Lib.hid (And.intro (HZ.out.1 t) (HZ.out.2.1 t))
            have hA4 := HAL.out _ ht1
            have HF0 := Lib.hid (HF.out _ ht1)
            have HCB0 := Lib.hid (HCB.out _ ht1)
            have HAR0 := Lib.hid (HAR.out _ ht1)
            have hb0 := HBD.out _ _ ht1 ht1
            obtain ⟨y, ey⟩ : ∃ y, T (t + 1) = y := ⟨_, rfl⟩
            rw [ey] at hs2 hs3 hn1 HZ1
            obtain ⟨x0, ex0⟩ : ∃ x0, T t = x0 := ⟨_, rfl⟩
            rw [ex0] at hs1 hs2 hs3 hs4 ht1 hne hA4 HF0 HCB0 HAR0 hb0 ⊢
            obtain ⟨A, eA⟩ : ∃ A, AR x0 = A := ⟨_, rfl⟩
            rw [eA] at hs1 hs2 hs4 hA4 HAR0
            have HEY := Lib.hid ey
            have HS2 := Lib.hid hs2
            have HS3 := Lib.hid hs3
            have HS4 := Lib.hid hs4
            obtain ⟨X, eX⟩ : ∃ X, Z t = X := ⟨_, rfl⟩
            rw [eX] at HZ1 HI
            clear ey ex0 eA hs2 hs3 hs4 ht2 ht3 eX HT1
            go_wp2_with (fail)
            refine (HF0.out wr HI.out.2).mono ?_
            rintro e w3 ⟨rfl, hg3⟩
            have H3 : Hid (IntsO 3 w.heap.size w3.heap.size w3 (.slice (some ⟨g, 0, none⟩) (t + 1) c') X ∧ Grew w w3) := Lib.hid ⟨(HI.out.1.grew hg3).wide (Nat.le_refl _) hg3.size, HI.out.2.trans hg3⟩
            clear hg3 HI
            go_wp2_with (fail)
            refine (HCB0.out w3 H3.out.2).mono ?_
            rintro e w4 ⟨rfl, hg4⟩
            have H4 : Hid (IntsO 3 w.heap.size w4.heap.size w4 (.slice (some ⟨g, 0, none⟩) (t + 1) c') X ∧ Grew w w4) := Lib.hid ⟨(H3.out.1.grew hg4).wide (Nat.le_refl _) hg4.size, H3.out.2.trans hg4⟩
            clear hg4 H3
            go_wp2_with (fail)
            refine (HAR0.out w4 H4.out.2).mono ?_
            rintro e w5 ⟨a5, c5, rfl, hO5, hg5⟩
            obtain ⟨g5, c5', e5, _, _, _, _⟩ := hO5.pos (by omega)
            simp only [Value.slice.injEq] at e5
            obtain ⟨rfl, _, rfl⟩ := e5
            have H5 : Hid (IntsO 3 w.heap.size w5.heap.size w5 (.slice (some ⟨g, 0, none⟩) (t + 1) c') X ∧ Grew w w5) := Lib.hid ⟨(H4.out.1.grew hg5).wide (Nat.le_refl _) hg5.size, H4.out.2.trans hg5⟩
            have HO5 := Lib.hid hO5
            clear hg5 H4 hO5
            go_wp2
            go_loopw [8, 12] (fun v8 v12 wi => ∃ j : Nat, v8 = .int .i64 (x0 : Int) ∧ v12 = .int .i64 (j : Int) ∧ j ≤ s ∧ Hid (Grew w5 wi)) (fun _ v12 _ => s + 1 - (intOf v12).toNat)
            case atStart => exact ⟨0, rfl, rfl, Nat.zero_le _, Grew.refl _⟩
            case round =>
              obtain ⟨j, rfl, rfl, hj, HGI⟩ := hrel
              have hjl : (j : Int) < (A.length : Int) := by omega
              have hel := ((HO5.out.grew HGI.out).at rfl (i := j) (by omega)).1
              have HGW := Lib.hid (H5.out.2.trans HGI.out)
              by_cases hjs : j < s
              · obtain ⟨x, h1, h2, h3⟩ := HS4.out j hjs
                rw [h1] at hel
                have HCL1 := Lib.hid (HCL.out x0 x ht1 h2)
                have HCB1 := Lib.hid (HCB.out x h2)
                have HF1 := Lib.hid (HF.out x h2)
                have hbx := HBD.out x0 x ht1 h2
                obtain ⟨d1, ed⟩ : ∃ d1, D x0 x = d1 := ⟨_, rfl⟩
                obtain ⟨q1, eq1⟩ : ∃ q1, C x = q1 := ⟨_, rfl⟩
                obtain ⟨f1, ef⟩ : ∃ f1, F x = f1 := ⟨_, rfl⟩
                obtain ⟨q0, eq0⟩ : ∃ q0, C x0 = q0 := ⟨_, rfl⟩
                obtain ⟨f0, ef0⟩ : ∃ f0, F x0 = f0 := ⟨_, rfl⟩
                rw [ed] at h3 HCL1 hbx
                rw [eq1] at h3 HCB1 hbx
                rw [ef] at h3 HF1 hbx
                rw [eq0] at h3 hb0 ⊢
                rw [ef0] at h3 hb0 ⊢
                clear ed eq1 ef eq0 ef0 h1
                go_wp2_with (fail)
                refine (HCL1.out _ HGW.out).mono ?_
                rintro e w6 ⟨rfl, hg6⟩
                have HG6 := Lib.hid (And.intro (HGW.out.trans hg6) (HGI.out.trans hg6))
                clear hg6 hel
                go_wp2_with (fail)
                refine (HCB1.out _ HG6.out.1).mono ?_
                rintro e w7 ⟨rfl, hg7⟩
                have HG7 := Lib.hid (And.intro (HG6.out.1.trans hg7) (HG6.out.2.trans hg7))
                clear hg7 HG6
                have hwr : IntKind.i64.wrap (d1 + q1) = d1 + q1 := IntWalk.i64_in _ (by omega)
                by_cases hc1 : d1 + q1 = q0
                · have hd1 : decide (d1 + q1 = q0) = true := decide_eq_true hc1
                  have hf1 : ¬ f1 = f0 - 1 := fun g => h3 ⟨hc1, g⟩
                  have hwr2 : IntKind.i64.wrap (f0 - 1) = f0 - 1 := IntWalk.i64_in _ (by omega)
                  go_wp2_with (fail)
                  refine (HF1.out _ HG7.out.1).mono ?_
                  rintro e w8 ⟨rfl, hg8⟩
                  have HG8 := Lib.hid (HG7.out.2.trans hg8)
                  clear hg8 HG7
                  go_wp2
                  go_roundw
                  case rel => exact ⟨j + 1, rfl, by go_num, by omega, HG8.out⟩
                  case measure => simp [intOf]; omega
                · have hd1 : decide (d1 + q1 = q0) = false := decide_eq_false hc1
                  go_wp2
                  go_roundw
                  case rel => exact ⟨j + 1, rfl, by go_num, by omega, HG7.out.2⟩
                  case measure => simp [intOf]; omega
              · obtain rfl : j = s := by omega
                have h3 := HS3.out
                rw [HS2.out] at hel
                have HCL1 := Lib.hid (HCL.out x0 y ht1 hn1)
                have HCB1 := Lib.hid (HCB.out y hn1)
                have HF1 := Lib.hid (HF.out y hn1)
                have hbx := HBD.out x0 y ht1 hn1
                obtain ⟨d1, ed⟩ : ∃ d1, D x0 y = d1 := ⟨_, rfl⟩
                obtain ⟨q1, eq1⟩ : ∃ q1, C y = q1 := ⟨_, rfl⟩
                obtain ⟨f1, ef⟩ : ∃ f1, F y = f1 := ⟨_, rfl⟩
                obtain ⟨q0, eq0⟩ : ∃ q0, C x0 = q0 := ⟨_, rfl⟩
                obtain ⟨f0, ef0⟩ : ∃ f0, F x0 = f0 := ⟨_, rfl⟩
                rw [ed] at h3 HCL1 hbx
                rw [eq1] at h3 HCB1 hbx
                rw [ef] at h3 HF1 hbx
                rw [eq0] at h3 hb0 ⊢
                rw [ef0] at h3 hb0 ⊢
                obtain ⟨hc1, hc2⟩ := h3
                have hd1 : decide (d1 + q1 = q0) = true := decide_eq_true hc1
                have hd2 : decide (f1 = f0 - 1) = true := decide_eq_true hc2
                have hwr : IntKind.i64.wrap (d1 + q1) = d1 + q1 := IntWalk.i64_in _ (by omega)
                have hwr2 : IntKind.i64.wrap (f0 - 1) = f0 - 1 := IntWalk.i64_in _ (by omega)
                clear ed eq1 ef eq0 ef0 hc1 hc2
                go_wp2_with (fail)
                refine (HCL1.out _ HGW.out).mono ?_
                rintro e w6 ⟨rfl, hg6⟩
                have HG6 := Lib.hid (And.intro (HGW.out.trans hg6) (HGI.out.trans hg6))
                clear hg6 hel
                go_wp2_with (fail)
                refine (HCB1.out _ HG6.out.1).mono ?_
                rintro e w7 ⟨rfl, hg7⟩
                have HG7 := Lib.hid (And.intro (HG6.out.1.trans hg7) (HG6.out.2.trans hg7))
                clear hg7 HG6
                go_wp2_with (fail)
                refine (HF1.out _ HG7.out.1).mono ?_
                rintro e w8 ⟨rfl, hg8⟩
                have H8 : Hid (IntsO 3 w.heap.size w8.heap.size w8 (.slice (some ⟨g, 0, none⟩) (t + 1) c') X ∧ Grew w w8) := Lib.hid ⟨(H5.out.1.grew (HG7.out.2.trans hg8)).wide (Nat.le_refl _) (HG7.out.2.trans hg8).size, HG7.out.1.trans hg8⟩
                have hs8 : w.heap.size ≤ w8.heap.size := H8.out.2.size
                clear hg8 HG7
                go_wp2_with (at_builtin; refine wpList_append_int rfl (.tmp 81) (.tmp 83) 27 rfl Tryd.underlying27 Tryd.infoI rfl rfl rfl H8.out.1 (by rw [HZ1.out.2]; omega) hs8 ?_; intro g9 c9 w9 hO9 hW9 hS9)
                rw [HZ1.out.2] at hO9 ⊢
                have H9 : Hid (IntsO 3 w.heap.size w9.heap.size w9 (.slice (some ⟨g9, 0, none⟩) (t + 1 + 1) c9) (X ++ [(y : Int)]) ∧ Grew w w9) := ⟨hO9, Within.grew H8.out.2 hW9 (Nat.le_refl _)⟩
                clear hO9 hW9 hS9
                go_wp2
                go_roundg (gk - 1)
                case measure => omega
                case rel => exact ⟨t + 1, g9, c9, rfl, by rw [HEY.out], by omega, by omega, by rw [HZ1.out.1]; exact H9.out⟩
                · rename_i hx; exact absurd (of_decide_eq_true hd2) (by simpa using hx)
                · rename_i hx; exact absurd (of_decide_eq_true hd1) hx
          · obtain rfl : t = r := by omega
            rw [ht3 rfl]
            go_wp2
            go_ret
            exact ⟨some ⟨g, 0, none⟩, c', by rw [HZ.out.2.2.2, HZ.out.2.1]; rfl, by rw [HZ.out.2.2.2, HZ.out.2.1]; exact HI.out.1, HI.out.2⟩
end Go.Proofs.YtdhokofcgfolnaaDoor
/- The law FnWaysBack returns true. -/
namespace Go.Proofs.YtdhokofcgfolnaaDoor
open Go.RowKit

theorem rev_at (X : List Int) (t : Nat) (h : t < X.length) : X.reverse.getD t 0 = X.getD (X.length - 1 - t) 0 := by
  rw [List.getD_eq_getElem?_getD, List.getElem?_reverse h, ← List.getD_eq_getElem?_getD]

set_option maxRecDepth 100000 in
set_option maxHeartbeats 8000000 in
theorem FnWaysBack_any (v : Value) (bs : List Int) (w : World) (hv : NumsV .u8 w v bs) (hb : ∀ i, i < bs.length → 0 ≤ bs.getD i 0 ∧ bs.getD i 0 ≤ 255) (hS : Steps w) :
    Calls Tryd.prog 14 #[v] w fun e w' => e = .returned (.bool true) ∧ Grew w w' := by
  have HD := Lib.hid (DrawWayOf_any v bs w hv hb)
  have HS := Lib.hid hS
  obtain ⟨a, b, o, c, rfl, ⟨hlc, hcb⟩, _, _⟩ := hv.shape
  clear hv hb hS
  by_cases hbig : 1048576 < bs.length
  · go_enter Tryd.func14, Tryd.ntmps14
    go_wp2
    go_ret
    exact ⟨rfl, Grew.refl _⟩
  · go_enter Tryd.func14, Tryd.ntmps14
    go_wp2_with (fail)
    refine HD.out.mono ?_
    rintro e w1 ⟨v1, H, i, k, rfl, hO, hd, hg1⟩
    have HV := Lib.hid (And.intro hO.toV hg1)
    obtain ⟨a1, c1, rfl⟩ := hO.sh
    obtain ⟨X, eX⟩ : ∃ X, wayL H i k = X := ⟨_, rfl⟩
    have HX := Lib.hid eX
    clear hO hd hg1 HD eX
    go_wp2_with (fail)
    refine (WayOf_any _ H i k _ HV.out.1 (HS.out.grew HV.out.2)).mono ?_
    rw [HX.out]
    rintro e w2 ⟨a2, c2, rfl, hO2, hg2⟩
    have H2 := Lib.hid (And.intro hO2.toV (And.intro (HV.out.1.grew hg2) (HV.out.2.trans hg2)))
    clear hO2 hg2
    go_wp2_with (fail)
    refine (SWayOf_any _ H i k _ H2.out.2.1).mono ?_
    rw [HX.out]
    rintro e w3 ⟨a3, c3, rfl, hO3, hg3⟩
    have H3 := Lib.hid (And.intro hO3.toV (And.intro (H2.out.2.1.grew hg3) (And.intro (H2.out.2.2.trans hg3) (H2.out.1.grew hg3))))
    clear hO3 hg3
    go_wp2_with (fail)
    refine (equalInts_any _ _ X X _ H3.out.2.2.2 H3.out.1).mono ?_
    rw [decide_eq_true (rfl : X = X)]
    rintro e w4 ⟨rfl, hq⟩
    have H4 := Lib.hid (And.intro (H3.out.2.1.grew (quiet_grew hq)) (And.intro (H3.out.2.2.1.trans (quiet_grew hq)) (H3.out.2.2.2.grew (quiet_grew hq))))
    clear hq H3 H2
    go_wp2_with (fail)
    refine (WayOf_any _ H i k _ H4.out.1 (HS.out.grew H4.out.2.1)).mono ?_
    rw [HX.out]
    rintro e w5 ⟨a5, c5, rfl, hO5, hg5⟩
    have H5 := Lib.hid (And.intro hO5.toV hg5)
    have hX6 : X.length ≤ 1000 := by
      rw [← HX.out]
      exact wayL_small H i k
    clear hO5 hg5
    go_wp2_with (fail)
    refine (backwards_any _ X _ H5.out.1 hX6).mono ?_
    rintro e w6 ⟨v6, rfl, hO6, hg6⟩
    have H6 := Lib.hid (And.intro hO6.toV (H5.out.2.trans hg6))
    obtain ⟨a6, c6, rfl⟩ := hO6.sh
    clear hO6 hg6 H5
    rw [List.length_reverse] at H6 ⊢
    by_cases hX : X.length = 0
    · have hX' : ((X.length : Int) == 0) = true := by simp [hX]
      clear hX hX6
      go_wp2
      go_ret
      exact ⟨rfl, H4.out.2.1.trans H6.out.2⟩
    · have hX' : ((X.length : Int) == 0) = false := beq_eq_false_iff_ne.2 (by omega)
      have hcc : (vCell H i && vCell H k) = true := by
        cases hc : vCell H i && vCell H k with
        | true => rfl
        | false =>
          have := HX.out
          rw [wayL_no hc] at this
          rw [← this] at hX
          exact absurd rfl hX
      obtain ⟨hci, hck⟩ := (Bool.and_eq_true _ _ ▸ hcc : _ ∧ _)
      obtain ⟨hvg, h0, hI, _⟩ := vCell_yes hci
      obtain ⟨_, k0, hK, _⟩ := vCell_yes hck
      obtain ⟨I, rfl⟩ := Int.eq_ofNat_of_zero_le h0
      obtain ⟨K, rfl⟩ := Int.eq_ofNat_of_zero_le k0
      rw [Int.toNat_natCast] at hI hK
      have G := Grid.of hvg
      obtain ⟨n, en⟩ : ∃ n, H.length = n := ⟨_, rfl⟩
      obtain ⟨m, em⟩ : ∃ m, (H.getD 0 []).length = m := ⟨_, rfl⟩
      obtain ⟨N, eN⟩ : ∃ N, n * m = N := ⟨_, rfl⟩
      have hn5 := G.n5
      have hm5 := G.m5
      have hgs : H.length ≤ 1000 ∧ ∀ r, r < H.length → 1 ≤ (H.getD r []).length ∧ (H.getD r []).length ≤ 1000 := ⟨by have := G.n5; omega, fun r hr => by have := G.len r hr; have := G.m1; have := G.m5; omega⟩
      rw [en] at hn5 hI hK
      rw [em] at hm5 hI hK
      rw [eN] at hI hK
      have hN25 : N ≤ 25 := by rw [← eN]; exact Nat.mul_le_mul hn5 hm5
      have hpn : ∀ i, i < n * m → 0 ≤ H.flatten.getD i 0 ∧ H.flatten.getD i 0 ≤ 12 := fun i hi => grid_num G i (by rw [en, em]; exact hi)
      have hpl := flat_grid_len G
      rw [en, em, eN] at hpl
      obtain ⟨r, cf, hW, hwl, hcl, hcl2, hfe⟩ := way_is G en em eN hci hck hI hK
      have HRH := Lib.hid fun W (hW : Grew w4 W) => rowOf_any _ H W (H4.out.1.grew hW) hgs.1 hgs.2
      have hback := climbN_back hn5 hm5 hpn (i := I) (k := K) (by omega) (by omega)
      have hub : ∀ x, x < N → 0 ≤ climbN n m H.flatten x K ∧ climbN n m H.flatten x K ≤ 300 := fun x hx => ⟨(climbN_walk hn5 hm5 hpn (i := x) (k := K) (by omega) (by omega)).1, climbN_up hn5 hm5 hpn (by omega)⟩
      have hpb : ∀ x, x < N → 0 ≤ H.flatten.getD x 0 ∧ H.flatten.getD x 0 ≤ 12 := fun x hx => hpn x (by omega)
      obtain ⟨p, ep⟩ : ∃ p, H.flatten = p := ⟨_, rfl⟩
      rw [ep] at HRH hpl hW hcl hcl2 hback hub hpb
      rw [HX.out] at hwl
      have hXl : X.length = r + 1 := by rw [hwl]; simp
      have hXa : ∀ t, t < r + 1 → X.reverse.getD t 0 = ((cf (r - t) : Nat) : Int) := fun t ht => by
        rw [rev_at _ _ (by omega), hXl, show r + 1 - 1 - t = r - t by omega, hwl]
        simp [show r - t < r + 1 by omega]
      have HA := Lib.hid (And.intro hXa (And.intro hW (And.intro hub hpb)))
      have HCB : Hid (∀ W, Grew w4 W → Calls Tryd.prog 16 #[.slice a1 H.length c1, .int .i64 K, .int .i64 I] W fun e w' => e = .returned (.int .i64 (climbN n m p K I)) ∧ Grew W w') := fun W hW => by
        have := ClimbBetween_any _ H (K : Int) (I : Int) W (H4.out.1.grew hW) (HS.out.grew (H4.out.2.1.trans hW))
        rwa [hcl2] at this
      obtain ⟨a', bw, ow, c'', e', _, ha', HCW⟩ := H6.out.1.shape
      rw [List.length_reverse] at e' ha' HCW
      simp only [Value.slice.injEq] at e'
      obtain ⟨rfl, _, rfl⟩ := e'
      obtain rfl := ha' (by omega)
      have hrN := hW.few
      have HBK := Lib.hid (And.intro hback (And.intro hW.first hW.last))
      have HPL := Lib.hid hpl
      have hr0 : 0 < r + 1 := by omega
      rw [hXl] at HCW H6 hX' ⊢
      have hX2 : (((r + 1 : Nat) : Int) == 0) = false := hX'
      obtain ⟨r1, er1⟩ : ∃ r1, r + 1 = r1 := ⟨_, rfl⟩
      have HR1 := Lib.hid er1
      rw [er1] at HCW H6 hX2 ⊢
      have hr26 : r1 ≤ 26 := by omega
      clear hX' hX hcc hci hck hvg h0 k0 G en em eN hn5 hm5 hgs hpn hpl hwl hcl hcl2 hfe hback hub hpb hXl hXa hW ep ha' hX6 er1 hr0
      go_wp2_with (fail)
      refine (HRH.out _ H6.out.2).mono ?_
      rintro e w7 ⟨g7, c7, rfl, hO7, hg7⟩
      rw [HPL.out] at hO7 ⊢
      have H7 := Lib.hid (And.intro hO7 hg7)
      clear hO7 hg7 HRH
      go_wp2
      go_loopw [8, 9] (fun uv iv wr => ∃ (t : Nat) (u : Int), 1 ≤ t ∧ t ≤ r1 ∧ iv = .int .i64 t ∧ uv = .int .i64 u ∧ -20 ≤ u ∧ u ≤ 320 ∧ Hid (u = climbN n m p (cf (r - (t - 1))) K + p.getD (cf (r - (t - 1))) 0 - p.getD K 0 ∧ ∃ q, wr = w7.drewN q)) (fun _ iv _ => r1 - (intOf iv).toNat)
      case atStart => exact ⟨1, 0, by omega, by have := HR1.out; omega, rfl, rfl, by omega, by omega, by rw [show r - (1 - 1) = r by omega, HBK.out.2.2, HA.out.2.1.zero]; omega, 0, rfl⟩
      case round =>
        obtain ⟨t, u, ht1, htr, rfl, rfl, hu0, hu1, HI⟩ := hrel
        have hg := quiet_grew HI.out.2
        by_cases hlt : t < r1
        · have hr1 := HR1.out
          obtain ⟨t1, et1⟩ : ∃ t1, t - 1 = t1 := ⟨_, rfl⟩
          have hcw1 := hg.cell (H7.out.2.cell (HCW.out t hlt))
          have hcw0 := hg.cell (H7.out.2.cell (HCW.out t1 (by omega)))
          rw [HA.out.1 t (by omega)] at hcw1
          rw [HA.out.1 t1 (by omega)] at hcw0
          have hdn := HA.out.2.1.down (r - t) (by omega)
          have hAN := HA.out.2.1.lt (r - t) (by omega)
          have hBN := HA.out.2.1.lt (r - t1) (by omega)
          rw [show r - t + 1 = r - t1 by omega] at hdn
          have hu := HI.out.1
          rw [et1] at hu
          obtain ⟨A, eA⟩ : ∃ A, cf (r - t) = A := ⟨_, rfl⟩
          obtain ⟨B, eB⟩ : ∃ B, cf (r - t1) = B := ⟨_, rfl⟩
          rw [eA] at hcw1 hdn hAN
          rw [eB] at hcw0 hdn hBN hu
          have hpA := HA.out.2.2.2 A hAN
          have hpB := HA.out.2.2.2 B hBN
          have hpK := HA.out.2.2.2 K hK
          have hcA := HA.out.2.2.1 A hAN
          have hyA := hg.cell (H7.out.1.at rfl (i := A) (by rw [HPL.out]; exact hAN)).1
          have hyB := hg.cell (H7.out.1.at rfl (i := B) (by rw [HPL.out]; exact hBN)).1
          obtain ⟨x, ex⟩ : ∃ x, p.getD A 0 = x := ⟨_, rfl⟩
          obtain ⟨y, ey⟩ : ∃ y, p.getD B 0 = y := ⟨_, rfl⟩
          rw [ex] at hyA hpA hdn
          rw [ey] at hyB hpB hdn hu
          rw [← hu] at hdn
          have HNX : Hid (u + max (x - y) 0 = climbN n m p (cf (r - (t + 1 - 1))) K + p.getD (cf (r - (t + 1 - 1))) 0 - p.getD K 0) := by
            rw [show t + 1 - 1 = t by omega, eA, ex]; exact hdn
          have hbu : -20 ≤ u + max (x - y) 0 ∧ u + max (x - y) 0 ≤ 320 := by omega
          obtain ⟨hb0, hb1⟩ := hbu
          have e1 : (t : Int) - 1 = (t1 : Int) := by omega
          have w1' : IntKind.i64.wrap (t1 : Int) = t1 := IntWalk.i64_in _ (by omega)
          have w2' : IntKind.i64.wrap (x - y) = x - y := IntWalk.i64_in _ (by omega)
          have w3' : IntKind.i64.wrap (u + max (x - y) 0) = u + max (x - y) 0 := IntWalk.i64_in _ (by omega)
          have s1 : (t : Int) < r1 := by omega
          have s2 : (0 : Int) ≤ t := by omega
          have s3 : (t1 : Int) < r1 := by omega
          have s4 : (0 : Int) ≤ t1 := by omega
          have s5 : t1 < r1 := by omega
          have s6 : (A : Int) < N := by omega
          have s7 : (0 : Int) ≤ A := by omega
          have s8 : (B : Int) < N := by omega
          have s9 : (0 : Int) ≤ B := by omega
          clear eA eB ex ey hu hdn hg et1 hr1 hcA
          go_wp2
          go_quiet (fail)
          go_wp2
          go_roundw
          case rel => exact ⟨t + 1, u + max (x - y) 0, by omega, by omega, by go_num, rfl, hb0, hb1, HNX.out, quiet_step HI.out.2 _⟩
          case measure => simp [intOf]; omega
        · obtain rfl : t = r1 := by omega
          have hfin : u = climbN n m p K I := by
            have h1 := HI.out.1
            have h2 := HR1.out
            rw [show r - (t - 1) = 0 by omega, HBK.out.2.1] at h1
            rw [h1, HBK.out.1]; omega
          have HG := Lib.hid (H6.out.2.trans (H7.out.2.trans hg))
          rw [← hfin] at HCB
          have euu : (u == u) = true := by simp
          clear hfin hg
          go_wp2_with (fail)
          refine (HCB.out _ HG.out).mono ?_
          rintro e w9 ⟨rfl, hg9⟩
          have H9 := Lib.hid (H4.out.2.1.trans (HG.out.trans hg9))
          clear hg9
          go_wp2
          go_ret
          exact ⟨ret_bool (by simp), H9.out⟩
end Go.Proofs.YtdhokofcgfolnaaDoor
namespace Go.Proofs.YtdhokofcgfolnaaDoor.pWaysBack
open Go.RowKit Go.ChangeShapes Go.WideShapes Go.ChangeAt

set_option maxRecDepth 100000 in
theorem lifted (os : Os) (started : os.Started) (H : Type) (enc : TypeId × Value → H) :
    ReturnsInHanded {} Tryd.checked os 14 .any (fun w args => (Rows.fnWaysBackSpec.pre enc Tryd.prog Tryd.f14 [] false w args ∧ laidMetH Tryd.prog laid1 w) ∧ sizedMet enc Tryd.prog Tryd.f14 (OpenSpec.ofChange Rows.fnWaysBackSpec) false w args)
      (Rows.fnWaysBackSpec.post enc Tryd.prog Tryd.f14 false true false false) := by
  refine returnsInHanded_of_change_and (C := Tryd.checked) (X := fun w _ => laidMetH Tryd.prog laid1 w) (fun _ _ _ hh h => h.of_heap hh) Tryd.own started (by kernel_rfl) Tryd.func14
    (ChangeSpec.witness_shaped (enc := enc) (C := Tryd.checked) (os := os) (X := fun w _ => laidMetH Tryd.prog laid1 w) false (World.doorLaid Tryd.prog 400 os) #[.slice none 0 0] 8 rfl (World.shaped_of_RefB (by kernel_rfl) (by kernel_rfl)) (by kernel_rfl) (by kernel_rfl) (by kernel_rfl) (door_met os _)) ?_
  intro W base args ds gs before hval0 hW _ _ hL _
  have hval : ∀ (j : Nat) t v, Tryd.f14.params[j]? = some t → args[j]? = some v → Value.okWide Tryd.prog W .any base t v := hval0
  have hW' := hW
  obtain ⟨p, q, hA0, hV, rfl, _, _⟩ := hW
  have hA : DataW.TrodAll enc Tryd.prog W 0 (fun _ => true) true Tryd.f14.params.toList args.toList ds p := hA0
  rw [Tryd.params14] at hA hval
  obtain ⟨v0, d0, rfl, rfl, h0⟩ := trodAll_one hA
  have hV' := hV
  obtain ⟨_, _, _, _, dv, _, rfl, _⟩ := trodVars_one hV
  obtain ⟨a0, len0, cap0, rfl⟩ := okWide_slice Tryd.underlying22 (hval 0 22 v0 rfl rfl)
  have k0 := h0
  have lt0 : ∀ x ∈ p, x.block < W.heap.size := by obtain ⟨m, hm⟩ := k0; exact DataW.trod_lt m _ _ _ hm
  obtain ⟨bs0, hn0, hb0⟩ := bytes_came h0
  have HS := steps_of_laid hL
  clear hA0 hval0
  refine (FnWaysBack_any _ bs0 W hn0 hb0 HS).mono fun e W' ⟨he, bel⟩ => ?_
  subst he
  exact ⟨_, rfl, _, _, _, [], _, q, hW', trodAll_mk1 (shut_bool Tryd.underlying4 _), (trodAll_mk1 (Below.trod Tryd.laidOut (by kernel_rfl) (of_decide_eq_true (by kernel_rfl)) k0 bel lt0)), Below.trodVars Tryd.laidOut bel (by kernel_rfl) hV', Below.frame bel _, fun h => by cases h⟩

theorem row_proved : Rows.FnWaysBackSaid :=
  OpenClaim.holds_of_wide 14 Tryd.f14 rfl rfl rfl rfl rfl rfl rfl ⟨rfl, rfl, rfl, rfl, rfl⟩ rfl rfl rfl rfl rfl (by kernel_rfl) Tryd.func14
    (show joinedFacts Tryd.prog 14 Tryd.f14 Rows.fnWaysBackSpec Rows.fnWaysBackRow = true by unfold joinedFacts; rw [Tryd.makeG, Tryd.liftsG, Tryd.enterG]; kernel_rfl)
    (of_decide_eq_true (by kernel_rfl)) (by unfold Func.isWrapper; first | (rw [if_pos (by decide +kernel)]; kernel_rfl) | (rw [if_neg (by decide +kernel)]; exact ⟨rfl, rfl⟩))
    (fun os started H enc _ => lifted os started H enc)

theorem proved : Rows.FnWaysBackCardSaid :=
  Claim7.holds_tied_plain_at .later [] [.data] true Rows.fnWaysBackCard.stood.harness Rows.fnWaysBackCard.stood.looks
    row_proved (fun _ h => by cases h) (by kernel_rfl) (fun _ h => by cases h) fnWaysBack_row_tie rfl ⟨rfl, rfl⟩ (show Tryd.prog.mainIs = some (Rows.fnWaysBackCard.stood.harness.1, Rows.fnWaysBackCard.stood.harness.2.toList) from Tryd.mainG) rfl
    (fun f fn hf hfn => by
      obtain rfl : f = 14 := Option.some.inj ((show Tryd.prog.funcNamed "loop.example/wateronheights/laws.FnWaysBack" = some 14 by kernel_rfl).symm.trans hf) |>.symm
      obtain rfl : fn = Tryd.f14 := (Option.some.inj (Tryd.func14.symm.trans hfn)).symm
      exact ⟨by kernel_rfl, fun j t ht => by
        rw [Tryd.params14] at ht
        have hm : t ∈ [22] := by simpa using Array.mem_of_getElem? ht
        have hall : ([22].all fun u => !Tryd.prog.wantsStandIn u) = true := by kernel_rfl
        exact (show Tryd.prog.wantsStandIn t = false by simpa using List.all_eq_true.1 hall t hm)⟩)
    (by kernel_rfl)
#print axioms proved
end Go.Proofs.YtdhokofcgfolnaaDoor.pWaysBack
