/- The contract of impl.FillBySinking. -/
import Derived.Test.YthjnfkphlildaaaDoorSink
namespace Go.Proofs.YthjnfkphlildaaaDoor
open Go.RowKit

/-- The heights, with MaxHeight on the cells before I that are not at the edge. -/
def topped (n m : Nat) (p : List Int) (I : Nat) (xs : List Int) : Prop := xs.length = n * m ∧ ∀ i, i < n * m → xs.getD i 0 = if i < I ∧ edgeL n m i = false then 12 else p.getD i 0
theorem topped_start {n m : Nat} {p : List Int} (h : p.length = n * m) : topped n m p 0 p := ⟨h, fun i _ => by rw [if_neg (by omega)]⟩
theorem topped_edge {n m I : Nat} {p xs : List Int} (h : topped n m p I xs) (he : edgeL n m I = true) : topped n m p (I + 1) xs :=
  ⟨h.1, fun i hi => by
    rw [h.2 i hi]
    by_cases e : i = I
    · subst e; rw [if_neg (by rw [he]; simp), if_neg (by rw [he]; simp)]
    · by_cases e2 : i < I ∧ edgeL n m i = false
      · rw [if_pos e2, if_pos ⟨by omega, e2.2⟩]
      · rw [if_neg e2, if_neg (fun h => e2 ⟨by omega, h.2⟩)]⟩
theorem topped_top {n m I : Nat} {p xs : List Int} (h : topped n m p I xs) (hI : I < n * m) (he : edgeL n m I = false) : topped n m p (I + 1) (xs.set I 12) :=
  ⟨by simp [h.1], fun i hi => by
    rw [getD_set _ _ _ _ (by rw [h.1]; exact hI)]
    by_cases e : i = I
    · subst e; rw [if_pos rfl, if_pos ⟨by omega, he⟩]
    · rw [if_neg e, h.2 i hi]
      by_cases e2 : i < I ∧ edgeL n m i = false
      · rw [if_pos e2, if_pos ⟨by omega, e2.2⟩]
      · rw [if_neg e2, if_neg (fun h => e2 ⟨by omega, h.2⟩)]⟩
theorem topped_sink {n m : Nat} {p xs : List Int} (h : topped n m p (n * m) xs) (hp : ∀ i, i < n * m → p.getD i 0 ≤ 12) : Sink n m p xs :=
  sink_start h.1 hp fun i hi => by
    rw [h.2 i hi]
    cases he : edgeL n m i with
    | true => rw [if_neg (by simp), if_pos rfl]
    | false => rw [if_pos ⟨hi, rfl⟩, if_neg (by simp)]

set_option maxRecDepth 100000 in
set_option maxHeartbeats 4000000 in
theorem FillBySinking_any (v : Value) (h : List (List Int)) (w : World) (hv : RowsV w v h) (hS : Steps w) :
    Calls Tryd.prog 24 #[v] w (NewRows w (fillL h)) := by
  have HK := ValidGrid_any v h w hv
  cases hg : vGrid h with
  | false =>
    rw [hg] at HK
    have HK2 := Lib.hid HK
    rw [fillL_no hg]
    obtain ⟨a, b, o, c, rfl, _, _, _⟩ := hv.shape
    clear hv hS HK hg
    go_enter Tryd.func24, Tryd.ntmps24
    go_wp2_with (fail)
    refine HK2.out.mono ?_
    rintro e w1 ⟨rfl, rfl⟩
    go_wp2
    go_ret
    exact ⟨_, rfl, RowsO.nil _ _ _ _ _, Grew.refl _⟩
  | true =>
    rw [hg] at HK
    have HK2 := Lib.hid HK
    have G := Grid.of hg
    obtain ⟨n, en⟩ : ∃ n, h.length = n := ⟨_, rfl⟩
    obtain ⟨m, em⟩ : ∃ m, (h.getD 0 []).length = m := ⟨_, rfl⟩
    obtain ⟨N, eN⟩ : ∃ N, n * m = N := ⟨_, rfl⟩
    have hK := fun W (hW : Grew w W) => slicesConcat_any v h W (hv.grew hW) G.n1 (Nat.le_trans G.n5 (by decide)) (fun r hr => by have := G.len r hr; have := G.m1; have := G.m5; omega)
    have hpl := flat_grid_len G
    have hpn : ∀ i, i < N → 0 ≤ h.flatten.getD i 0 ∧ h.flatten.getD i 0 ≤ 12 := fun i hi => grid_num G i (by rw [en, em, eN]; exact hi)
    rw [en, em, eN] at hpl
    have HFY : ∀ ws, Level n m h.flatten ws → fillL h = shapeL ws m n := fun ws W => fillL_yes hg en em W
    obtain ⟨p, ep⟩ : ∃ p, h.flatten = p := ⟨_, rfl⟩
    rw [ep] at hK hpl hpn HFY
    have HY := Lib.hid HFY
    obtain ⟨R, eR⟩ : ∃ R, fillL h = R := ⟨_, rfl⟩
    rw [eR] at HY ⊢
    have HKK := Lib.hid hK
    have hn5 := G.n5
    have hn1 := G.n1
    have hm5 := G.m5
    have hm1 := G.m1
    rw [en] at hn5 hn1
    rw [em] at hm5 hm1
    have hN25 : N ≤ 25 := by rw [← eN]; exact Nat.mul_le_mul hn5 hm5
    have hN1 : 1 ≤ N := by rw [← eN]; exact Nat.mul_pos hn1 hm1
    have HNM := Lib.hid (And.intro hn5 (And.intro hm5 (And.intro eN (And.intro hpl (And.intro hm1 hpn)))))
    have HE : Hid (∀ (I : Nat) (W : World), Grew w W → I < N → Calls Tryd.prog 60 #[v, .int .i64 I] W fun e w' => e = .returned (.bool (edgeL n m I)) ∧ Grew W w') :=
      Lib.hid fun I W hW hI => by
        have := atEdge_any v h I W (hv.grew hW) hg (by rw [en, em, eN]; exact hI) (hS.grew hW)
        rw [en, em] at this
        exact this
    have HSK := Lib.hid fun (B0 g1 c1 g c : Nat) (xs0 : List Int) (W : World) (hW : Grew w W) => sinkAll_any v h n m N B0 g1 c1 g c p xs0 w W hv hg hS en em eN hpl hW
    obtain ⟨a, b, o, c, rfl, ⟨hlc, hcb⟩, ha, HCR⟩ := hv.shape
    obtain rfl := ha (by omega)
    obtain ⟨u0, hcu0, hu0⟩ := HCR.out 0 (by omega)
    rw [Nat.add_zero] at hcu0
    obtain ⟨a0, b0, o0, c0, rfl, _, _, _⟩ := hu0.shape
    rw [em] at hcu0
    have HCU := Lib.hid hcu0
    rw [en] at HK2 HKK HE HSK hlc ⊢
    have hn0 : (0 : Int) < (n : Int) := by omega
    clear hv hS HK hg G ha HCR hu0 hcu0 en em ep eN hK HFY hn5 hm5 hm1 hpl hpn eR
    go_enter Tryd.func24, Tryd.ntmps24
    go_wp2_with (fail)
    refine HK2.out.mono ?_
    rintro e w0 ⟨rfl, rfl⟩
    go_wp2_with (fail)
    refine (HKK.out _ (Grew.refl _)).mono ?_
    rintro e w1 ⟨g1, c1, rfl, hO1, hg1⟩
    rw [HNM.out.2.2.2.1] at hO1 ⊢
    have H1 := Lib.hid (And.intro hO1 hg1)
    clear hO1 hg1 HKK
    have HCL : Hid (Calls Tryd.prog 64 #[.slice (some ⟨g1, 0, none⟩) N c1] w1 (FlatPost w1 p)) := Lib.hid (by
      have := slicesClone_any g1 0 c1 p w1 (fun i hi => by rw [Nat.zero_add]; exact (H1.out.1.at rfl hi).1) (by rw [HNM.out.2.2.2.1]; exact hN1) (by rw [HNM.out.2.2.2.1]; omega)
      rwa [HNM.out.2.2.2.1] at this)
    go_wp2_with (fail)
    refine HCL.out.mono ?_
    rintro e w2 ⟨g2, c2, rfl, hO2, hg2⟩
    rw [HNM.out.2.2.2.1] at hO2 ⊢
    have hb2 := hO2.blk
    have hsz1 := H1.out.2.size
    have H2 : Hid (IntsO 3 w.heap.size g2 w2 (.slice (some ⟨g1, 0, none⟩) N c1) p ∧ IntsO 3 g2 (g2 + 1) w2 (.slice (some ⟨g2, 0, none⟩) N c2) p ∧ Grew w w2 ∧ w.heap.size ≤ g2 ∧ g2 < w2.heap.size) :=
      Lib.hid ⟨(H1.out.1.grew hg2).wide (Nat.le_refl _) hb2.1, hO2.at1, H1.out.2.trans hg2, by omega, hb2.2⟩
    clear hO2 hg2 H1 HCL hb2 hsz1
    go_wp2
    go_loopw [15] (fun i wr => ∃ I : Nat, I ≤ N ∧ i = .int .i64 (I : Int) ∧ Hid (∃ xs, IntsO 3 w.heap.size g2 wr (.slice (some ⟨g1, 0, none⟩) N c1) p ∧ IntsO 3 g2 (g2 + 1) wr (.slice (some ⟨g2, 0, none⟩) N c2) xs ∧ topped n m p I xs ∧ Grew w wr ∧ g2 < wr.heap.size)) (fun i _ => N - (intOf i).toNat)
    case atStart => exact ⟨0, Nat.zero_le _, rfl, p, H2.out.1, H2.out.2.1, topped_start (by rw [HNM.out.2.2.2.1, HNM.out.2.2.1]), H2.out.2.2.1, H2.out.2.2.2.2⟩
    case round =>
      obtain ⟨I, hI1, rfl, HX⟩ := hrel
      by_cases hI : I < N
      · have HG : Hid (Grew w wr) := by obtain ⟨_, _, _, _, hG, _⟩ := HX.out; exact Lib.hid hG
        have HEI := HE.out I wr HG.out hI
        cases he : edgeL n m I with
        | true =>
          rw [he] at HEI
          have HEI2 := Lib.hid HEI
          have HE3 := Lib.hid he
          clear HEI he
          go_wp2_with (fail)
          refine HEI2.out.mono ?_
          rintro e w3 ⟨rfl, hg3⟩
          have HF : Hid (∃ xs, IntsO 3 w.heap.size g2 w3 (.slice (some ⟨g1, 0, none⟩) N c1) p ∧ IntsO 3 g2 (g2 + 1) w3 (.slice (some ⟨g2, 0, none⟩) N c2) xs ∧ topped n m p (I + 1) xs ∧ Grew w w3 ∧ g2 < w3.heap.size) := by
            obtain ⟨xs, h1, h2, h3, h4, h5⟩ := HX.out
            exact Lib.hid ⟨xs, h1.grew hg3, h2.grew hg3, topped_edge h3 HE3.out, h4.trans hg3, Nat.lt_of_lt_of_le h5 hg3.size⟩
          clear hg3 HX
          go_wp2
          go_roundw
          case rel => exact ⟨I + 1, by omega, by go_num, HF.out⟩
          case measure => simp [intOf]; omega
        | false =>
          rw [he] at HEI
          have HEI2 := Lib.hid HEI
          have HE3 := Lib.hid he
          clear HEI he
          go_wp2_with (fail)
          refine HEI2.out.mono ?_
          rintro e w3 ⟨rfl, hg3⟩
          obtain ⟨xs, HX3⟩ : ∃ xs, Hid (IntsO 3 w.heap.size g2 w3 (.slice (some ⟨g1, 0, none⟩) N c1) p ∧ IntsO 3 g2 (g2 + 1) w3 (.slice (some ⟨g2, 0, none⟩) N c2) xs ∧ topped n m p I xs ∧ Grew w w3 ∧ g2 < w3.heap.size) := by
            obtain ⟨xs, h1, h2, h3, h4, h5⟩ := HX.out
            exact ⟨xs, h1.grew hg3, h2.grew hg3, h3, h4.trans hg3, Nat.lt_of_lt_of_le h5 hg3.size⟩
          have hxl : xs.length = N := by rw [HX3.out.2.2.1.1]; exact HNM.out.2.2.1
          obtain ⟨hcI, hfI⟩ := HX3.out.2.1.at rfl (i := I) (by omega)
          have HF : Hid (∃ xs, IntsO 3 w.heap.size g2 (w3.setCell ⟨g2, I, none⟩ (.int .i64 12)) (.slice (some ⟨g1, 0, none⟩) N c1) p ∧ IntsO 3 g2 (g2 + 1) (w3.setCell ⟨g2, I, none⟩ (.int .i64 12)) (.slice (some ⟨g2, 0, none⟩) N c2) xs ∧ topped n m p (I + 1) xs ∧ Grew w (w3.setCell ⟨g2, I, none⟩ (.int .i64 12)) ∧ g2 < (w3.setCell ⟨g2, I, none⟩ (.int .i64 12)).heap.size) := by
            obtain ⟨h1, h2, h3, h4, h5⟩ := HX3.out
            have hwi : Within g2 (g2 + 1) w3 (w3.setCell ⟨g2, I, none⟩ (.int .i64 12)) := (Within.refl _ _ _).setCell (p := ⟨g2, I, none⟩) (Nat.le_refl _) (Nat.lt_succ_self _) _
            exact Lib.hid ⟨_, h1.within hwi (.inl (Nat.le_refl _)), h2.set rfl I 12, topped_top h3 (by rw [HNM.out.2.2.1]; exact hI) HE3.out, Within.grew h4 hwi H2.out.2.2.2.1, Nat.lt_of_lt_of_le h5 hwi.size⟩
          clear hg3 HX HX3 hxl
          go_wp2
          go_roundw
          case rel => exact ⟨I + 1, by omega, by go_num, HF.out⟩
          case measure => simp [intOf]; omega
      · obtain rfl : I = N := by omega
        obtain ⟨S0, HX2⟩ : ∃ S0 : Nat, Hid (∃ xs, IntsO 3 w.heap.size g2 wr (.slice (some ⟨g1, 0, none⟩) I c1) p ∧ IntsO 3 g2 (g2 + 1) wr (.slice (some ⟨g2, 0, none⟩) I c2) xs ∧ Sink n m p xs ∧ xs.sum.toNat = S0 ∧ Grew w wr) := by
          obtain ⟨xs, h1, h2, h3, h4, h5⟩ := HX.out
          refine ⟨_, xs, h1, h2, topped_sink ?_ ?_, rfl, h4⟩
          · rw [HNM.out.2.2.1]; exact h3
          · intro i hi
            exact (HNM.out.2.2.2.2.2 i (by rw [← HNM.out.2.2.1]; exact hi)).2
        clear HX
        go_wp2
        go_loopg [29] (S0 + 1) (fun gk bv wo => Hid (∃ xs, IntsO 3 w.heap.size g2 wo (.slice (some ⟨g1, 0, none⟩) I c1) p ∧ IntsO 3 g2 (g2 + 1) wo (.slice (some ⟨g2, 0, none⟩) I c2) xs ∧ Sink n m p xs ∧ xs.sum.toNat + 1 ≤ gk ∧ Grew w wo))
        case atStart =>
          obtain ⟨xs, h1, h2, h3, h4, h5⟩ := HX2.out
          exact ⟨xs, h1, h2, h3, by omega, h5⟩
        case round =>
          obtain ⟨xs, HZ⟩ : ∃ xs, Hid (IntsO 3 w.heap.size g2 wr (.slice (some ⟨g1, 0, none⟩) I c1) p ∧ IntsO 3 g2 (g2 + 1) wr (.slice (some ⟨g2, 0, none⟩) I c2) xs ∧ Sink n m p xs ∧ xs.sum.toNat + 1 ≤ gk ∧ Grew w wr) := hrel.out
          have HC := Lib.hid (HSK.out w.heap.size g1 c1 g2 c2 xs wr HZ.out.2.2.2.2 H2.out.2.2.2.1 HZ.out.1 HZ.out.2.1 HZ.out.2.2.1)
          have hg1 : 1 ≤ gk := by have := HZ.out.2.2.2.1; omega
          clear hrel
          go_wp2_with (fail)
          refine HC.out.mono ?_
          rintro e w4 ⟨bb, ys, rfl, h1, h2, h3, h4, h5, h6⟩
          cases bb with
          | true =>
            have HE4 : Hid (∃ xs, IntsO 3 w.heap.size g2 w4 (.slice (some ⟨g1, 0, none⟩) I c1) p ∧ IntsO 3 g2 (g2 + 1) w4 (.slice (some ⟨g2, 0, none⟩) I c2) xs ∧ Sink n m p xs ∧ xs.sum.toNat + 1 ≤ gk - 1 ∧ Grew w w4) := by
              refine Lib.hid ⟨ys, h2, h1, h3, ?_, h6⟩
              have := h5 rfl
              have := HZ.out.2.2.2.1
              have := h3.sum (fun i hi => (HNM.out.2.2.2.2.2 i (by rw [← HNM.out.2.2.1]; exact hi)).1)
              omega
            clear h1 h2 h3 h4 h5 h6 HZ HC
            go_wp2
            go_roundg (gk - 1)
            case measure => omega
            case rel => exact HE4
          | false =>
            have hlev : Level n m p ys := h3.level (by have := h4 rfl; rwa [← HNM.out.2.2.1] at this)
            have hcu := h6.cell HCU.out
            have HE4 : Hid (R = shapeL ys m n ∧ IntsO 3 g2 (g2 + 1) w4 (.slice (some ⟨g2, 0, none⟩) I c2) ys ∧ Grew w w4) := Lib.hid ⟨HY.out ys hlev, h1, h6⟩
            clear h1 h2 h3 h4 h5 h6 HZ HC hlev
            go_wp2_with (fail)
            refine (inRows_own HE4.out.2.1 HNM.out.1 HNM.out.2.2.2.2.1 HNM.out.2.1 HNM.out.2.2.1).mono ?_
            rintro e w5 ⟨v5, rfl, hO5, hg5⟩
            obtain ⟨a5, c5, rfl⟩ := hO5.sh
            have H5 : Hid (RowsO 27 3 w.heap.size w5.heap.size w5 (.slice a5 (shapeL ys m n).length c5) (shapeL ys m n) ∧ Grew w w5) := Lib.hid ⟨hO5.wide HE4.out.2.2.size (Nat.le_refl _), HE4.out.2.2.trans hg5⟩
            clear hO5 hg5
            go_wp2
            go_ret
            rw [HE4.out.1]
            exact ⟨_, rfl, H5.out⟩
end Go.Proofs.YthjnfkphlildaaaDoor
