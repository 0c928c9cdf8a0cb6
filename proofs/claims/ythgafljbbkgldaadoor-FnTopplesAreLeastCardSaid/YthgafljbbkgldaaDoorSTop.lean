/- The contracts of spec.topple and spec.settle. -/
import Derived.Test.YthgafljbbkgldaaDoorTop
import Derived.Test.YthgafljbbkgldaaDoorAround
import Derived.Test.YthgafljbbkgldaaDoorSFlat
import Derived.StillTailTactics
namespace Go.Proofs.YthgafljbbkgldaaDoor
open Go.RowKit

set_option maxRecDepth 100000 in
set_option maxHeartbeats 4000000 in
theorem topple_any (v u : Value) (h : List (List Int)) (n m N i : Nat) (x y : List Int) (w : World) (hv : IntsV w v y) (hu : SandV w u h n m x) (eN : n * m = N) (hyl : y.length = N) (hy : ∀ j, j < N → 0 ≤ y.getD j 0 ∧ y.getD j 0 ≤ 1000) (hi : i < N) :
    Calls Tryd.prog 81 #[v, u, .int .i64 i] w (FlatPost w (topL n m y i)) := by
  have em : (h.getD 0 []).length = m := hu.shp.len 0 hu.shp.n1
  have hbox := hu.sandy.box
  have hN1 : 1 ≤ N := by rw [← eN]; exact Nat.mul_pos hbox.1.1 hbox.2.1
  have hN16 : N ≤ 16 := by rw [← eN]; exact Nat.mul_le_mul hbox.1.2 hbox.2.2
  have HA : Hid (∀ W, Grew w W → Calls Tryd.prog 68 #[u, .int .i64 i] W (OwnI W (aroundL n m i))) := fun W hW => by
    have := aroundS_any u h i W (hu.rows.grew hW) (by rw [em]; exact hu.shp) (by rw [hu.hn, em, eN]; exact hi)
    rw [hu.hn, em] at this
    exact this
  have HKS : Hid (∀ j, j < (aroundL n m i).length → 0 ≤ (aroundL n m i).getD j 0 ∧ (aroundL n m i).getD j 0 < (N : Int)) := fun j hj => by
    have hm : (aroundL n m i).getD j 0 ∈ aroundL n m i := by
      rw [List.getD_eq_getElem?_getD, List.getElem?_eq_getElem hj]
      exact List.getElem_mem hj
    have := box_around hbox i (by rw [eN]; exact hi) _ hm
    rw [eN] at this
    exact this
  have HYB : Hid (∀ j K, j ≤ (aroundL n m i).length → K < N → -4 ≤ (incL ((aroundL n m i).take j) (y.set i (y.getD i 0 - 4))).getD K 0 ∧ (incL ((aroundL n m i).take j) (y.set i (y.getD i 0 - 4))).getD K 0 ≤ 1004) := fun j K hj hK => by
    have h1 := hy K hK
    have h5 := aroundL_len n m i
    rw [incL_get _ _ _ (by rw [List.length_set, hyl]; exact hK) (fun k hk => (box_around hbox i (by rw [eN]; exact hi) k (List.mem_of_mem_take hk)).1), getD_setI _ _ _ _ (by rw [hyl]; exact hK)]
    have h3 : (((aroundL n m i).take j).count ((K : Nat) : Int)) ≤ 4 := Nat.le_trans List.count_le_length (by rw [List.length_take]; omega)
    split
    · next e => subst e; omega
    · omega
  have hks : (aroundL n m i).length ≤ 4 := aroundL_len n m i
  have HT : Hid (topL n m y i = incL (aroundL n m i) (y.set i (y.getD i 0 - 4))) := Lib.hid rfl
  obtain ⟨ks, eks⟩ : ∃ ks, aroundL n m i = ks := ⟨_, rfl⟩
  rw [eks] at HA HKS HYB hks HT
  have hyi := hy i hi
  obtain ⟨a1, b1, o1, c1, rfl, ⟨hlc1, hcb1⟩, ha1, HC1⟩ := hv.shape
  obtain rfl := ha1 (by omega)
  obtain ⟨a2, b2, o2, c2, rfl, _, _, _⟩ := hu.rows.shape
  have HYL := Lib.hid hyl
  have hi' : (i : Int) < N := by omega
  obtain ⟨R, eR⟩ : ∃ R, topL n m y i = R := ⟨_, rfl⟩
  rw [eR] at HT ⊢
  obtain ⟨yi, eyi⟩ : ∃ yi, y.getD i 0 = yi := ⟨_, rfl⟩
  have HYI := Lib.hid eyi
  rw [eyi] at hyi HYB HT
  have q1 : IntKind.i64.wrap (yi - 4) = yi - 4 := by rw [IntKind.wrap_i64]; omega
  have H0 : Hid (IntsO 3 w.heap.size (w.alloc (.cells #[] 3)).heap.size (w.alloc (.cells #[] 3)) (.slice (some ⟨w.heap.size, 0, none⟩) 0 0) [] ∧ Grew w (w.alloc (.cells #[] 3))) :=
    ⟨by simpa using IntsO.lit 3 w.heap.size w [] #[] rfl (Nat.le_refl _) (by decide), (Grew.refl w).alloc _⟩
  have HCY : Hid (∀ j, j < y.length → (w.alloc (.cells #[] 3)).cell? ⟨b1, o1 + j, none⟩ = some (.int .i64 (y.getD j 0))) := Lib.hid fun j hj => H0.out.2.cell (HC1.out j hj)
  have HLY : Hid (0 < y.length ∧ ([] : List Int).length + y.length ≤ 17592186044416 ∧ w.heap.size ≤ (w.alloc (.cells #[] 3)).heap.size) := Lib.hid ⟨by omega, by simp; omega, by simp⟩
  have HS5 : Hid (∀ g5 c5 w5, IntsO 3 w.heap.size w5.heap.size w5 (.slice (some ⟨g5, 0, none⟩) (([] : List Int).length + y.length) c5) ([] ++ y) → w5.cell? ⟨g5, i, none⟩ = some (.int .i64 yi) ∧ w5.frozen? ⟨g5, i, none⟩ = false) := Lib.hid fun g5 c5 w5 hO => by
    have := hO.at rfl (i := i) (by simp; omega)
    rw [List.nil_append, HYI.out] at this
    exact this
  have hil : (i : Int) < y.length := by omega
  have hiln : i < y.length := by omega
  clear hv hu em hbox eN hy eks eR eyi ha1 HC1 hyl hlc1
  go_enter Tryd.func81, Tryd.ntmps81
  go_wp2_with (at_builtin; refine wpList_append_ints rfl (.tmp 10) (.tmp 11) 27 rfl Tryd.underlying27 Tryd.infoI rfl rfl HCY.out H0.out.1 HLY.out.1 HLY.out.2.1 HLY.out.2.2 ?_; intro g5 c5 w5 hO5 hW5; have hc5 := (HS5.out g5 c5 w5 hO5).1; have hf5 := (HS5.out g5 c5 w5 hO5).2)
  have HM : Hid (IntsO 3 w.heap.size (w5.setCell ⟨g5, i, none⟩ (.int .i64 (yi - 4))).heap.size (w5.setCell ⟨g5, i, none⟩ (.int .i64 (yi - 4))) (.slice (some ⟨g5, 0, none⟩) y.length c5) (y.set i (yi - 4)) ∧ Grew w (w5.setCell ⟨g5, i, none⟩ (.int .i64 (yi - 4)))) := by
    have h1 := hO5.set rfl i (yi - 4)
    have h2 := Within.grew H0.out.2 hW5 (Nat.le_refl _)
    have h3 := hO5.blk
    simp only [List.nil_append, List.length_nil, Nat.zero_add] at h1
    exact ⟨h1.wide (Nat.le_refl _) (one_within _ _ _ _).size, Within.grew h2 (one_within w5 g5 i _) h3.1⟩
  have hg5 : w.heap.size ≤ g5 := hO5.blk.1
  clear hO5 hW5 hc5 hf5
  obtain ⟨W2, eW2⟩ : ∃ W2, w5.setCell ⟨g5, i, none⟩ (.int .i64 (yi - 4)) = W2 := ⟨_, rfl⟩
  rw [eW2] at HM ⊢
  clear eW2
  refine (HA.out W2 HM.out.2).mono ?_
  rintro e w6 ⟨a6, c6, rfl, hO6, hg6⟩
  have hlt6 : g5 < W2.heap.size := HM.out.1.blk.2
  have H6 : Hid (IntsO 3 w.heap.size W2.heap.size w6 (.slice (some ⟨g5, 0, none⟩) y.length c5) (y.set i (yi - 4)) ∧ Grew w w6 ∧ IntsV w6 (.slice a6 ks.length c6) ks ∧ (∀ g o, a6 = some ⟨g, o, none⟩ → 0 < ks.length → g5 < g)) :=
    ⟨HM.out.1.grew hg6, HM.out.2.trans hg6, hO6.toV, fun g o e h0 => by have := hO6.blkOf g o e h0; omega⟩
  have HZ6 := Lib.hid hg6.size
  clear hO6 hg6
  obtain ⟨a6', b6, o6, c6', e6, ⟨hlc6, hcb6⟩, ha6, HC6⟩ := H6.out.2.2.1.shape
  simp only [Value.slice.injEq, true_and] at e6
  obtain ⟨rfl, rfl⟩ := e6
  have HA6 := Lib.hid ha6
  have HB6 : Hid (0 < ks.length → g5 < b6) := Lib.hid fun h0 => H6.out.2.2.2 b6 o6 (ha6 h0) h0
  have hlt6' := Lib.hid hlt6
  clear ha6 hlc6 hlt6
  go_wp2_with (fail)
  go_loopg [9] ks.length (fun gk kv wr => ∃ j : Nat, kv = .int .i64 j ∧ j ≤ ks.length ∧ ks.length ≤ gk + j ∧ Hid (IntsO 3 w.heap.size W2.heap.size wr (.slice (some ⟨g5, 0, none⟩) y.length c5) (incL (ks.take j) (y.set i (yi - 4))) ∧ Within g5 (g5 + 1) w6 wr))
  case atStart => exact ⟨0, rfl, Nat.zero_le _, Nat.le_refl _, H6.out.1, Within.refl _ _ _⟩
  case round =>
    obtain ⟨j, rfl, hj, hgj, HJ⟩ := hrel
    by_cases hlt : j < ks.length
    · obtain rfl := HA6.out (by omega)
      have hck := HJ.out.2.cell (HC6.out j hlt) (by have := HB6.out (by omega); show b6 < g5 ∨ g5 + 1 ≤ b6; omega)
      have hkr := HKS.out j hlt
      have HTF := Lib.hid (top_foldl ks (y.set i (yi - 4)) j hlt)
      obtain ⟨K, eK⟩ : ∃ K, ks.getD j 0 = K := ⟨_, rfl⟩
      rw [eK] at hck hkr HTF
      obtain ⟨Kn, rfl⟩ := Int.eq_ofNat_of_zero_le hkr.1
      have hKN : Kn < y.length := by have := HYL.out; omega
      have hKi : (Kn : Int) < y.length := by omega
      have hyb := HYB.out j Kn hj (by have := HYL.out; omega)
      have hz := HJ.out.1.at rfl (i := Kn) (by rw [incL_len, List.length_set]; exact hKN)
      have hz1 := hz.1
      have hz2 := hz.2
      rw [Int.toNat_natCast] at HTF
      obtain ⟨z, ez⟩ : ∃ z, (incL (ks.take j) (y.set i (yi - 4))).getD Kn 0 = z := ⟨_, rfl⟩
      rw [ez] at hyb hz1 HTF
      have q3 : IntKind.i64.wrap (z + 1) = z + 1 := by rw [IntKind.wrap_i64]; omega
      have hji : (j : Int) < ks.length := by omega
      clear eK ez hz
      go_wp2
      go_still_tail 14, (by kernel_rfl)
      change wpList _ _ _ _ _ wr.drew
      have hz3 : wr.drew.frozen? ⟨g5, Kn, none⟩ = false := hz2
      have hz4 : wr.drew.cell? ⟨g5, Kn, none⟩ = some (.int .i64 z) := hz1
      have HM3 : Hid (IntsO 3 w.heap.size W2.heap.size (wr.drew.setCell ⟨g5, Kn, none⟩ (.int .i64 (z + 1))) (.slice (some ⟨g5, 0, none⟩) y.length c5) (incL (ks.take (j + 1)) (y.set i (yi - 4))) ∧ Within g5 (g5 + 1) w6 (wr.drew.setCell ⟨g5, Kn, none⟩ (.int .i64 (z + 1)))) := by
        rw [HTF.out]
        exact ⟨(HJ.out.1.grew (Grew.refl _).drew).set rfl Kn (z + 1), HJ.out.2.drew.setCell (p := ⟨g5, Kn, none⟩) (Nat.le_refl _) (Nat.lt_succ_self _) _⟩
      obtain ⟨W3, hW3⟩ : ∃ W3, wr.drew = W3 := ⟨_, rfl⟩
      rw [hW3] at hz3 hz4 HM3 ⊢
      clear hW3 hz1 hz2 hck
      go_wp2
      go_roundg (gk - 1)
      case measure => omega
      case rel => exact ⟨j + 1, by go_num, by omega, by omega, HM3.out⟩
    · obtain rfl : j = ks.length := by omega
      have HF : Hid (IntsO 3 w.heap.size wr.heap.size wr (.slice (some ⟨g5, 0, none⟩) y.length c5) R ∧ Grew w wr) := by
        have h1 := HJ.out.1
        rw [List.take_of_length_le (Nat.le_refl _), ← HT.out] at h1
        exact ⟨h1.wide (Nat.le_refl _) (by have := HJ.out.2.size; have := HZ6.out; omega), Within.grew H6.out.2.1 HJ.out.2 hg5⟩
      have hRl : Hid (y.length = R.length) := Lib.hid (by rw [HT.out, incL_len, List.length_set])
      go_wp2
      go_ret
      refine ⟨g5, c5, ?_, ?_, HF.out.2⟩
      · rw [← hRl.out]
        rfl
      · rw [← hRl.out]; exact HF.out.1

/-- Two slices, calm sand and how often each cell toppled. -/
def SettPost (n m : Nat) (x : List Int) (w : World) (e : Ending) (w' : World) : Prop := ∃ g1 c1 g2 c2, e = .returned (.tuple #[.slice (some ⟨g1, 0, none⟩) (n * m) c1, .slice (some ⟨g2, 0, none⟩) (n * m) c2]) ∧ IntsO 3 w.heap.size w'.heap.size w' (.slice (some ⟨g1, 0, none⟩) (n * m) c1) (calmL n m x) ∧ IntsO 3 w.heap.size w'.heap.size w' (.slice (some ⟨g2, 0, none⟩) (n * m) c2) (timesL n m x) ∧ Grew w w'
set_option maxRecDepth 100000 in
set_option maxHeartbeats 8000000 in
theorem settle_any (v : Value) (h : List (List Int)) (n m : Nat) (x : List Int) (L : Bool) (w : World) (hv : SandV w v h n m x) :
    Calls Tryd.prog 52 #[v, .bool L] w (SettPost n m x w) := by
  have em : (h.getD 0 []).length = m := hv.shp.len 0 hv.shp.n1
  have G := hv.shp
  have hbox := hv.sandy.box
  unfold SettPost
  obtain ⟨N, eN⟩ : ∃ N, n * m = N := ⟨_, rfl⟩
  have hN1 : 1 ≤ N := by rw [← eN]; exact Nat.mul_pos hbox.1.1 hbox.2.1
  have hN16 : N ≤ 16 := by rw [← eN]; exact Nat.mul_le_mul hbox.1.2 hbox.2.2
  have hxl := hv.sandy.len
  have HFL : Hid (Calls Tryd.prog 67 #[v] w (FlatPost w x)) := by
    have := sflat_any v h w hv.rows (Nat.le_trans G.n5 (by decide)) (fun r hr => by have := G.len r hr; have := G.m1; have := G.m5; omega)
    rw [hv.flat] at this
    exact this
  have HTP : Hid (∀ (u : Value) (y : List Int) (i : Nat) W, Grew w W → IntsV W u y → y.length = N → (∀ j, j < N → 0 ≤ y.getD j 0 ∧ y.getD j 0 ≤ 1000) → i < N → Calls Tryd.prog 81 #[u, v, .int .i64 i] W (FlatPost W (topL n m y i))) := fun u y i W hW hu hl hb hi =>
    topple_any u v h n m N i x y W hu (hv.grew hW) eN hl hb hi
  have HSY := Lib.hid hv.sandy
  have HPH := Lib.hid hv.sandy.phi
  rw [eN] at hxl ⊢
  have HNM := Lib.hid (And.intro eN (And.intro hbox hxl))
  obtain ⟨a, b, o, c, rfl, _, _, _⟩ := hv.rows.shape
  clear hv G hbox em eN hxl
  go_enter Tryd.func52, Tryd.ntmps52
  go_wp2_with (fail)
  refine HFL.out.mono ?_
  rintro e w1 ⟨g1, c1, rfl, hO1, hg1⟩
  rw [HNM.out.2.2] at hO1 ⊢
  have H1 := Lib.hid (And.intro hO1 hg1)
  have hblk := hO1.blk
  clear hO1 hg1
  go_wp2_with (at_make; refine wpList_make_ints rfl (.tmp 13) (.tmp 13) 27 rfl Tryd.underlying27 Tryd.infoI rfl rfl rfl rfl (by omega) ?_; intro w2 hO2 hg2 hs2)
  have HI0 : Hid (IntsO 3 g1 (g1 + 1) w2 (.slice (some ⟨g1, 0, none⟩) N c1) x ∧ g1 ≠ w1.heap.size ∧ w.heap.size ≤ g1 ∧ IntsO 3 w1.heap.size (w1.heap.size + 1) w2 (.slice (some ⟨w1.heap.size, 0, none⟩) N N) (List.replicate N 0) ∧ Sett n m x (List.replicate N 0) x ∧ Grew w w2 ∧ g1 < w2.heap.size ∧ w1.heap.size < w2.heap.size) :=
    ⟨(H1.out.1.grew hg2).at1, by omega, hblk.1, hO2.at1, by have := Sett.nil (x := x) HSY.out.len (fun j hj => (HSY.out.num j hj).1); rwa [HNM.out.1] at this, H1.out.2.trans hg2, by have := hg2.size; omega, hs2⟩
  have HW1 := Lib.hid H1.out.2.size
  clear hO2 hg2 hs2 hblk
  go_wp2_with (fail)
  go_loopg [6] 960 (fun gk lv wr => ∃ (t y : List Int) (g c : Nat), lv = .slice (some ⟨g, 0, none⟩) N c ∧ Hid (IntsO 3 g (g + 1) wr lv y ∧ g ≠ w1.heap.size ∧ w.heap.size ≤ g ∧ IntsO 3 w1.heap.size (w1.heap.size + 1) wr (.slice (some ⟨w1.heap.size, 0, none⟩) N N) t ∧ Sett n m x t y ∧ Grew w wr ∧ g < wr.heap.size ∧ w1.heap.size < wr.heap.size ∧ phiS n m y ≤ gk))
  case atStart => exact ⟨_, x, g1, c1, rfl, HI0.out.1, HI0.out.2.1, HI0.out.2.2.1, HI0.out.2.2.2.1, HI0.out.2.2.2.2.1, HI0.out.2.2.2.2.2.1, HI0.out.2.2.2.2.2.2.1, HI0.out.2.2.2.2.2.2.2, HPH.out⟩
  case round =>
    obtain ⟨t, y, g, c, rfl, HI⟩ := hrel
    clear HI0
    obtain ⟨gn, rfl⟩ : ∃ gn : Nat, gn = gk := ⟨_, rfl⟩
    have hyl : y.length = N := by rw [HI.out.2.2.2.2.1.ylen]; exact HNM.out.1
    have hle : ∀ j, j < N → (0 ≤ y.getD j 0 ∧ y.getD j 0 ≤ 960) ∧ 0 ≤ t.getD j 0 ∧ t.getD j 0 ≤ 960 := fun j hj => by
      have h1 := HI.out.2.2.2.2.1.le HNM.out.2.1 j (by rw [HNM.out.1]; exact hj)
      have h2 := HPH.out
      omega
    have HYL := Lib.hid (And.intro hyl hle)
    clear hyl hle
    go_wp2_with (fail)
    go_loopg [8, 9] N (fun gk av iv wi => ∃ (z : Int) (i : Nat), av = .int .i64 z ∧ iv = .int .i64 i ∧ i ≤ N ∧ N ≤ gk + i ∧ wr = wi ∧ Hid ((z = -1 ∧ ∀ j, j < i → y.getD j 0 < 4) ∨ ∃ p : Nat, z = p ∧ p < i ∧ 4 ≤ y.getD p 0))
    case atStart => exact ⟨-1, 0, rfl, rfl, Nat.zero_le _, Nat.le_refl _, rfl, .inl ⟨rfl, fun j hj => absurd hj (Nat.not_lt_zero _)⟩⟩
    case round =>
      obtain ⟨z, i, rfl, rfl, hi, hgi, rfl, HZ⟩ := hrel
      have hzb : -1 ≤ z ∧ z ≤ 16 := by
        rcases HZ.out with ⟨e, _⟩ | ⟨p, e, hp, _⟩ <;> omega
      by_cases hlt : i < N
      · have hci := (HI.out.1.at rfl (i := i) (by rw [HYL.out.1]; exact hlt)).1
        have HNX : Hid (¬ 4 ≤ y.getD i 0 → ((z = -1 ∧ ∀ j, j < i + 1 → y.getD j 0 < 4) ∨ ∃ p : Nat, z = p ∧ p < i + 1 ∧ 4 ≤ y.getD p 0)) := Lib.hid fun hn => by
          rcases HZ.out with ⟨e, hall⟩ | ⟨p, e, hp, h4⟩
          · exact .inl ⟨e, fun j hj => by
              by_cases e' : j = i
              · rw [e']; omega
              · exact hall j (by omega)⟩
          · exact .inr ⟨p, e, by omega, h4⟩
        have HNZ : Hid (¬ z < 0 → ((z = -1 ∧ ∀ j, j < i + 1 → y.getD j 0 < 4) ∨ ∃ p : Nat, z = p ∧ p < i + 1 ∧ 4 ≤ y.getD p 0)) := Lib.hid fun hn => by
          rcases HZ.out with ⟨e, hall⟩ | ⟨p, e, hp, h4⟩
          · omega
          · exact .inr ⟨p, e, by omega, h4⟩
        have HYS : Hid (4 ≤ y.getD i 0 → (((i : Int) = -1 ∧ ∀ j, j < i + 1 → y.getD j 0 < 4) ∨ ∃ p : Nat, (i : Int) = p ∧ p < i + 1 ∧ 4 ≤ y.getD p 0)) := Lib.hid fun h4 => .inr ⟨i, rfl, by omega, h4⟩
        obtain ⟨yi, eyi⟩ : ∃ yi, y.getD i 0 = yi := ⟨_, rfl⟩
        rw [eyi] at hci HNX HYS
        have hii : (i : Int) < N := by omega
        clear eyi
        by_cases h4 : 4 ≤ yi
        · by_cases hz : z < 0
          · have HR := Lib.hid (HYS.out h4)
            clear HNX HNZ HYS HZ
            cases L with
            | false =>
              go_wp2
              go_roundg (gk - 1)
              case measure => omega
              case rel => exact ⟨_, i + 1, rfl, by go_num, by omega, by omega, rfl, HR.out⟩
            | true =>
              go_wp2
              go_roundg (gk - 1)
              case measure => omega
              case rel => exact ⟨_, i + 1, rfl, by go_num, by omega, by omega, rfl, HR.out⟩
          · have HR := Lib.hid (HYS.out h4)
            have HR2 := Lib.hid (HNZ.out hz)
            clear HNX HNZ HYS HZ
            cases L with
            | false =>
              go_wp2
              go_roundg (gk - 1)
              case measure => omega
              case rel => exact ⟨_, i + 1, rfl, by go_num, by omega, by omega, rfl, HR2.out⟩
            | true =>
              go_wp2
              go_roundg (gk - 1)
              case measure => omega
              case rel => exact ⟨_, i + 1, rfl, by go_num, by omega, by omega, rfl, HR.out⟩
        · have HR := Lib.hid (HNX.out h4)
          clear HNX HNZ HYS HZ
          go_wp2
          go_roundg (gk - 1)
          case measure => omega
          case rel => exact ⟨_, i + 1, rfl, by go_num, by omega, by omega, rfl, HR.out⟩
      · obtain rfl : i = N := by omega
        rcases HZ.out with ⟨rfl, hall⟩ | ⟨p, rfl, hp, h4⟩
        · have HE := Lib.hid (HSY.out.only HI.out.2.2.2.2.1 (by rw [HNM.out.1]; exact hall))
          have HG := Lib.hid HI.out.2.2.2.2.2
          clear hall HZ
          go_wp2
          go_ret2
          refine ⟨g, c, w1.heap.size, i, rfl, ?_, ?_, HG.out.1⟩
          · have := HI.out.1
            rw [HE.out.1] at this
            exact this.wide HI.out.2.2.1 HG.out.2.1
          · have := HI.out.2.2.2.1
            rw [HE.out.2] at this
            exact this.wide HW1.out HG.out.2.2.1
        · have hcall := fun W hW hu => HTP.out (.slice (some ⟨g, 0, none⟩) i c) y p W hW hu HYL.out.1 (fun j hj => by have := HYL.out.2 j hj; omega) hp
          have HCL := Lib.hid (hcall wr HI.out.2.2.2.2.2.1 HI.out.1.toV)
          have htp := (HYL.out.2 p hp).2
          have HPS := Lib.hid (And.intro hp h4)
          have hpz : ¬ (p : Int) < 0 := by omega
          clear hcall HZ h4
          go_wp2_with (fail)
          refine HCL.out.mono ?_
          rintro e w5 ⟨g5, c5, rfl, hO5, hg5⟩
          have hl5 : (topL n m y p).length = i := by rw [topL_len]; exact HYL.out.1
          rw [hl5] at hO5 ⊢
          have hT5 := HI.out.2.2.2.1.grew hg5 |>.wide (Nat.le_refl _) (Nat.le_refl _)
          have htc := hT5.at rfl (i := p) (by rw [HI.out.2.2.2.2.1.tlen, HNM.out.1]; exact hp)
          have htc1 := htc.1
          have htc2 := htc.2
          have hS5 := HI.out.2.2.2.2.1.snoc HNM.out.2.1 (by rw [HNM.out.1]; exact HPS.out.1) HPS.out.2
          have hph := phiS_snoc HNM.out.2.1 HI.out.2.2.2.2.1.ylen (i := p) (by rw [HNM.out.1]; exact HPS.out.1)
          have hpn := phiS_nonneg hS5.pos
          have hTs := hT5.set rfl p (t.getD p 0 + 1)
          obtain ⟨tp, etp⟩ : ∃ tp, t.getD p 0 = tp := ⟨_, rfl⟩
          rw [etp] at htc1 htp hTs hS5
          have q4 : IntKind.i64.wrap (tp + 1) = tp + 1 := by rw [IntKind.wrap_i64]; omega
          have hb5 := hO5.blk
          have hO5' := hO5.at1
          have hws := one_within w5 w1.heap.size p (.int .i64 (tp + 1))
          have HF : Hid (IntsO 3 g5 (g5 + 1) (w5.setCell ⟨w1.heap.size, p, none⟩ (.int .i64 (tp + 1))) (.slice (some ⟨g5, 0, none⟩) i c5) (topL n m y p) ∧ g5 ≠ w1.heap.size ∧ w.heap.size ≤ g5 ∧ IntsO 3 w1.heap.size (w1.heap.size + 1) (w5.setCell ⟨w1.heap.size, p, none⟩ (.int .i64 (tp + 1))) (.slice (some ⟨w1.heap.size, 0, none⟩) i i) (t.set p (tp + 1)) ∧ Sett n m x (t.set p (tp + 1)) (topL n m y p) ∧ Grew w (w5.setCell ⟨w1.heap.size, p, none⟩ (.int .i64 (tp + 1))) ∧ g5 < (w5.setCell ⟨w1.heap.size, p, none⟩ (.int .i64 (tp + 1))).heap.size ∧ w1.heap.size < (w5.setCell ⟨w1.heap.size, p, none⟩ (.int .i64 (tp + 1))).heap.size ∧ phiS n m (topL n m y p) < phiS n m y ∧ 0 ≤ phiS n m (topL n m y p)) := by
            have h1 := HI.out.2.2.2.2.2.1
            have h2 := HI.out.2.2.2.2.2.2
            have h3 := hws.size
            have h4 := hg5.size
            have h5 := h1.size
            have h6 := HW1.out
            exact Lib.hid ⟨hO5'.within hws (by omega), by omega, by omega, hTs, hS5, Within.grew (h1.trans hg5) hws h6, by omega, by omega, hph, hpn⟩
          have hpi : (p : Int) < i := by omega
          have hpi2 : p < i := HPS.out.1
          have HGN := Lib.hid HI.out.2.2.2.2.2.2.2.2
          clear hO5 hg5 hT5 htc hS5 hph hpn hTs etp hb5 hO5' hws HCL hl5
          go_wp2
          go_roundg (gn - 1)
          case measure => have := HF.out; have := HGN.out; omega
          case rel => exact ⟨_, _, g5, c5, rfl, HF.out.1, HF.out.2.1, HF.out.2.2.1, HF.out.2.2.2.1, HF.out.2.2.2.2.1, HF.out.2.2.2.2.2.1, HF.out.2.2.2.2.2.2.1, HF.out.2.2.2.2.2.2.2.1, by have := HF.out; have := HGN.out; omega⟩
end Go.Proofs.YthgafljbbkgldaaDoor
