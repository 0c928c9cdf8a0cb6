/- The contract of impl.toppled. -/
import Derived.Test.YthgafljbbkgldaaDoorTopM
import Derived.Test.YthgafljbbkgldaaDoorInRows
namespace Go.Proofs.YthgafljbbkgldaaDoor
open Go.RowKit

theorem top_foldl (ks : List Int) (x : List Int) (j : Nat) (hj : j < ks.length) : incL (ks.take (j + 1)) x = (incL (ks.take j) x).set (ks.getD j 0).toNat ((incL (ks.take j) x).getD (ks.getD j 0).toNat 0 + 1) := by
  have e : ks.getD j 0 = ks[j] := by simp [hj]
  rw [List.take_succ_eq_append_getElem hj, e]
  unfold incL
  rw [List.foldl_append]
  rfl
theorem aroundL_len (n m I : Nat) : (aroundL n m I).length ≤ 4 := by
  unfold aroundL
  simp only [List.length_append]
  repeat' split
  all_goals simp
theorem IntsO.blkOf {E lo hi : Nat} {w : World} {a : Option Addr} {n c : Nat} {xs : List Int} (h : IntsO E lo hi w (.slice a n c) xs) : ∀ g o, a = some ⟨g, o, none⟩ → 0 < xs.length → lo ≤ g := fun g o e h0 => by
  obtain ⟨g1, c1, e1, h1, _⟩ := h.pos h0
  subst e
  simp only [Value.slice.injEq, Option.some.injEq, Addr.mk.injEq] at e1
  omega
/-- Two results, calm sand and how often each cell toppled. -/
def TopPost (n m : Nat) (x : List Int) (w : World) (e : Ending) (w' : World) : Prop := ∃ v1 v2, e = .returned (.tuple #[v1, v2]) ∧ RowsO 27 3 w.heap.size w'.heap.size w' v1 (shapeL (calmL n m x) m n) ∧ RowsO 27 3 w.heap.size w'.heap.size w' v2 (shapeL (timesL n m x) m n) ∧ Grew w w'
/-- Rows that are sand of n rows of m with the numbers x. -/
structure SandV (w : World) (v : Value) (h : List (List Int)) (n m : Nat) (x : List Int) : Prop where
  rows : RowsV w v h
  shp : Shp h m
  hn : h.length = n
  flat : h.flatten = x
  sandy : Sandy n m x
theorem SandV.grew {w w' : World} {v : Value} {h : List (List Int)} {n m : Nat} {x : List Int} (s : SandV w v h n m x) (hg : Grew w w') : SandV w' v h n m x := ⟨s.rows.grew hg, s.shp, s.hn, s.flat, s.sandy⟩

set_option maxRecDepth 100000 in
set_option maxHeartbeats 8000000 in
theorem toppled_any (v ov : Value) (h : List (List Int)) (n m : Nat) (x : List Int) (w : World) (hv : SandV w v h n m x) (hS : Steps w) (ho : Picks ov) :
    Calls Tryd.prog 49 #[v, ov] w (TopPost n m x w) := by
  have em : (h.getD 0 []).length = m := hv.shp.len 0 hv.shp.n1
  have G := hv.shp
  have hbox := hv.sandy.box
  have hl := hv.sandy.len
  obtain ⟨N, eN⟩ : ∃ N, n * m = N := ⟨_, rfl⟩
  have hN1 : 1 ≤ N := by rw [← eN]; exact Nat.mul_pos hbox.1.1 hbox.2.1
  have hN16 : N ≤ 16 := by rw [← eN]; exact Nat.mul_le_mul hbox.1.2 hbox.2.2
  rw [eN] at hl
  have HSY := Lib.hid hv.sandy
  have HNM := Lib.hid (And.intro eN (And.intro hbox hl))
  have HK : Hid (Calls Tryd.prog 56 #[v] w (FlatPost w x)) := by
    have := slicesConcat_any v h w hv.rows G.n1 (Nat.le_trans G.n5 (by decide)) (fun r hr => by have := G.len r hr; have := G.m1; have := G.m5; omega)
    rw [hv.flat] at this
    exact this
  have HCB : Hid (∀ (I : Nat) W, Grew w W → I < N → Calls Tryd.prog 62 #[v, .int .i64 I] W (OwnI W (aroundL n m I))) := fun I W hW hI => by
    have := cellsBesideS_any v h I W (hv.rows.grew hW) (by rw [em]; exact G) (by rw [hv.hn, em, eN]; exact hI) (hS.grew hW)
    rw [hv.hn, em] at this
    exact this
  have HWH : Hid (∀ (B g c : Nat) (y : List Int) W, Grew w W → W.cell? ⟨B, 0, none⟩ = some (.slice (some ⟨g, 0, none⟩) N c) → (∀ I, I < N → W.cell? ⟨g, I, none⟩ = some (.int .i64 (y.getD I 0))) →
      Calls Tryd.prog 64 #[v, .func (.func 79) #[] #[.pointer (some ⟨B, 0, none⟩)]] W (fun e w' => ∃ a c, e = .returned (.slice a (whereL N (hotB y)).length c) ∧ IntsO 3 W.heap.size w'.heap.size w' (.slice a (whereL N (hotB y)).length c) (whereL N (hotB y)) ∧ Grew W w')) := fun B g c y W hW hB hy =>
    cellsWhereS_any v h N (hotB y) 79 #[.pointer (some ⟨B, 0, none⟩)] (enters_of Tryd.func79 (by kernel_rfl) rfl) W (hv.rows.grew hW) (by rw [em]; exact G) (by rw [hv.hn, em, eN]) fun I W' hW' hI =>
      hotClo_any B g c N I y W' (hW'.cell hB) hI (hW'.cell (hy I hI))
  have HPK := Lib.hid ho
  have HRV := Lib.hid hv.rows
  have hh1 : 1 ≤ h.length := G.n1
  obtain ⟨a, b, o, c, rfl, ⟨hlc, hcb⟩, ha, HC⟩ := hv.rows.shape
  obtain rfl := ha hh1
  obtain ⟨u0, hc0, hu0⟩ := HC.out 0 hh1
  rw [Nat.add_zero] at hc0
  obtain ⟨a0, b0, o0, c0, rfl, _, _, _⟩ := hu0.shape
  rw [em] at hc0
  have HC0 := Lib.hid hc0
  have hi0 : (0 : Int) < h.length := by omega
  have hmf : ∀ (fn : Fn) (first cap : Array Value) (w : World), (Instr.makeFunc fn first cap).run Tryd.prog w = .ok (.func fn first cap) w := fun _ _ _ _ => rfl
  have HPH : Hid (phiS n m x ≤ 960) := Lib.hid hv.sandy.phi
  clear hv hS ho G em hbox ha HC hu0 hc0 hl eN hlc
  go_enter Tryd.func49, Tryd.ntmps49
  go_wp2_with (fail)
  refine HK.out.mono ?_
  rintro e w1 ⟨gN, cN, rfl, hO1, hg1⟩
  have hxl : x.length = N := HNM.out.2.2
  rw [hxl] at hO1 ⊢
  have H1 := Lib.hid (And.intro hO1 hg1)
  clear hO1 hg1 hxl
  have H1a : Hid (w.heap.size ≤ gN ∧ gN < w1.heap.size) := Lib.hid (H1.out.1.blk)
  go_wp2_with (at_make; refine wpList_make_ints rfl (.tmp 17) (.tmp 17) 27 rfl Tryd.underlying27 Tryd.infoI rfl rfl rfl rfl (by omega) ?_; intro w2 hO2 hg2 hs2)
  have hbl1 := H1a.out
  have hM0 : TopMem w w2 w1.heap.size gN cN (w1.heap.size + 1) N N (List.replicate N 0) x := by
    have hO2' := hO2
    have hga : Grew w1 w2 := ((Grew.refl w1).alloc _).trans hg2
    refine ⟨hg2.cell (by simp), (H1.out.1.grew hga).at1, ?_, HNM.out.2.2, by simp, ⟨by omega, by omega, by omega⟩, ⟨hbl1.1, by have := H1.out.2.size; omega, H1.out.2.size⟩, ⟨by have := hga.size; omega, by simpa using hs2⟩, H1.out.2.trans hga⟩
    have := hO2'.at1
    simpa using this
  have HM0 := Lib.hid hM0
  clear hO2 hg2 hs2 hM0 hbl1
  refine (HWH.out _ _ _ x _ HM0.out.grew HM0.out.box (fun I hI => (HM0.out.atN hI).1)).mono ?_
  rintro e w3 ⟨a3, c3, rfl, hO3, hg3⟩
  have HI0 : Hid (TopMem w w3 w1.heap.size gN cN (w1.heap.size + 1) N N (List.replicate N 0) x ∧ Sett n m x (List.replicate N 0) x ∧ IntsV w3 (.slice a3 (whereL N (hotB x)).length c3) (whereL N (hotB x))) :=
    ⟨HM0.out.later hg3, by have := Sett.nil (x := x) HSY.out.len (fun j hj => (HSY.out.num j hj).1); rwa [HNM.out.1] at this, hO3.toV⟩
  obtain ⟨L3, hL3⟩ : ∃ L, (whereL N (hotB x)).length = L := ⟨_, rfl⟩
  rw [hL3] at HI0 ⊢
  have HL3 := Lib.hid hL3.symm
  clear hO3 hg3 HM0 hL3
  go_wp2_with (fail)
  go_loopg [9] 960 (fun gk cv wr => ∃ (L : Nat) (t y : List Int) (sa : Option Addr) (sc : Nat), cv = .slice sa L sc ∧ Hid (L = (whereL N (hotB y)).length ∧ TopMem w wr w1.heap.size gN cN (w1.heap.size + 1) N N t y ∧ Sett n m x t y ∧ IntsV wr cv (whereL N (hotB y)) ∧ phiS n m y ≤ gk))
  case atStart => exact ⟨L3, _, x, a3, c3, rfl, HL3.out, HI0.out.1, HI0.out.2.1, HI0.out.2.2, HPH.out⟩
  case round =>
    obtain ⟨L, t, y, sa, sc, rfl, HI⟩ := hrel
    clear HI0 HL3
    by_cases hL : 0 < L
    · have HPC := Lib.hid (HPK.out (.slice sa L sc) _ wr HI.out.2.2.2.1 (by rw [← HI.out.1]; exact hL))
      have hL' : (0 : Int) < L := by omega
      go_wp2_with (fail)
      refine HPC.out.mono ?_
      rintro e wx ⟨k, hk, rfl, rfl⟩
      obtain ⟨i, ei, hi, h4⟩ := hot_mem hk
      rw [ei]
      have hle := HI.out.2.2.1.le HNM.out.2.1 i (by rw [HNM.out.1]; exact hi)
      have hcC := (HI.out.2.1.atC hi).1
      have hfC := (HI.out.2.1.atC hi).2
      have HY4 := Lib.hid h4
      have HPX := HPH.out
      obtain ⟨ti, eti⟩ : ∃ ti, t.getD i 0 = ti := ⟨_, rfl⟩
      obtain ⟨yi, eyi⟩ : ∃ yi, y.getD i 0 = yi := ⟨_, rfl⟩
      rw [eti] at hcC hle
      rw [eyi] at hle h4
      have bt : 0 ≤ ti ∧ ti ≤ 960 := ⟨hle.2.1, by omega⟩
      have bY : 4 ≤ yi ∧ yi ≤ 960 := ⟨h4, by omega⟩
      have hM1 := HI.out.2.1.setC i (ti + 1)
      have hb1 := hM1.box
      have hn1 := (hM1.atN hi).1
      have hf1 := (hM1.atN hi).2
      rw [eyi] at hn1
      have HM2 := Lib.hid (hM1.setN i (yi - 4))
      have HTY := Lib.hid (And.intro eti eyi)
      have hi' : (i : Int) < N := by omega
      have q1 : IntKind.i64.wrap (ti + 1) = ti + 1 := by rw [IntKind.wrap_i64]; omega
      have q2 : IntKind.i64.wrap (yi - 4) = yi - 4 := by rw [IntKind.wrap_i64]; omega
      clear hk ei hle h4 HPX eti eyi HPC hM1
      go_wp2_with (fail)
      refine (HCB.out i _ HM2.out.grew hi).mono ?_
      rintro e w5 ⟨a5, c5, rfl, hO5, hg5⟩
      have hne : ∀ (a5 : Option Addr) (c5 : Nat), True := fun _ _ => trivial
      obtain ⟨W2, eW2⟩ : ∃ W2, (wr.setCell ⟨w1.heap.size + 1, i, none⟩ (.int .i64 (ti + 1))).setCell ⟨gN, i, none⟩ (.int .i64 (yi - 4)) = W2 := ⟨_, rfl⟩
      rw [eW2] at HM2 hO5 hg5
      have hks : (aroundL n m i).length ≤ 4 := aroundL_len n m i
      have HKS : Hid (∀ j, j < (aroundL n m i).length → 0 ≤ (aroundL n m i).getD j 0 ∧ (aroundL n m i).getD j 0 < (N : Int)) := fun j hj => by
        have hm : (aroundL n m i).getD j 0 ∈ aroundL n m i := by
          rw [List.getD_eq_getElem?_getD, List.getElem?_eq_getElem hj]
          exact List.getElem_mem hj
        have := box_around HNM.out.2.1 i (by rw [HNM.out.1]; exact hi) _ hm
        rw [HNM.out.1] at this
        exact this
      have HYB : Hid (∀ j K, j ≤ (aroundL n m i).length → K < N → 0 ≤ (incL ((aroundL n m i).take j) (y.set i (yi - 4))).getD K 0 ∧ (incL ((aroundL n m i).take j) (y.set i (yi - 4))).getD K 0 ≤ 1000) := fun j K hj hK => by
        have hyl := HI.out.2.1.ylen
        have h1 := HI.out.2.2.1.le HNM.out.2.1 K (by rw [HNM.out.1]; exact hK)
        have h2 := HPH.out
        rw [incL_get _ _ _ (by rw [List.length_set, hyl]; exact hK) (fun k hk => (box_around HNM.out.2.1 i (by rw [HNM.out.1]; exact hi) k (List.mem_of_mem_take hk)).1), getD_setI _ _ _ _ (by rw [hyl]; exact hK)]
        have h3 : (((aroundL n m i).take j).count ((K : Nat) : Int)) ≤ 4 := Nat.le_trans List.count_le_length (by rw [List.length_take]; omega)
        split <;> omega
      obtain ⟨ks, eks⟩ : ∃ ks, aroundL n m i = ks := ⟨_, rfl⟩
      have HEK := Lib.hid eks
      rw [eks] at hO5 hks HKS HYB ⊢
      have HW5 : Hid (TopMem w w5 w1.heap.size gN cN (w1.heap.size + 1) N N (t.set i (ti + 1)) (incL (ks.take 0) (y.set i (yi - 4)))) := HM2.out.later hg5
      have HK5 := Lib.hid (And.intro hO5.toV HM2.out.lt)
      have H25 := Lib.hid (And.intro (hO5.blkOf) hg5.size)
      clear hO5 hg5 eks hcC hfC hb1 hn1 hf1 hne eW2
      obtain ⟨a5', b5, o5, c5', e5, ⟨hlc5, hcb5⟩, ha5, HC5⟩ := HK5.out.1.shape
      simp only [Value.slice.injEq, true_and] at e5
      obtain ⟨rfl, rfl⟩ := e5
      have HA5 := Lib.hid ha5
      have HB5 : Hid (0 < ks.length → gN < b5) := Lib.hid fun h0 => by
        have := H25.out.1 b5 o5 (ha5 h0) h0
        have := HK5.out.2
        omega
      obtain ⟨gn, rfl⟩ : ∃ gn : Nat, gn = gk := ⟨_, rfl⟩
      obtain ⟨wo, rfl⟩ : ∃ wo : World, wo = wr := ⟨_, rfl⟩
      clear ha5 hlc5
      go_wp2_with (fail)
      go_loopg [48] ks.length (fun gk kv wi => ∃ j : Nat, kv = .int .i64 j ∧ j ≤ ks.length ∧ ks.length ≤ gk + j ∧ Hid (TopMem w wi w1.heap.size gN cN (w1.heap.size + 1) N N (t.set i (ti + 1)) (incL (ks.take j) (y.set i (yi - 4))) ∧ Within gN (gN + 1) w5 wi))
      case atStart => exact ⟨0, rfl, Nat.zero_le _, Nat.le_refl _, HW5.out, Within.refl _ _ _⟩
      case round =>
        obtain ⟨j, rfl, hj, hgj, HJ⟩ := hrel
        clear HW5
        by_cases hlt : j < ks.length
        · obtain rfl := HA5.out (by omega)
          have hck := HJ.out.2.cell (HC5.out j hlt) (by have := HB5.out (by omega); show b5 < gN ∨ gN + 1 ≤ b5; omega)
          have hkr := HKS.out j hlt
          have HT := Lib.hid (top_foldl ks (y.set i (yi - 4)) j hlt)
          obtain ⟨K, eK⟩ : ∃ K, ks.getD j 0 = K := ⟨_, rfl⟩
          rw [eK] at hck hkr HT
          obtain ⟨Kn, rfl⟩ := Int.eq_ofNat_of_zero_le hkr.1
          have hKN : Kn < N := by omega
          have hKi : (Kn : Int) < N := by omega
          have hyb := HYB.out j Kn hj hKN
          have hbx := HJ.out.1.box
          have hz := (HJ.out.1.atN hKN).1
          have hzf := (HJ.out.1.atN hKN).2
          rw [Int.toNat_natCast] at HT
          obtain ⟨z, ez⟩ : ∃ z, (incL (ks.take j) (y.set i (yi - 4))).getD Kn 0 = z := ⟨_, rfl⟩
          rw [ez] at hyb hz HT
          have q3 : IntKind.i64.wrap (z + 1) = z + 1 := by rw [IntKind.wrap_i64]; omega
          have HM3 := Lib.hid (HJ.out.1.setN Kn (z + 1))
          rw [← HT.out] at HM3
          have HW3 := Lib.hid (HJ.out.2.setCell (p := ⟨gN, Kn, none⟩) (Nat.le_refl _) (Nat.lt_succ_self _) (.int .i64 (z + 1)))
          have hji : (j : Int) < ks.length := by omega
          clear eK ez
          go_wp2
          go_roundg (gk - 1)
          case measure => omega
          case rel => exact ⟨j + 1, by go_num, by omega, by omega, HM3.out, HW3.out⟩
        · obtain rfl : j = ks.length := by omega
          have HMZ : Hid (TopMem w wr w1.heap.size gN cN (w1.heap.size + 1) N N (t.set i (ti + 1)) (topL n m y i)) := Lib.hid (by
            have := HJ.out.1
            rw [List.take_of_length_le (Nat.le_refl _)] at this
            rw [topL, HEK.out, HTY.out.2]
            exact this)
          go_wp2_with (fail)
          refine (HWH.out _ _ _ (topL n m y i) _ HMZ.out.grew HMZ.out.box (fun I hI => (HMZ.out.atN hI).1)).mono ?_
          rintro e w7 ⟨a7, c7, rfl, hO7, hg7⟩
          have hy7 := HI.out.2.2.2.2
          have HS7 : Hid (TopMem w w7 w1.heap.size gN cN (w1.heap.size + 1) N N (t.set i (ti + 1)) (topL n m y i) ∧ Sett n m x (t.set i (ti + 1)) (topL n m y i) ∧ IntsV w7 (.slice a7 (whereL N (hotB (topL n m y i))).length c7) (whereL N (hotB (topL n m y i))) ∧ phiS n m (topL n m y i) < phiS n m y) :=
            ⟨HMZ.out.later hg7, by rw [← HTY.out.1]; exact HI.out.2.2.1.snoc HNM.out.2.1 (by rw [HNM.out.1]; exact hi) HY4.out, hO7.toV, phiS_snoc HNM.out.2.1 HI.out.2.2.1.ylen (by rw [HNM.out.1]; exact hi)⟩
          have HP7 := Lib.hid (phiS_nonneg HS7.out.2.1.pos)
          obtain ⟨L7, hL7⟩ : ∃ L, (whereL N (hotB (topL n m y i))).length = L := ⟨_, rfl⟩
          rw [hL7] at HS7 ⊢
          have HL7 := Lib.hid hL7.symm
          clear hO7 hg7 hL7
          go_wp2
          go_roundg (gn - 1)
          case measure => have := HS7.out.2.2.2; have := HP7.out; omega
          case rel => exact ⟨L7, _, topL n m y i, a7, c7, rfl, HL7.out, HS7.out.1, HS7.out.2.1, HS7.out.2.2.1, by have := HS7.out.2.2.2; have := HP7.out; omega⟩
    · have hL0 : L = 0 := by omega
      have hcalm := hot_none (y := y) (N := N) (by rw [← HI.out.1]; exact hL0)
      have HE := Lib.hid (HSY.out.only HI.out.2.2.1 (by rw [HNM.out.1]; exact hcalm))
      have hn4 := HNM.out.2.1
      have HR1 := Lib.hid (inRows_own HI.out.2.1.num (by have := hn4.1.2; omega) hn4.2.1 (by have := hn4.2.2; omega) HNM.out.1)
      have HR2 := Lib.hid fun W (hW : Grew wr W) => inRows_own (HI.out.2.1.later hW).cnt (by have := hn4.1.2; omega) hn4.2.1 (by have := hn4.2.2; omega) HNM.out.1
      rw [HE.out.1] at HR1
      rw [HE.out.2] at HR2
      have hbx := HI.out.2.1.box
      have hc00 := HI.out.2.1.grew.cell HC0.out
      have hL' : ¬ (0 : Int) < L := by omega
      have HG := Lib.hid HI.out.2.1.grew
      clear hcalm hn4 hL0
      go_wp2_with (fail)
      refine HR1.out.mono ?_
      rintro e w6 ⟨v6, rfl, hO6, hg6⟩
      have H6 := Lib.hid (And.intro hO6 hg6)
      clear hO6 hg6
      go_wp2_with (fail)
      refine (HR2.out _ H6.out.2).mono ?_
      rintro e w7 ⟨v7, rfl, hO7, hg7⟩
      have H7 := Lib.hid (And.intro hO7 hg7)
      have HF : Hid (RowsO 27 3 w.heap.size w7.heap.size w7 v6 (shapeL (calmL n m x) m n) ∧ RowsO 27 3 w.heap.size w7.heap.size w7 v7 (shapeL (timesL n m x) m n) ∧ Grew w w7) :=
        ⟨(H6.out.1.grew hg7).wide HG.out.size hg7.size, hO7.wide (HG.out.trans H6.out.2).size (Nat.le_refl _), HG.out.trans (H6.out.2.trans hg7)⟩
      clear hO7 hg7
      obtain ⟨a6, c6, rfl⟩ := HF.out.1.sh
      obtain ⟨a7, c7, rfl⟩ := HF.out.2.1.sh
      go_wp2
      go_ret2
      exact ⟨_, _, rfl, HF.out⟩
end Go.Proofs.YthgafljbbkgldaaDoor
