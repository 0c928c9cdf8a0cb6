/- The contract of impl.AddSand. -/
import Derived.Test.YthgafljbbkgldaaDoorSandI
namespace Go.Proofs.YthgafljbbkgldaaDoor
open Go.RowKit

/-- Two sands that can be added. -/
def addOk (a b : List (List Int)) : Bool := vSand a && vSand b && decide (a.length = b.length) && decide ((a.getD 0 []).length = (b.getD 0 []).length)
def addX (a b : List (List Int)) : List (List Int) := if addOk a b = true then shapeL (calmL a.length (a.getD 0 []).length (plusL a.flatten b.flatten)) (a.getD 0 []).length a.length else []
theorem plus_sandy {a b : List (List Int)} (h : addOk a b = true) : Sandy a.length (a.getD 0 []).length (plusL a.flatten b.flatten) ∧ a.flatten.length = a.length * (a.getD 0 []).length ∧ b.flatten.length = a.length * (a.getD 0 []).length ∧ (∀ j, j < a.length * (a.getD 0 []).length → (0 ≤ a.flatten.getD j 0 ∧ a.flatten.getD j 0 ≤ 9) ∧ 0 ≤ b.flatten.getD j 0 ∧ b.flatten.getD j 0 ≤ 9) := by
  unfold addOk at h
  simp only [Bool.and_eq_true, decide_eq_true_eq] at h
  obtain ⟨⟨⟨ha, hb⟩, hl⟩, hm⟩ := h
  obtain ⟨_, sa, na, _⟩ := sand_of ha
  obtain ⟨_, sb, nb, _⟩ := sand_of hb
  rw [← hl, ← hm] at sb nb
  refine ⟨⟨sa.box, plusL_len sa.len sb.len, fun j hj => ?_⟩, sa.len, sb.len, fun j hj => ⟨na j hj, nb j hj⟩⟩
  rw [plusL_get sa.len sb.len j hj]
  have := na j hj
  have := nb j hj
  omega
/-- The first k sums. -/
def plusK (x y : List Int) (k : Nat) : List Int := (plusL x y).take k ++ x.drop k
theorem plusK_len {N : Nat} {x y : List Int} (hx : x.length = N) (hy : y.length = N) (k : Nat) (hk : k ≤ N) : (plusK x y k).length = N := by
  have := plusL_len hx hy
  simp [plusK, hx, this]
  omega
theorem plusK_succ {N : Nat} {x y : List Int} (hx : x.length = N) (hy : y.length = N) (k : Nat) (hk : k < N) : plusK x y (k + 1) = (plusK x y k).set k (x.getD k 0 + y.getD k 0) := by
  have hp := plusL_len hx hy
  apply List.ext_getElem
  · rw [plusK_len hx hy _ (by omega), List.length_set, plusK_len hx hy _ (by omega)]
  · intro i h1 h2
    rw [List.getElem_set]
    have h3 : i < N := by rwa [plusK_len hx hy _ (by omega)] at h1
    by_cases e : k = i
    · subst e
      rw [if_pos rfl]
      have := plusL_get hx hy k hk
      simp only [plusK]
      rw [List.getElem_append_left (by simp; omega), List.getElem_take]
      rw [← this]
      simp [hp, hk]
    · rw [if_neg e]
      simp only [plusK]
      by_cases hlt : i < k
      · rw [List.getElem_append_left (by simp; omega), List.getElem_append_left (by simp; omega), List.getElem_take, List.getElem_take]
      · rw [List.getElem_append_right (by simp; omega), List.getElem_append_right (by simp; omega), List.getElem_drop, List.getElem_drop]
        congr 1
        simp only [List.length_take, hp]
        omega
theorem plusK_at {N : Nat} {x y : List Int} (hx : x.length = N) (hy : y.length = N) (k : Nat) (hk : k < N) : (plusK x y k).getD k 0 = x.getD k 0 := by
  have hp := plusL_len hx hy
  simp only [plusK, List.getD_eq_getElem?_getD]
  rw [List.getElem?_append_right (by simp; omega), List.getElem?_drop]
  congr 2
  simp only [List.length_take, hp]
  omega
theorem plusK_all {N : Nat} {x y : List Int} (hx : x.length = N) (hy : y.length = N) : plusK x y N = plusL x y := by
  have hp := plusL_len hx hy
  unfold plusK
  rw [List.take_of_length_le (by omega), List.drop_of_length_le (by omega), List.append_nil]

set_option maxRecDepth 100000 in
set_option maxHeartbeats 4000000 in
theorem AddSand_any (va vb : Value) (a b : List (List Int)) (w : World) (hva : RowsV w va a) (hvb : RowsV w vb b) (hS : Steps w) :
    Calls Tryd.prog 31 #[va, vb] w (NewRows w (addX a b)) := by
  have HVA : Hid (∀ q, Calls Tryd.prog 48 #[va] (w.drewN q) fun e w' => e = .returned (.bool (vSand a)) ∧ ∃ k, w' = (w.drewN q).drewN k) := fun q => (ValidSand_any va a _ (hva.grew ((Grew.refl _).drewN q))).mono fun e w' ⟨h1, h2⟩ => ⟨h1, 0, h2.symm⟩
  have HVB : Hid (∀ q, Calls Tryd.prog 48 #[vb] (w.drewN q) fun e w' => e = .returned (.bool (vSand b)) ∧ ∃ k, w' = (w.drewN q).drewN k) := fun q => (ValidSand_any vb b _ (hvb.grew ((Grew.refl _).drewN q))).mono fun e w' ⟨h1, h2⟩ => ⟨h1, 0, h2.symm⟩
  have HRA := Lib.hid hva
  have HRB := Lib.hid hvb
  have HS := Lib.hid hS
  obtain ⟨a1, b1, o1, c1, ea, ⟨hlc1, hcb1⟩, ha1, HC1⟩ := hva.shape
  obtain ⟨a2, b2, o2, c2, eb, ⟨hlc2, hcb2⟩, ha2, HC2⟩ := hvb.shape
  clear hva hvb hS
  cases hsa : vSand a with
  | false =>
    rw [hsa] at HVA
    have HE : Hid (addX a b = []) := Lib.hid (by rw [addX, if_neg (by simp [addOk, hsa])])
    clear hsa HC1 HC2 ha1 ha2
    subst ea eb
    go_enter Tryd.func31, Tryd.ntmps31
    go_wp2
    go_quiet ((go_at_call 48; with_reducible exact Calls.quiet_of (HVA.out _)))
    go_wp2
    go_ret
    rw [HE.out]
    exact ⟨_, rfl, RowsO.nil _ _ _ _ _, (Grew.refl _).drewN _⟩
  | true =>
    rw [hsa] at HVA
    obtain ⟨Ga, sda, na, _⟩ := sand_of hsa
    obtain rfl := ha1 Ga.n1
    cases hsb : vSand b with
    | false =>
      rw [hsb] at HVB
      have HE : Hid (addX a b = []) := Lib.hid (by rw [addX, if_neg (by simp [addOk, hsa, hsb])])
      clear hsa hsb HC1 HC2 ha1 ha2 Ga sda na
      subst ea eb
      go_enter Tryd.func31, Tryd.ntmps31
      go_wp2
      go_quiet ((go_at_call 48; first | with_reducible exact Calls.quiet_of (HVA.out _) | with_reducible exact Calls.quiet_of (HVB.out _)))
      go_wp2
      go_ret
      rw [HE.out]
      exact ⟨_, rfl, RowsO.nil _ _ _ _ _, (Grew.refl _).drewN _⟩
    | true =>
      rw [hsb] at HVB
      obtain ⟨Gb, sdb, nb, _⟩ := sand_of hsb
      obtain rfl := ha2 Gb.n1
      obtain ⟨u1, hu1, hr1⟩ := HC1.out 0 Ga.n1
      obtain ⟨u2, hu2, hr2⟩ := HC2.out 0 Gb.n1
      rw [Nat.add_zero] at hu1 hu2
      obtain ⟨d1, e1, f1, g1, rfl, _, _, _⟩ := hr1.shape
      obtain ⟨d2, e2, f2, g2, rfl, _, _, _⟩ := hr2.shape
      obtain ⟨ma, ema⟩ : ∃ k, (a.getD 0 []).length = k := ⟨_, rfl⟩
      obtain ⟨mb, emb⟩ : ∃ k, (b.getD 0 []).length = k := ⟨_, rfl⟩
      have hna := Ga.n1
      have hnb := Gb.n1
      rw [ema] at hu1
      rw [emb] at hu2
      by_cases hl : a.length = b.length
      · have hlb : ((a.length : Int) != (b.length : Int)) = false := by simp [hl]
        by_cases hm : ma = mb
        · have hmb : ((ma : Int) != (mb : Int)) = false := by simp [hm]
          have hok : addOk a b = true := by simp only [addOk, hsa, hsb, hl, ema, emb, hm, decide_true, Bool.and_self]
          obtain ⟨hsd, hla, hlb2, hnn⟩ := plus_sandy hok
          have hE : shapeL (calmL a.length (a.getD 0 []).length (plusL a.flatten b.flatten)) (a.getD 0 []).length a.length = addX a b := by rw [addX, if_pos hok]
          have hn4 := hsd.box
          rw [ema] at hsd hla hlb2 hnn hE hn4
          have HN4 := Lib.hid hn4
          have HE := Lib.hid hE
          obtain ⟨N, eN⟩ : ∃ N, a.length * ma = N := ⟨_, rfl⟩
          have hN16 : N ≤ 16 := by rw [← eN]; exact Nat.mul_le_mul hn4.1.2 hn4.2.2
          rw [eN] at hla hlb2 hnn
          have HKA : Hid (∀ W, Grew w W → Calls Tryd.prog 56 #[va] W (FlatPost W a.flatten)) := fun W hW => slicesConcat_any va a W (HRA.out.grew hW) Ga.n1 (Nat.le_trans Ga.n5 (by decide)) (fun r hr => by have := Ga.len r hr; have := Ga.m1; have := Ga.m5; omega)
          have HKB : Hid (∀ W, Grew w W → Calls Tryd.prog 56 #[vb] W (FlatPost W b.flatten)) := fun W hW => slicesConcat_any vb b W (HRB.out.grew hW) Gb.n1 (Nat.le_trans Gb.n5 (by decide)) (fun r hr => by have := Gb.len r hr; have := Gb.m1; have := Gb.m5; omega)
          obtain ⟨x, ex⟩ : ∃ x, a.flatten = x := ⟨_, rfl⟩
          obtain ⟨y, ey⟩ : ∃ y, b.flatten = y := ⟨_, rfl⟩
          rw [ex] at HKA hla hsd hnn HE
          rw [ey] at HKB hlb2 hsd hnn HE
          have HSD := Lib.hid (And.intro hsd (And.intro eN (And.intro hla hlb2)))
          have HNN := Lib.hid hnn
          have HC10 := Lib.hid hu1
          have hi0 : (0 : Int) < a.length := by omega
          have hj0 : (0 : Int) < b.length := by omega
          clear hsa hsb HC1 HC2 ha1 ha2 Ga Gb sda sdb na nb hr1 hr2 ema emb hok hsd hla hlb2 hnn hE hn4 eN ex ey hl hm hlc1 hlc2
          subst ea eb
          go_enter Tryd.func31, Tryd.ntmps31
          go_wp2
          go_quiet ((go_at_call 48; first | with_reducible exact Calls.quiet_of (HVA.out _) | with_reducible exact Calls.quiet_of (HVB.out _)))
          go_wp2_with (fail)
          refine (HKA.out _ ((Grew.refl _).drewN _)).mono ?_
          rintro e w1 ⟨gA, cA, rfl, hO1, hg1⟩
          rw [HSD.out.2.2.1] at hO1 ⊢
          have H1 : Hid (IntsO 3 w.heap.size w1.heap.size w1 (.slice (some ⟨gA, 0, none⟩) N cA) x ∧ Grew w w1) := Lib.hid ⟨hO1, ((Grew.refl _).drewN _).trans hg1⟩
          clear hO1 hg1 hlb hmb hu1 hu2
          go_wp2_with (fail)
          refine (HKB.out _ H1.out.2).mono ?_
          rintro e w2 ⟨gB, cB, rfl, hO2, hg2⟩
          rw [HSD.out.2.2.2] at hO2 ⊢
          have H2 := Lib.hid (And.intro (H1.out.1.grew hg2) (And.intro hO2 (And.intro (H1.out.2.trans hg2) (And.intro hO2.blk H1.out.1.blk))))
          clear hO2 hg2
          go_wp2_with (fail)
          go_loopg [41] N (fun gk kv wr => ∃ j : Nat, kv = .int .i64 j ∧ j ≤ N ∧ N ≤ gk + j ∧ Hid (IntsO 3 w.heap.size w1.heap.size wr (.slice (some ⟨gA, 0, none⟩) N cA) (plusK x y j) ∧ Within gA (gA + 1) w2 wr))
          case atStart => exact ⟨0, rfl, Nat.zero_le _, Nat.le_refl _, H2.out.1, Within.refl _ _ _⟩
          case round =>
            obtain ⟨j, rfl, hj, hgj, HI⟩ := hrel
            by_cases hlt : j < N
            · have hxa := (HI.out.1.at rfl (i := j) (by rw [plusK_len HSD.out.2.2.1 HSD.out.2.2.2 j hj]; exact hlt))
              have hxa1 := hxa.1
              have hxa2 := hxa.2
              rw [plusK_at HSD.out.2.2.1 HSD.out.2.2.2 j hlt] at hxa1
              have hyb := HI.out.2.cell (H2.out.2.1.at rfl (i := j) (by rw [HSD.out.2.2.2]; exact hlt)).1 (by have := H2.out.2.2.2; show gB < gA ∨ gA + 1 ≤ gB; omega)
              have hn9 := HNN.out j hlt
              have HO := HI.out.1.set rfl j (x.getD j 0 + y.getD j 0)
              rw [← plusK_succ HSD.out.2.2.1 HSD.out.2.2.2 j hlt] at HO
              have HO2 := Lib.hid (And.intro HO (HI.out.2.setCell (p := ⟨gA, j, none⟩) (Nat.le_refl _) (Nat.lt_succ_self _) (.int .i64 (x.getD j 0 + y.getD j 0))))
              obtain ⟨xj, exj⟩ : ∃ t, x.getD j 0 = t := ⟨_, rfl⟩
              obtain ⟨yj, eyj⟩ : ∃ t, y.getD j 0 = t := ⟨_, rfl⟩
              rw [exj] at hxa1 hn9 HO2
              rw [eyj] at hyb hn9 HO2
              have q1 : IntKind.i64.wrap (xj + yj) = xj + yj := by rw [IntKind.wrap_i64]; omega
              have hji : (j : Int) < N := by omega
              clear hxa HO exj eyj
              go_wp2
              go_roundg (gk - 1)
              case measure => omega
              case rel => exact ⟨j + 1, by go_num, by omega, by omega, HO2.out⟩
            · obtain rfl : j = N := by omega
              have hn4 := HN4.out
              have hG : Grew w wr := Within.grew H2.out.2.2.1 HI.out.2 H2.out.2.2.2.2.1
              have hO3 := HI.out.1
              rw [plusK_all HSD.out.2.2.1 HSD.out.2.2.2] at hO3
              have HIR := Lib.hid (inRows_own hO3 (by have := hn4.1.2; omega) hn4.2.1 (by have := hn4.2.2; omega) HSD.out.2.1)
              have hc0 := hG.cell HC10.out
              have HG := Lib.hid hG
              clear hO3 hG hn4
              go_wp2_with (fail)
              refine HIR.out.mono ?_
              rintro e w4 ⟨v4, rfl, hO4, hg4⟩
              have HT : Hid (Calls Tryd.prog 49 #[v4, firstV] w4 (TopPost a.length ma (plusL x y) w4)) := Lib.hid (toppled_any v4 firstV _ _ _ _ w4 (shape_sandV HSD.out.1 hO4.toV) (HS.out.grew (HG.out.trans hg4)) first_picks)
              unfold firstV at HT
              obtain ⟨a4, c4, rfl⟩ := hO4.sh
              have HG4 := Lib.hid (HG.out.trans hg4)
              clear hO4 hg4 hc0
              go_wp2_with (fail)
              refine HT.out.mono ?_
              rintro e w5 ⟨v5, v6, rfl, h5, h6, hg5⟩
              obtain ⟨a5, c5, rfl⟩ := h5.sh
              obtain ⟨a6, c6, rfl⟩ := h6.sh
              have HF := Lib.hid (And.intro (h5.wide HG4.out.size (Nat.le_refl _)) (HG4.out.trans hg5))
              clear h5 h6 hg5
              go_wp2
              go_ret
              rw [← HE.out]
              exact ⟨_, rfl, HF.out.1, HF.out.2⟩
        · have hmb : ((ma : Int) != (mb : Int)) = true := by simp; omega
          have HE : Hid (addX a b = []) := Lib.hid (by rw [addX, if_neg (by simp only [addOk, ema, emb, hm, decide_false, Bool.and_false]; simp)])
          have hi0 : (0 : Int) < a.length := by omega
          have hj0 : (0 : Int) < b.length := by omega
          clear hsa hsb HC1 HC2 ha1 ha2 Ga Gb sda sdb na nb hr1 hr2 ema emb hl hm hlc1 hlc2
          subst ea eb
          go_enter Tryd.func31, Tryd.ntmps31
          go_wp2
          go_quiet ((go_at_call 48; first | with_reducible exact Calls.quiet_of (HVA.out _) | with_reducible exact Calls.quiet_of (HVB.out _)))
          go_wp2
          go_ret
          rw [HE.out]
          exact ⟨_, rfl, RowsO.nil _ _ _ _ _, (Grew.refl _).drewN _⟩
      · have hlb : ((a.length : Int) != (b.length : Int)) = true := by simp; omega
        have HE : Hid (addX a b = []) := Lib.hid (by rw [addX, if_neg (by simp [addOk, hl])])
        clear hsa hsb HC1 HC2 ha1 ha2 Ga Gb sda sdb na nb hr1 hr2 ema emb hl hlc1 hlc2
        subst ea eb
        go_enter Tryd.func31, Tryd.ntmps31
        go_wp2
        go_quiet ((go_at_call 48; first | with_reducible exact Calls.quiet_of (HVA.out _) | with_reducible exact Calls.quiet_of (HVB.out _)))
        go_wp2
        go_ret
        rw [HE.out]
        exact ⟨_, rfl, RowsO.nil _ _ _ _ _, (Grew.refl _).drewN _⟩
end Go.Proofs.YthgafljbbkgldaaDoor
