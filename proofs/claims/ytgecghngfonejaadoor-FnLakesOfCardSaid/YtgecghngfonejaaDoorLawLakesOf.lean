/- The law FnLakesOf returns true. -/
import Derived.Test.YtgecghngfonejaaDoorLakesM
import Derived.Test.YtgecghngfonejaaDoorSLakes
import Derived.Test.YtgecghngfonejaaDoorDraws
import Derived.Test.YtgecghngfonejaaDoorEqualRows
import Derived.Test.YtgecghngfonejaaDoorRowOf
namespace Go.Proofs.YtgecghngfonejaaDoor
open Go.RowKit

/-- What the lakes of a grid are like. -/
structure LakeF (h : List (List Int)) (N : Nat) (p f : List Int) (R : List (List Int)) : Prop where
  pl : p.length = N
  fl : f.length = N
  len : R.length ≤ N
  row : ∀ k, k < R.length → ∃ (i : Nat) (c : Int), R.getD k [] = [(i : Int), c, f.getD i 0] ∧ i < N ∧ 1 ≤ c ∧ c ≤ N ∧ p.getD i 0 < f.getD i 0 ∧ edgeB h (i : Int) = false
  asc : ∀ k, k + 1 < R.length → (R.getD k []).getD 0 0 < (R.getD (k + 1) []).getD 0 0
theorem lake_facts {h : List (List Int)} (hg : vGrid h = true) : LakeF h (h.length * (h.getD 0 []).length) h.flatten (fillL h).flatten (lakesL h) ∧ ((fillL h).length ≤ 1000 ∧ ∀ r, r < (fillL h).length → 1 ≤ ((fillL h).getD r []).length ∧ ((fillL h).getD r []).length ≤ 1000) := by
  have G := Grid.of hg
  have W := grid_level hg
  obtain ⟨ws, ews⟩ : ∃ ws, levelL h.length (h.getD 0 []).length h.flatten = ws := ⟨_, rfl⟩
  rw [ews] at W
  have hfl : (fillL h).flatten = ws := by rw [fillL_yes hg rfl rfl W, shapeL_flat _ _ _ W.len]
  have hF : Flats h.length (h.getD 0 []).length (jLake (subL ws h.flatten) ws) (flatsL h.length (h.getD 0 []).length (jLake (subL ws h.flatten) ws)) := flatsL_ok (jLake_symm _ _) G.n5 G.m5
  obtain ⟨fs, efs⟩ : ∃ fs, flatsL h.length (h.getD 0 []).length (jLake (subL ws h.flatten) ws) = fs := ⟨_, rfl⟩
  rw [efs] at hF
  have e := lakesL_yes hg rfl rfl W hF
  obtain ⟨N, eN⟩ : ∃ N, h.length * (h.getD 0 []).length = N := ⟨_, rfl⟩
  have hwl := W.len
  have hfsl := hF.len
  have hpl := flat_grid_len G
  rw [eN] at e hwl hfsl hpl ⊢
  obtain ⟨k1, k2⟩ := lakesTo_rows fs (subL ws h.flatten) ws N N
  rw [← e] at k1 k2
  rw [hfl]
  refine ⟨⟨hpl, hwl, by rw [e]; exact lakesTo_len _ _ _ _ _, fun k hk => ?_, fun k hk => ?_⟩, ?_⟩
  · have hm : (lakesL h).getD k [] ∈ lakesL h := by
      rw [List.getD_eq_getElem?_getD, List.getElem?_eq_getElem hk]; exact List.getElem_mem hk
    obtain ⟨i, h1, h2, h3, h4⟩ := k1 _ hm
    have hd := subL_at ws h.flatten i (by omega)
    rw [hd] at h4
    have hc := cntL_le fs N N i h1
    have hc2 := cntL_full fs N i hfsl h1
    have hpos : 0 < fs.count (i : Int) := List.count_pos_iff.2 (by
      have : fs.getD i 0 = fs[i]'(by omega) := by simp [show i < fs.length by omega]
      rw [← h3, this]
      exact List.getElem_mem _)
    refine ⟨i, _, h2, h1, by omega, hc.2, by omega, ?_⟩
    cases he : edgeB h (i : Int) with
    | false => rfl
    | true =>
      have h5 := W.edge i (by rw [eN]; exact h1) (by
        rw [edgeB, Bool.and_eq_true] at he
        rw [edgeL]
        simpa using he.2)
      omega
  · have := List.pairwise_iff_getElem.1 k2 k (k + 1) (by omega) hk (by omega)
    simpa [hk, show k < (lakesL h).length by omega] using this
  · rw [fillL_yes hg rfl rfl W]
    refine ⟨by rw [shapeL_len]; have := G.n5; omega, fun r hr => ?_⟩
    rw [shapeL_len] at hr
    rw [shapeL_row _ _ _ _ W.len hr]
    have := G.m1; have := G.m5; omega
theorem grid_small {h : List (List Int)} {m : Nat} (G : Grid h m) : h.length ≤ 1000 ∧ ∀ r, r < h.length → 1 ≤ (h.getD r []).length ∧ (h.getD r []).length ≤ 1000 :=
  ⟨by have := G.n5; omega, fun r hr => by have := G.len r hr; have := G.m1; have := G.m5; omega⟩

set_option maxRecDepth 100000 in
set_option maxHeartbeats 4000000 in
theorem FnLakesOf_any (v : Value) (bs : List Int) (w : World) (hv : NumsV .u8 w v bs) (hb : ∀ i, i < bs.length → 0 ≤ bs.getD i 0 ∧ bs.getD i 0 ≤ 255) (hS : Steps w) :
    Calls Tryd.prog 4 #[v] w fun e w' => e = .returned (.bool true) ∧ Grew w w' := by
  have HD := Lib.hid (DrawLakesOf_any v bs w hv hb)
  have HS := Lib.hid hS
  obtain ⟨a, b, o, c, rfl, ⟨hlc, hcb⟩, _, _⟩ := hv.shape
  clear hv hb hS
  by_cases hbig : 1048576 < bs.length
  · go_enter Tryd.func4, Tryd.ntmps4
    go_wp2
    go_ret
    exact ⟨rfl, Grew.refl _⟩
  · go_enter Tryd.func4, Tryd.ntmps4
    go_wp2_with (fail)
    refine HD.out.mono ?_
    rintro e w1 ⟨v1, H, rfl, hO, hd, hg1⟩
    have HV := Lib.hid (And.intro hO.toV hg1)
    obtain ⟨a1, c1, rfl⟩ := hO.sh
    obtain ⟨M, eM⟩ : ∃ M, lakesL H = M := ⟨_, rfl⟩
    have HM := Lib.hid eM
    clear hO hd hg1 HD
    go_wp2_with (fail)
    refine (LakesOf_any _ H _ HV.out.1 (HS.out.grew HV.out.2)).mono ?_
    rw [eM]
    rintro e w2 ⟨v2, rfl, hO2, hg2⟩
    obtain ⟨a2, c2, rfl⟩ := hO2.sh
    have H2 := Lib.hid (And.intro hO2.toV hg2)
    clear hO2 hg2
    go_wp2_with (fail)
    refine (SLakesOf_any _ H _ (HV.out.1.grew H2.out.2)).mono ?_
    rw [eM]
    rintro e w3 ⟨v3, rfl, hO3, hg3⟩
    obtain ⟨a3, c3, rfl⟩ := hO3.sh
    have H3 : Hid (RowsV w3 (.slice a2 M.length c2) M ∧ RowsV w3 (.slice a3 M.length c3) M ∧ RowsV w3 (.slice a1 H.length c1) H ∧ Grew w w3) :=
      Lib.hid ⟨H2.out.1.grew hg3, hO3.toV, HV.out.1.grew (H2.out.2.trans hg3), HV.out.2.trans (H2.out.2.trans hg3)⟩
    clear hO3 hg3 H2 HV eM
    go_wp2_with (fail)
    refine (equalRows_any _ _ M M _ H3.out.1 H3.out.2.1).mono ?_
    rw [decide_eq_true (rfl : M = M)]
    rintro e w4 ⟨rfl, hq4⟩
    have hg4 := quiet_grew hq4
    have H4 : Hid (RowsV w4 (.slice a2 M.length c2) M ∧ RowsV w4 (.slice a1 H.length c1) H ∧ Grew w w4) :=
      Lib.hid ⟨H3.out.1.grew hg4, H3.out.2.2.1.grew hg4, H3.out.2.2.2.trans hg4⟩
    clear hq4 hg4 H3
    cases hvg : vGrid H with
    | false =>
      have eM0 : M = [] := by rw [← HM.out, lakesL_no hvg]
      have ht : ((M.length : Int) == 0) = true := by simp [eM0]
      clear hvg eM0
      go_wp2_with (fail)
      refine (SLakesOf_any _ H _ H4.out.2.1).mono ?_
      rw [HM.out]
      rintro e w5 ⟨v5, rfl, hO5, hg5⟩
      obtain ⟨a5, c5, rfl⟩ := hO5.sh
      have H5 := Lib.hid (And.intro hO5.toV hg5)
      clear hO5 hg5
      go_wp2_with (fail)
      refine (equalRows_any _ _ M M _ (H4.out.1.grew H5.out.2) H5.out.1).mono ?_
      rw [decide_eq_true (rfl : M = M)]
      rintro e w6 ⟨rfl, hq6⟩
      have H6 := Lib.hid (quiet_grew hq6)
      clear hq6
      go_wp2
      go_ret
      exact ⟨rfl, H4.out.2.2.trans (H5.out.2.trans H6.out)⟩
    | true =>
      have G := Grid.of hvg
      obtain ⟨LF, s2⟩ := lake_facts hvg
      rw [HM.out] at LF
      obtain ⟨F, eF⟩ : ∃ F, fillL H = F := ⟨_, rfl⟩
      have hFB := fun W (hW : Grew w4 W) => FillByQueue_any _ H W (H4.out.2.1.grew hW) (HS.out.grew (H4.out.2.2.trans hW))
      rw [eF] at LF s2 hFB
      have hRH := fun W (hW : Grew w4 W) => rowOf_any _ H W (H4.out.2.1.grew hW) (grid_small G).1 (grid_small G).2
      have hRF := fun v W (hW : RowsV W v F) => rowOf_any v F W hW s2.1 s2.2
      obtain ⟨N, eN⟩ : ∃ N, H.length * (H.getD 0 []).length = N := ⟨_, rfl⟩
      obtain ⟨ps, eps⟩ : ∃ ps, H.flatten = ps := ⟨_, rfl⟩
      obtain ⟨fs, efs⟩ : ∃ fs, F.flatten = fs := ⟨_, rfl⟩
      rw [eN, eps, efs] at LF
      rw [eps] at hRH
      rw [efs] at hRF
      have hN25 : N ≤ 25 := by rw [← eN]; exact Nat.mul_le_mul G.n5 G.m5
      have HFB := Lib.hid hFB
      have HRH := Lib.hid hRH
      have HRF := Lib.hid hRF
      have HLF := Lib.hid LF
      have HOE : Hid (∀ (k : Nat) W, Grew w4 W → edgeB H (k : Int) = false → Calls Tryd.prog 26 #[.slice a1 H.length c1, .int .i64 k] W fun e w' => e = .returned (.bool false) ∧ Grew W w') := Lib.hid fun k W hW hk => by
        have := OnEdge_any _ H (k : Int) W (H4.out.2.1.grew hW) (HS.out.grew (H4.out.2.2.trans hW))
        rw [hk] at this
        exact this
      clear hvg G LF s2 eF hFB hRH hRF eN eps efs
      by_cases hM0 : M.length = 0
      · have ht : ((M.length : Int) == 0) = true := by simp [hM0]
        clear hM0
        go_wp2_with (fail)
        refine (SLakesOf_any _ H _ H4.out.2.1).mono ?_
        rw [HM.out]
        rintro e w5 ⟨v5, rfl, hO5, hg5⟩
        obtain ⟨a5, c5, rfl⟩ := hO5.sh
        have H5 := Lib.hid (And.intro hO5.toV hg5)
        clear hO5 hg5
        go_wp2_with (fail)
        refine (equalRows_any _ _ M M _ (H4.out.1.grew H5.out.2) H5.out.1).mono ?_
        rw [decide_eq_true (rfl : M = M)]
        rintro e w6 ⟨rfl, hq6⟩
        have H6 := Lib.hid (quiet_grew hq6)
        clear hq6
        go_wp2
        go_ret
        exact ⟨rfl, H4.out.2.2.trans (H5.out.2.trans H6.out)⟩
      · have ht : ((M.length : Int) == 0) = false := beq_eq_false_iff_ne.2 (by omega)
        go_wp2_with (fail)
        refine (HFB.out _ (Grew.refl _)).mono ?_
        rintro e w7 ⟨v7, rfl, hO7, hg7⟩
        obtain ⟨a7, c7, rfl⟩ := hO7.sh
        have H7 := Lib.hid (And.intro hO7.toV hg7)
        clear hO7 hg7
        go_wp2_with (fail)
        refine (HRF.out _ _ H7.out.1).mono ?_
        rintro e w8 ⟨g8, c8, rfl, hO8, hg8⟩
        rw [HLF.out.fl] at hO8 ⊢
        have H8 := Lib.hid (And.intro hO8 (H7.out.2.trans hg8))
        clear hO8 hg8
        go_wp2_with (fail)
        refine (HRH.out _ H8.out.2).mono ?_
        rintro e w9 ⟨g9, c9, rfl, hO9, hg9⟩
        rw [HLF.out.pl] at hO9 ⊢
        have H9 := Lib.hid (And.intro hO9 (And.intro (H8.out.1.grew hg9) (H8.out.2.trans hg9)))
        clear hO9 hg9 H8 H7
        obtain ⟨n, en⟩ : ∃ n, M.length = n := ⟨_, rfl⟩
        have hRV := H4.out.1.grew H9.out.2.2
        obtain ⟨am, bm, om, cm, em, ⟨hlm, hcm⟩, ham, HCM⟩ := hRV.shape
        obtain ⟨rfl, rfl⟩ : a2 = am ∧ c2 = cm := by simpa using em
        obtain rfl := ham (by omega)
        rw [en] at hlm ht ⊢
        have hnN := HLF.out.len
        rw [en] at hnN
        have HEN := Lib.hid en
        clear hRV em ham hM0 en
        go_wp2
        go_loopw [7] (fun i wr => ∃ k : Nat, k ≤ n ∧ i = .int .i64 k ∧ Hid (Grew w9 wr)) (fun i _ => n - (intOf i).toNat)
        case atStart => exact ⟨0, Nat.zero_le _, rfl, Grew.refl _⟩
        case round =>
          obtain ⟨k, hk, rfl, HX⟩ := hrel
          by_cases hlt : k < n
          · have key : ∀ t, t < n → ∃ (i : Nat) (c : Int) (b3 o3 c3 : Nat), M.getD t [] = [(i : Int), c, fs.getD i 0] ∧ i < N ∧ 1 ≤ c ∧ c ≤ N ∧ ps.getD i 0 < fs.getD i 0 ∧ edgeB H (i : Int) = false ∧ 3 ≤ c3 ∧ wr.cell? ⟨bm, om + t, none⟩ = some (.slice (some ⟨b3, o3, none⟩) 3 c3) ∧ wr.cell? ⟨b3, o3, none⟩ = some (.int .i64 i) ∧ wr.cell? ⟨b3, o3 + 1, none⟩ = some (.int .i64 c) ∧ wr.cell? ⟨b3, o3 + 2, none⟩ = some (.int .i64 (fs.getD i 0)) := fun t ht' => by
              obtain ⟨i, c, r1, r2, r3, r4, r5, r6⟩ := HLF.out.row t (by rw [HEN.out]; exact ht')
              obtain ⟨u, q1, q2⟩ := HCM.out t (by rw [HEN.out]; exact ht')
              rw [r1] at q2
              obtain ⟨a3, b3, o3, c3, rfl, ⟨q3, _⟩, q4, Q5⟩ := q2.shape
              obtain rfl := q4 (by simp)
              have z0 := Q5.out 0 (by simp)
              have z1 := Q5.out 1 (by simp)
              have z2 := Q5.out 2 (by simp)
              simp at z0 z1 z2
              exact ⟨i, c, b3, o3, c3, r1, r2, r3, r4, r5, r6, by simpa using q3, HX.out.cell q1, HX.out.cell z0, HX.out.cell z1, HX.out.cell (by simpa using z2)⟩
            obtain ⟨i, c, b3, o3, c3, r1, r2, r3, r4, r5, r6, r7, y1, y2, y3, y4⟩ := key k hlt
            have hcp := HX.out.cell (H9.out.1.at rfl (i := i) (by rw [HLF.out.pl]; exact r2)).1
            have hcf := HX.out.cell (H9.out.2.1.at rfl (i := i) (by rw [HLF.out.fl]; exact r2)).1
            have HOK := Lib.hid (HOE.out i wr.drew (H9.out.2.2.trans HX.out.drew) r6)
            obtain ⟨x, ex⟩ : ∃ x, ps.getD i 0 = x := ⟨_, rfl⟩
            obtain ⟨y, ey⟩ : ∃ y, fs.getD i 0 = y := ⟨_, rfl⟩
            have hkn : (k : Int) < (n : Int) := by omega
            have hiN : (i : Int) < (N : Int) := by omega
            have d1 : decide (c < 1) = false := decide_eq_false (by omega)
            have d2 : decide (y ≤ x) = false := decide_eq_false (by omega)
            rcases k with _ | k'
            · rw [ex] at hcp
              rw [ey] at hcf y4
              rw [Nat.add_zero] at y1
              have HSS : Hid (∀ W W' : World, (W.cell? ⟨bm, om, none⟩ = some (.slice (some ⟨b3, o3, none⟩) 3 c3) ∧ W.cell? ⟨b3, o3, none⟩ = some (.int .i64 i) ∧ W.cell? ⟨b3, o3 + 1, none⟩ = some (.int .i64 c) ∧ W.cell? ⟨b3, o3 + 2, none⟩ = some (.int .i64 y) ∧ W.cell? ⟨g8, i, none⟩ = some (.int .i64 y) ∧ W.cell? ⟨g9, i, none⟩ = some (.int .i64 x)) → Grew W W' → (W'.cell? ⟨bm, om, none⟩ = some (.slice (some ⟨b3, o3, none⟩) 3 c3) ∧ W'.cell? ⟨b3, o3, none⟩ = some (.int .i64 i) ∧ W'.cell? ⟨b3, o3 + 1, none⟩ = some (.int .i64 c) ∧ W'.cell? ⟨b3, o3 + 2, none⟩ = some (.int .i64 y) ∧ W'.cell? ⟨g8, i, none⟩ = some (.int .i64 y) ∧ W'.cell? ⟨g9, i, none⟩ = some (.int .i64 x))) := Lib.hid fun W W' q g => ⟨g.cell q.1, g.cell q.2.1, g.cell q.2.2.1, g.cell q.2.2.2.1, g.cell q.2.2.2.2.1, g.cell q.2.2.2.2.2⟩
              clear key r1 ex ey r6
              rw [show ((0 : Nat) : Int) = 0 from rfl] at *
              go_wp2_with (fail)
              refine wp_region_noPanic ?_
              refine wp_region_held_drew (S := fun W => W.cell? ⟨bm, om, none⟩ = some (.slice (some ⟨b3, o3, none⟩) 3 c3) ∧ W.cell? ⟨b3, o3, none⟩ = some (.int .i64 i) ∧ W.cell? ⟨b3, o3 + 1, none⟩ = some (.int .i64 c) ∧ W.cell? ⟨b3, o3 + 2, none⟩ = some (.int .i64 y) ∧ W.cell? ⟨g8, i, none⟩ = some (.int .i64 y) ∧ W.cell? ⟨g9, i, none⟩ = some (.int .i64 x)) (by kernel_rfl) (by exact ⟨y1, y2, y3, y4, hcf, hcp⟩) (fun hHeld => ?_)
              refine wpAnyH_take (i := 0) (oi := { dst := some 47, op := Op.move (Operand.tmp 4), type := 23, pos := _, after := #[], guard := none }) (v := ?_) rfl (by kernel_rfl) (by kernel_rfl) (by kernel_rfl) (fun _ _ _ h => h) (Or.inl ⟨by rfl, ?hy⟩) (by assumption) ?_
              case hy => (intro w hSw; (try dsimp only at hSw); go_simp; try with_reducible rfl)
              try simp only [Act.put, List.setIfInBounds_toArray, List.set_cons_zero, List.set_cons_succ]
              refine wpAnyH_take (i := 1) (oi := { dst := some 48, op := Op.move (Operand.tmp 7), type := 3, pos := _, after := #[], guard := none }) (v := ?_) rfl (by kernel_rfl) (by kernel_rfl) (by kernel_rfl) (fun _ _ _ h => h) (Or.inl ⟨by rfl, ?hy⟩) (by assumption) ?_
              case hy => (intro w hSw; (try dsimp only at hSw); go_simp; try with_reducible rfl)
              try simp only [Act.put, List.setIfInBounds_toArray, List.set_cons_zero, List.set_cons_succ]
              refine wpAnyH_take (i := 2) (oi := { dst := some 49, op := Op.indexAddr 23 (Operand.tmp 47) (Operand.tmp 48), type := 0, pos := _, after := #[{ on := 0, ground := Ground.data }, { on := 1, ground := Ground.data }], guard := none }) (v := ?_) rfl (by kernel_rfl) (by kernel_rfl) (by kernel_rfl) (fun _ _ _ h => h) (Or.inl ⟨by rfl, ?hy⟩) (by assumption) ?_
              case hy => (intro w hSw; (try dsimp only at hSw); go_simp; try with_reducible rfl)
              try simp only [Act.put, List.setIfInBounds_toArray, List.set_cons_zero, List.set_cons_succ]
              refine wpAnyH_take (i := 3) (oi := { dst := some 50, op := Op.load 26 (Operand.tmp 49), type := 26, pos := _, after := #[{ on := 2, ground := Ground.data }], guard := none }) (v := ?_) rfl (by kernel_rfl) (by kernel_rfl) (by kernel_rfl) (fun _ _ _ h => h) (Or.inl ⟨by rfl, ?hy⟩) (by assumption) ?_
              case hy => (intro w hSw; (try dsimp only at hSw); go_simp; try with_reducible rfl)
              try simp only [Act.put, List.setIfInBounds_toArray, List.set_cons_zero, List.set_cons_succ]
              refine wpAnyH_ready (rs := [4]) (by kernel_rfl) (by simp) ?_
              refine AllReadyH.cons (i := 4) (o := { dst := some 51, op := Op.call { callee := Callee.builtin Builtin.len, args := #[Operand.tmp 50], argTypes := #[26] }, type := 3, pos := _, after := #[{ on := 3, ground := Ground.data }], guard := none }) rfl (fun K hK => ?_) AllReadyH.nil
              go_simp
              refine hK.out _ _ (by assumption) (fun hHeld => ?_)
              clear hK K
              try simp only [Act.put, List.setIfInBounds_toArray, List.set_cons_zero, List.set_cons_succ]
              refine wpAnyH_take (i := 5) (oi := { dst := some 52, op := Op.binOp BinOp.neq 3 (Operand.tmp 51) (Operand.const (Value.int IntKind.i64 3)) 3, type := 4, pos := _, after := #[{ on := 4, ground := Ground.data }], guard := none }) (v := .bool false) rfl (by kernel_rfl) (by kernel_rfl) (by kernel_rfl) (fun _ _ _ h => h) (Or.inl ⟨by rfl, ?hy⟩) (by assumption) ?_
              case hy => (intro w hSw; (try dsimp only at hSw); go_simp <;> (try with_reducible rfl) <;> (try simp [d1, d2]))
              try simp only [Act.put, List.setIfInBounds_toArray, List.set_cons_zero, List.set_cons_succ]
              refine wpAnyH_take (i := 6) (oi := { dst := some 53, op := Op.move (Operand.tmp 52), type := 4, pos := _, after := #[{ on := 5, ground := Ground.data }], guard := none }) (v := .bool false) rfl (by kernel_rfl) (by kernel_rfl) (by kernel_rfl) (fun _ _ _ h => h) (Or.inl ⟨by rfl, ?hy⟩) (by assumption) ?_
              case hy => (intro w hSw; (try dsimp only at hSw); go_simp <;> (try with_reducible rfl) <;> (try simp [d1, d2]))
              try simp only [Act.put, List.setIfInBounds_toArray, List.set_cons_zero, List.set_cons_succ]
              refine wpAnyH_take (i := 7) (oi := { dst := some 54, op := Op.move (Operand.tmp 4), type := 23, pos := _, after := #[{ on := 6, ground := Ground.guard }], guard := some (6, false) }) (v := ?_) rfl (by kernel_rfl) (by kernel_rfl) (by kernel_rfl) (fun _ _ _ h => h) (Or.inl ⟨by rfl, ?hy⟩) (by assumption) ?_
              case hy => (intro w hSw; (try dsimp only at hSw); go_simp; try with_reducible rfl)
              try simp only [Act.put, List.setIfInBounds_toArray, List.set_cons_zero, List.set_cons_succ]
              refine wpAnyH_take (i := 8) (oi := { dst := some 55, op := Op.move (Operand.tmp 7), type := 3, pos := _, after := #[{ on := 6, ground := Ground.guard }], guard := some (6, false) }) (v := ?_) rfl (by kernel_rfl) (by kernel_rfl) (by kernel_rfl) (fun _ _ _ h => h) (Or.inl ⟨by rfl, ?hy⟩) (by assumption) ?_
              case hy => (intro w hSw; (try dsimp only at hSw); go_simp; try with_reducible rfl)
              try simp only [Act.put, List.setIfInBounds_toArray, List.set_cons_zero, List.set_cons_succ]
              refine wpAnyH_take (i := 9) (oi := { dst := some 56, op := Op.indexAddr 23 (Operand.tmp 54) (Operand.tmp 55), type := 0, pos := _, after := #[{ on := 7, ground := Ground.data }, { on := 8, ground := Ground.data }, { on := 6, ground := Ground.guard }], guard := some (6, false) }) (v := ?_) rfl (by kernel_rfl) (by kernel_rfl) (by kernel_rfl) (fun _ _ _ h => h) (Or.inl ⟨by rfl, ?hy⟩) (by assumption) ?_
              case hy => (intro w hSw; (try dsimp only at hSw); go_simp; try with_reducible rfl)
              try simp only [Act.put, List.setIfInBounds_toArray, List.set_cons_zero, List.set_cons_succ]
              refine wpAnyH_take (i := 10) (oi := { dst := some 57, op := Op.load 26 (Operand.tmp 56), type := 26, pos := _, after := #[{ on := 9, ground := Ground.data }, { on := 6, ground := Ground.guard }], guard := some (6, false) }) (v := ?_) rfl (by kernel_rfl) (by kernel_rfl) (by kernel_rfl) (fun _ _ _ h => h) (Or.inl ⟨by rfl, ?hy⟩) (by assumption) ?_
              case hy => (intro w hSw; (try dsimp only at hSw); go_simp; try with_reducible rfl)
              try simp only [Act.put, List.setIfInBounds_toArray, List.set_cons_zero, List.set_cons_succ]
              refine wpAnyH_take (i := 11) (oi := { dst := some 58, op := Op.indexAddr 26 (Operand.tmp 57) (Operand.const (Value.int IntKind.i64 1)), type := 0, pos := _, after := #[{ on := 10, ground := Ground.data }, { on := 6, ground := Ground.guard }], guard := some (6, false) }) (v := ?_) rfl (by kernel_rfl) (by kernel_rfl) (by kernel_rfl) (fun _ _ _ h => h) (Or.inl ⟨by rfl, ?hy⟩) (by assumption) ?_
              case hy => (intro w hSw; (try dsimp only at hSw); go_simp; try with_reducible rfl)
              try simp only [Act.put, List.setIfInBounds_toArray, List.set_cons_zero, List.set_cons_succ]
              refine wpAnyH_take (i := 12) (oi := { dst := some 59, op := Op.load 3 (Operand.tmp 58), type := 3, pos := _, after := #[{ on := 11, ground := Ground.data }, { on := 6, ground := Ground.guard }], guard := some (6, false) }) (v := ?_) rfl (by kernel_rfl) (by kernel_rfl) (by kernel_rfl) (fun _ _ _ h => h) (Or.inl ⟨by rfl, ?hy⟩) (by assumption) ?_
              case hy => (intro w hSw; (try dsimp only at hSw); go_simp; try with_reducible rfl)
              try simp only [Act.put, List.setIfInBounds_toArray, List.set_cons_zero, List.set_cons_succ]
              refine wpAnyH_take (i := 13) (oi := { dst := some 60, op := Op.binOp BinOp.lss 3 (Operand.tmp 59) (Operand.const (Value.int IntKind.i64 1)) 3, type := 4, pos := _, after := #[{ on := 12, ground := Ground.data }, { on := 6, ground := Ground.guard }], guard := some (6, false) }) (v := .bool false) rfl (by kernel_rfl) (by kernel_rfl) (by kernel_rfl) (fun _ _ _ h => h) (Or.inl ⟨by rfl, ?hy⟩) (by assumption) ?_
              case hy => (intro w hSw; (try dsimp only at hSw); go_simp <;> (try with_reducible rfl) <;> (try simp [d1, d2]))
              try simp only [Act.put, List.setIfInBounds_toArray, List.set_cons_zero, List.set_cons_succ]
              refine wpAnyH_take (i := 14) (oi := { dst := some 61, op := Op.pick (Operand.tmp 53) (Operand.const (Value.bool true)) (Operand.tmp 60), type := 4, pos := _, after := #[{ on := 6, ground := Ground.data }, { on := 13, ground := Ground.data }], guard := none }) (v := .bool false) rfl (by kernel_rfl) (by kernel_rfl) (by kernel_rfl) (fun _ _ _ h => h) (Or.inl ⟨by rfl, ?hy⟩) (by assumption) ?_
              case hy => (intro w hSw; (try dsimp only at hSw); go_simp <;> (try with_reducible rfl) <;> (try simp [d1, d2]))
              try simp only [Act.put, List.setIfInBounds_toArray, List.set_cons_zero, List.set_cons_succ]
              refine wpAnyH_take (i := 15) (oi := { dst := some 62, op := Op.move (Operand.tmp 61), type := 4, pos := _, after := #[{ on := 14, ground := Ground.data }, { on := 6, ground := Ground.chain }], guard := none }) (v := .bool false) rfl (by kernel_rfl) (by kernel_rfl) (by kernel_rfl) (fun _ _ _ h => h) (Or.inl ⟨by rfl, ?hy⟩) (by assumption) ?_
              case hy => (intro w hSw; (try dsimp only at hSw); go_simp <;> (try with_reducible rfl) <;> (try simp [d1, d2]))
              try simp only [Act.put, List.setIfInBounds_toArray, List.set_cons_zero, List.set_cons_succ]
              refine wpAnyH_take (i := 16) (oi := { dst := some 63, op := Op.move (Operand.tmp 4), type := 23, pos := _, after := #[{ on := 15, ground := Ground.guard }], guard := some (15, false) }) (v := ?_) rfl (by kernel_rfl) (by kernel_rfl) (by kernel_rfl) (fun _ _ _ h => h) (Or.inl ⟨by rfl, ?hy⟩) (by assumption) ?_
              case hy => (intro w hSw; (try dsimp only at hSw); go_simp; try with_reducible rfl)
              try simp only [Act.put, List.setIfInBounds_toArray, List.set_cons_zero, List.set_cons_succ]
              refine wpAnyH_take (i := 17) (oi := { dst := some 64, op := Op.move (Operand.tmp 7), type := 3, pos := _, after := #[{ on := 15, ground := Ground.guard }], guard := some (15, false) }) (v := ?_) rfl (by kernel_rfl) (by kernel_rfl) (by kernel_rfl) (fun _ _ _ h => h) (Or.inl ⟨by rfl, ?hy⟩) (by assumption) ?_
              case hy => (intro w hSw; (try dsimp only at hSw); go_simp; try with_reducible rfl)
              try simp only [Act.put, List.setIfInBounds_toArray, List.set_cons_zero, List.set_cons_succ]
              refine wpAnyH_take (i := 18) (oi := { dst := some 65, op := Op.indexAddr 23 (Operand.tmp 63) (Operand.tmp 64), type := 0, pos := _, after := #[{ on := 16, ground := Ground.data }, { on := 17, ground := Ground.data }, { on := 15, ground := Ground.guard }], guard := some (15, false) }) (v := ?_) rfl (by kernel_rfl) (by kernel_rfl) (by kernel_rfl) (fun _ _ _ h => h) (Or.inl ⟨by rfl, ?hy⟩) (by assumption) ?_
              case hy => (intro w hSw; (try dsimp only at hSw); go_simp; try with_reducible rfl)
              try simp only [Act.put, List.setIfInBounds_toArray, List.set_cons_zero, List.set_cons_succ]
              refine wpAnyH_take (i := 19) (oi := { dst := some 66, op := Op.load 26 (Operand.tmp 65), type := 26, pos := _, after := #[{ on := 18, ground := Ground.data }, { on := 15, ground := Ground.guard }], guard := some (15, false) }) (v := ?_) rfl (by kernel_rfl) (by kernel_rfl) (by kernel_rfl) (fun _ _ _ h => h) (Or.inl ⟨by rfl, ?hy⟩) (by assumption) ?_
              case hy => (intro w hSw; (try dsimp only at hSw); go_simp; try with_reducible rfl)
              try simp only [Act.put, List.setIfInBounds_toArray, List.set_cons_zero, List.set_cons_succ]
              refine wpAnyH_take (i := 20) (oi := { dst := some 67, op := Op.indexAddr 26 (Operand.tmp 66) (Operand.const (Value.int IntKind.i64 2)), type := 0, pos := _, after := #[{ on := 19, ground := Ground.data }, { on := 15, ground := Ground.guard }], guard := some (15, false) }) (v := ?_) rfl (by kernel_rfl) (by kernel_rfl) (by kernel_rfl) (fun _ _ _ h => h) (Or.inl ⟨by rfl, ?hy⟩) (by assumption) ?_
              case hy => (intro w hSw; (try dsimp only at hSw); go_simp; try with_reducible rfl)
              try simp only [Act.put, List.setIfInBounds_toArray, List.set_cons_zero, List.set_cons_succ]
              refine wpAnyH_take (i := 21) (oi := { dst := some 68, op := Op.load 3 (Operand.tmp 67), type := 3, pos := _, after := #[{ on := 20, ground := Ground.data }, { on := 15, ground := Ground.guard }], guard := some (15, false) }) (v := ?_) rfl (by kernel_rfl) (by kernel_rfl) (by kernel_rfl) (fun _ _ _ h => h) (Or.inl ⟨by rfl, ?hy⟩) (by assumption) ?_
              case hy => (intro w hSw; (try dsimp only at hSw); go_simp; try with_reducible rfl)
              try simp only [Act.put, List.setIfInBounds_toArray, List.set_cons_zero, List.set_cons_succ]
              refine wpAnyH_take (i := 22) (oi := { dst := some 69, op := Op.move (Operand.tmp 5), type := 26, pos := _, after := #[{ on := 15, ground := Ground.guard }], guard := some (15, false) }) (v := ?_) rfl (by kernel_rfl) (by kernel_rfl) (by kernel_rfl) (fun _ _ _ h => h) (Or.inl ⟨by rfl, ?hy⟩) (by assumption) ?_
              case hy => (intro w hSw; (try dsimp only at hSw); go_simp; try with_reducible rfl)
              try simp only [Act.put, List.setIfInBounds_toArray, List.set_cons_zero, List.set_cons_succ]
              refine wpAnyH_take (i := 23) (oi := { dst := some 70, op := Op.move (Operand.tmp 8), type := 3, pos := _, after := #[{ on := 15, ground := Ground.guard }], guard := some (15, false) }) (v := ?_) rfl (by kernel_rfl) (by kernel_rfl) (by kernel_rfl) (fun _ _ _ h => h) (Or.inl ⟨by rfl, ?hy⟩) (by assumption) ?_
              case hy => (intro w hSw; (try dsimp only at hSw); go_simp; try with_reducible rfl)
              try simp only [Act.put, List.setIfInBounds_toArray, List.set_cons_zero, List.set_cons_succ]
              refine wpAnyH_take (i := 24) (oi := { dst := some 71, op := Op.indexAddr 26 (Operand.tmp 69) (Operand.tmp 70), type := 0, pos := _, after := #[{ on := 22, ground := Ground.data }, { on := 23, ground := Ground.data }, { on := 15, ground := Ground.guard }], guard := some (15, false) }) (v := ?_) rfl (by kernel_rfl) (by kernel_rfl) (by kernel_rfl) (fun _ _ _ h => h) (Or.inl ⟨by rfl, ?hy⟩) (by assumption) ?_
              case hy => (intro w hSw; (try dsimp only at hSw); go_simp; try with_reducible rfl)
              try simp only [Act.put, List.setIfInBounds_toArray, List.set_cons_zero, List.set_cons_succ]
              refine wpAnyH_take (i := 25) (oi := { dst := some 72, op := Op.load 3 (Operand.tmp 71), type := 3, pos := _, after := #[{ on := 24, ground := Ground.data }, { on := 15, ground := Ground.guard }], guard := some (15, false) }) (v := ?_) rfl (by kernel_rfl) (by kernel_rfl) (by kernel_rfl) (fun _ _ _ h => h) (Or.inl ⟨by rfl, ?hy⟩) (by assumption) ?_
              case hy => (intro w hSw; (try dsimp only at hSw); go_simp; try with_reducible rfl)
              try simp only [Act.put, List.setIfInBounds_toArray, List.set_cons_zero, List.set_cons_succ]
              refine wpAnyH_take (i := 26) (oi := { dst := some 73, op := Op.binOp BinOp.neq 3 (Operand.tmp 68) (Operand.tmp 72) 3, type := 4, pos := _, after := #[{ on := 21, ground := Ground.data }, { on := 25, ground := Ground.data }, { on := 15, ground := Ground.guard }], guard := some (15, false) }) (v := .bool false) rfl (by kernel_rfl) (by kernel_rfl) (by kernel_rfl) (fun _ _ _ h => h) (Or.inl ⟨by rfl, ?hy⟩) (by assumption) ?_
              case hy => (intro w hSw; (try dsimp only at hSw); go_simp <;> (try with_reducible rfl) <;> (try simp [d1, d2]))
              try simp only [Act.put, List.setIfInBounds_toArray, List.set_cons_zero, List.set_cons_succ]
              refine wpAnyH_take (i := 27) (oi := { dst := some 74, op := Op.pick (Operand.tmp 62) (Operand.const (Value.bool true)) (Operand.tmp 73), type := 4, pos := _, after := #[{ on := 15, ground := Ground.data }, { on := 26, ground := Ground.data }], guard := none }) (v := .bool false) rfl (by kernel_rfl) (by kernel_rfl) (by kernel_rfl) (fun _ _ _ h => h) (Or.inl ⟨by rfl, ?hy⟩) (by assumption) ?_
              case hy => (intro w hSw; (try dsimp only at hSw); go_simp <;> (try with_reducible rfl) <;> (try simp [d1, d2]))
              try simp only [Act.put, List.setIfInBounds_toArray, List.set_cons_zero, List.set_cons_succ]
              refine wpAnyH_take (i := 28) (oi := { dst := some 75, op := Op.move (Operand.tmp 74), type := 4, pos := _, after := #[{ on := 27, ground := Ground.data }, { on := 15, ground := Ground.chain }], guard := none }) (v := .bool false) rfl (by kernel_rfl) (by kernel_rfl) (by kernel_rfl) (fun _ _ _ h => h) (Or.inl ⟨by rfl, ?hy⟩) (by assumption) ?_
              case hy => (intro w hSw; (try dsimp only at hSw); go_simp <;> (try with_reducible rfl) <;> (try simp [d1, d2]))
              try simp only [Act.put, List.setIfInBounds_toArray, List.set_cons_zero, List.set_cons_succ]
              refine wpAnyH_take (i := 29) (oi := { dst := some 76, op := Op.move (Operand.tmp 6), type := 26, pos := _, after := #[{ on := 28, ground := Ground.guard }], guard := some (28, false) }) (v := ?_) rfl (by kernel_rfl) (by kernel_rfl) (by kernel_rfl) (fun _ _ _ h => h) (Or.inl ⟨by rfl, ?hy⟩) (by assumption) ?_
              case hy => (intro w hSw; (try dsimp only at hSw); go_simp; try with_reducible rfl)
              try simp only [Act.put, List.setIfInBounds_toArray, List.set_cons_zero, List.set_cons_succ]
              refine wpAnyH_take (i := 30) (oi := { dst := some 77, op := Op.move (Operand.tmp 8), type := 3, pos := _, after := #[{ on := 28, ground := Ground.guard }], guard := some (28, false) }) (v := ?_) rfl (by kernel_rfl) (by kernel_rfl) (by kernel_rfl) (fun _ _ _ h => h) (Or.inl ⟨by rfl, ?hy⟩) (by assumption) ?_
              case hy => (intro w hSw; (try dsimp only at hSw); go_simp; try with_reducible rfl)
              try simp only [Act.put, List.setIfInBounds_toArray, List.set_cons_zero, List.set_cons_succ]
              refine wpAnyH_take (i := 31) (oi := { dst := some 78, op := Op.indexAddr 26 (Operand.tmp 76) (Operand.tmp 77), type := 0, pos := _, after := #[{ on := 29, ground := Ground.data }, { on := 30, ground := Ground.data }, { on := 28, ground := Ground.guard }], guard := some (28, false) }) (v := ?_) rfl (by kernel_rfl) (by kernel_rfl) (by kernel_rfl) (fun _ _ _ h => h) (Or.inl ⟨by rfl, ?hy⟩) (by assumption) ?_
              case hy => (intro w hSw; (try dsimp only at hSw); go_simp; try with_reducible rfl)
              try simp only [Act.put, List.setIfInBounds_toArray, List.set_cons_zero, List.set_cons_succ]
              refine wpAnyH_take (i := 32) (oi := { dst := some 79, op := Op.load 3 (Operand.tmp 78), type := 3, pos := _, after := #[{ on := 31, ground := Ground.data }, { on := 28, ground := Ground.guard }], guard := some (28, false) }) (v := ?_) rfl (by kernel_rfl) (by kernel_rfl) (by kernel_rfl) (fun _ _ _ h => h) (Or.inl ⟨by rfl, ?hy⟩) (by assumption) ?_
              case hy => (intro w hSw; (try dsimp only at hSw); go_simp; try with_reducible rfl)
              try simp only [Act.put, List.setIfInBounds_toArray, List.set_cons_zero, List.set_cons_succ]
              refine wpAnyH_take (i := 33) (oi := { dst := some 80, op := Op.move (Operand.tmp 5), type := 26, pos := _, after := #[{ on := 28, ground := Ground.guard }], guard := some (28, false) }) (v := ?_) rfl (by kernel_rfl) (by kernel_rfl) (by kernel_rfl) (fun _ _ _ h => h) (Or.inl ⟨by rfl, ?hy⟩) (by assumption) ?_
              case hy => (intro w hSw; (try dsimp only at hSw); go_simp; try with_reducible rfl)
              try simp only [Act.put, List.setIfInBounds_toArray, List.set_cons_zero, List.set_cons_succ]
              refine wpAnyH_take (i := 34) (oi := { dst := some 81, op := Op.move (Operand.tmp 8), type := 3, pos := _, after := #[{ on := 28, ground := Ground.guard }], guard := some (28, false) }) (v := ?_) rfl (by kernel_rfl) (by kernel_rfl) (by kernel_rfl) (fun _ _ _ h => h) (Or.inl ⟨by rfl, ?hy⟩) (by assumption) ?_
              case hy => (intro w hSw; (try dsimp only at hSw); go_simp; try with_reducible rfl)
              try simp only [Act.put, List.setIfInBounds_toArray, List.set_cons_zero, List.set_cons_succ]
              refine wpAnyH_take (i := 35) (oi := { dst := some 82, op := Op.indexAddr 26 (Operand.tmp 80) (Operand.tmp 81), type := 0, pos := _, after := #[{ on := 33, ground := Ground.data }, { on := 34, ground := Ground.data }, { on := 28, ground := Ground.guard }], guard := some (28, false) }) (v := ?_) rfl (by kernel_rfl) (by kernel_rfl) (by kernel_rfl) (fun _ _ _ h => h) (Or.inl ⟨by rfl, ?hy⟩) (by assumption) ?_
              case hy => (intro w hSw; (try dsimp only at hSw); go_simp; try with_reducible rfl)
              try simp only [Act.put, List.setIfInBounds_toArray, List.set_cons_zero, List.set_cons_succ]
              refine wpAnyH_take (i := 36) (oi := { dst := some 83, op := Op.load 3 (Operand.tmp 82), type := 3, pos := _, after := #[{ on := 35, ground := Ground.data }, { on := 28, ground := Ground.guard }], guard := some (28, false) }) (v := ?_) rfl (by kernel_rfl) (by kernel_rfl) (by kernel_rfl) (fun _ _ _ h => h) (Or.inl ⟨by rfl, ?hy⟩) (by assumption) ?_
              case hy => (intro w hSw; (try dsimp only at hSw); go_simp; try with_reducible rfl)
              try simp only [Act.put, List.setIfInBounds_toArray, List.set_cons_zero, List.set_cons_succ]
              refine wpAnyH_take (i := 37) (oi := { dst := some 84, op := Op.binOp BinOp.geq 3 (Operand.tmp 79) (Operand.tmp 83) 3, type := 4, pos := _, after := #[{ on := 32, ground := Ground.data }, { on := 36, ground := Ground.data }, { on := 28, ground := Ground.guard }], guard := some (28, false) }) (v := .bool false) rfl (by kernel_rfl) (by kernel_rfl) (by kernel_rfl) (fun _ _ _ h => h) (Or.inl ⟨by rfl, ?hy⟩) (by assumption) ?_
              case hy => (intro w hSw; (try dsimp only at hSw); go_simp <;> (try with_reducible rfl) <;> (try simp [d1, d2]))
              try simp only [Act.put, List.setIfInBounds_toArray, List.set_cons_zero, List.set_cons_succ]
              refine wpAnyH_take (i := 38) (oi := { dst := some 85, op := Op.pick (Operand.tmp 75) (Operand.const (Value.bool true)) (Operand.tmp 84), type := 4, pos := _, after := #[{ on := 28, ground := Ground.data }, { on := 37, ground := Ground.data }], guard := none }) (v := .bool false) rfl (by kernel_rfl) (by kernel_rfl) (by kernel_rfl) (fun _ _ _ h => h) (Or.inl ⟨by rfl, ?hy⟩) (by assumption) ?_
              case hy => (intro w hSw; (try dsimp only at hSw); go_simp <;> (try with_reducible rfl) <;> (try simp [d1, d2]))
              try simp only [Act.put, List.setIfInBounds_toArray, List.set_cons_zero, List.set_cons_succ]
              refine wpAnyH_take (i := 39) (oi := { dst := some 86, op := Op.move (Operand.tmp 85), type := 4, pos := _, after := #[{ on := 38, ground := Ground.data }, { on := 28, ground := Ground.chain }], guard := none }) (v := .bool false) rfl (by kernel_rfl) (by kernel_rfl) (by kernel_rfl) (fun _ _ _ h => h) (Or.inl ⟨by rfl, ?hy⟩) (by assumption) ?_
              case hy => (intro w hSw; (try dsimp only at hSw); go_simp <;> (try with_reducible rfl) <;> (try simp [d1, d2]))
              try simp only [Act.put, List.setIfInBounds_toArray, List.set_cons_zero, List.set_cons_succ]
              refine wpAnyH_take (i := 40) (oi := { dst := some 87, op := Op.move (Operand.tmp 3), type := 23, pos := _, after := #[{ on := 39, ground := Ground.guard }], guard := some (39, false) }) (v := ?_) rfl (by kernel_rfl) (by kernel_rfl) (by kernel_rfl) (fun _ _ _ h => h) (Or.inl ⟨by rfl, ?hy⟩) (by assumption) ?_
              case hy => (intro w hSw; (try dsimp only at hSw); go_simp; try with_reducible rfl)
              try simp only [Act.put, List.setIfInBounds_toArray, List.set_cons_zero, List.set_cons_succ]
              refine wpAnyH_take (i := 41) (oi := { dst := some 88, op := Op.move (Operand.tmp 8), type := 3, pos := _, after := #[{ on := 39, ground := Ground.guard }], guard := some (39, false) }) (v := ?_) rfl (by kernel_rfl) (by kernel_rfl) (by kernel_rfl) (fun _ _ _ h => h) (Or.inl ⟨by rfl, ?hy⟩) (by assumption) ?_
              case hy => (intro w hSw; (try dsimp only at hSw); go_simp; try with_reducible rfl)
              try simp only [Act.put, List.setIfInBounds_toArray, List.set_cons_zero, List.set_cons_succ]
              refine wpAnyH_ready (rs := [42]) (by kernel_rfl) (by simp) ?_
              refine AllReadyH.cons (i := 42) (o := { dst := some 89, op := Op.call { callee := Callee.value (Operand.func 26), args := #[Operand.tmp 87, Operand.tmp 88], argTypes := #[23, 3] }, type := 4, pos := _, after := #[{ on := 40, ground := Ground.data }, { on := 41, ground := Ground.data }, { on := 39, ground := Ground.chain }, { on := 39, ground := Ground.guard }], guard := some (39, false) }) rfl (fun K hK => ?_) AllReadyH.nil
              go_simp
              go_at_call 26
              refine HOK.out.mono ?_
              rintro e w10 ⟨rfl, hgw⟩
              refine hK.out _ _ (HSS.out _ _ (by assumption) hgw) (fun hHeld => ?_)
              clear hK K
              try simp only [Act.put, List.setIfInBounds_toArray, List.set_cons_zero, List.set_cons_succ]
              refine wpAnyH_take (i := 43) (oi := { dst := some 90, op := Op.pick (Operand.tmp 86) (Operand.const (Value.bool true)) (Operand.tmp 89), type := 4, pos := _, after := #[{ on := 39, ground := Ground.data }, { on := 42, ground := Ground.data }], guard := none }) (v := .bool false) rfl (by kernel_rfl) (by kernel_rfl) (by kernel_rfl) (fun _ _ _ h => h) (Or.inl ⟨by rfl, ?hy⟩) (by assumption) ?_
              case hy => (intro w hSw; (try dsimp only at hSw); go_simp <;> (try with_reducible rfl) <;> (try simp [d1, d2]))
              try simp only [Act.put, List.setIfInBounds_toArray, List.set_cons_zero, List.set_cons_succ]
              refine wpAnyH_take (i := 44) (oi := { dst := some 91, op := Op.move (Operand.tmp 90), type := 4, pos := _, after := #[{ on := 43, ground := Ground.data }, { on := 42, ground := Ground.chain }], guard := none }) (v := .bool false) rfl (by kernel_rfl) (by kernel_rfl) (by kernel_rfl) (fun _ _ _ h => h) (Or.inl ⟨by rfl, ?hy⟩) (by assumption) ?_
              case hy => (intro w hSw; (try dsimp only at hSw); go_simp <;> (try with_reducible rfl) <;> (try simp [d1, d2]))
              try simp only [Act.put, List.setIfInBounds_toArray, List.set_cons_zero, List.set_cons_succ]
              refine wpAnyH_take (i := 45) (oi := { dst := some 92, op := Op.move (Operand.tmp 7), type := 3, pos := _, after := #[{ on := 44, ground := Ground.guard }], guard := some (44, false) }) (v := ?_) rfl (by kernel_rfl) (by kernel_rfl) (by kernel_rfl) (fun _ _ _ h => h) (Or.inl ⟨by rfl, ?hy⟩) (by assumption) ?_
              case hy => (intro w hSw; (try dsimp only at hSw); go_simp; try with_reducible rfl)
              try simp only [Act.put, List.setIfInBounds_toArray, List.set_cons_zero, List.set_cons_succ]
              refine wpAnyH_take (i := 46) (oi := { dst := some 93, op := Op.binOp BinOp.gtr 3 (Operand.tmp 92) (Operand.const (Value.int IntKind.i64 0)) 3, type := 4, pos := _, after := #[{ on := 45, ground := Ground.data }, { on := 44, ground := Ground.guard }], guard := some (44, false) }) (v := .bool false) rfl (by kernel_rfl) (by kernel_rfl) (by kernel_rfl) (fun _ _ _ h => h) (Or.inl ⟨by rfl, ?hy⟩) (by assumption) ?_
              case hy => (intro w hSw; (try dsimp only at hSw); go_simp <;> (try with_reducible rfl) <;> (try simp [d1, d2]))
              try simp only [Act.put, List.setIfInBounds_toArray, List.set_cons_zero, List.set_cons_succ]
              refine wpAnyH_take (i := 47) (oi := { dst := some 94, op := Op.move (Operand.tmp 93), type := 4, pos := _, after := #[{ on := 46, ground := Ground.data }, { on := 44, ground := Ground.chain }, { on := 44, ground := Ground.guard }], guard := some (44, false) }) (v := .bool false) rfl (by kernel_rfl) (by kernel_rfl) (by kernel_rfl) (fun _ _ _ h => h) (Or.inl ⟨by rfl, ?hy⟩) (by assumption) ?_
              case hy => (intro w hSw; (try dsimp only at hSw); go_simp <;> (try with_reducible rfl) <;> (try simp [d1, d2]))
              try simp only [Act.put, List.setIfInBounds_toArray, List.set_cons_zero, List.set_cons_succ]
              refine wpAnyH_take (i := 48) (oi := { dst := some 95, op := Op.move (Operand.tmp 8), type := 3, pos := _, after := #[{ on := 47, ground := Ground.guard }], guard := some (47, true) }) (v := undef) rfl (by kernel_rfl) (by kernel_rfl) (by kernel_rfl) (fun _ _ _ h => h) (Or.inr ⟨by rfl, rfl⟩) (by assumption) ?_
              try simp only [Act.put, List.setIfInBounds_toArray, List.set_cons_zero, List.set_cons_succ]
              refine wpAnyH_take (i := 49) (oi := { dst := some 96, op := Op.move (Operand.tmp 4), type := 23, pos := _, after := #[{ on := 47, ground := Ground.guard }], guard := some (47, true) }) (v := undef) rfl (by kernel_rfl) (by kernel_rfl) (by kernel_rfl) (fun _ _ _ h => h) (Or.inr ⟨by rfl, rfl⟩) (by assumption) ?_
              try simp only [Act.put, List.setIfInBounds_toArray, List.set_cons_zero, List.set_cons_succ]
              refine wpAnyH_take (i := 50) (oi := { dst := some 97, op := Op.move (Operand.tmp 7), type := 3, pos := _, after := #[{ on := 47, ground := Ground.guard }], guard := some (47, true) }) (v := undef) rfl (by kernel_rfl) (by kernel_rfl) (by kernel_rfl) (fun _ _ _ h => h) (Or.inr ⟨by rfl, rfl⟩) (by assumption) ?_
              try simp only [Act.put, List.setIfInBounds_toArray, List.set_cons_zero, List.set_cons_succ]
              refine wpAnyH_take (i := 51) (oi := { dst := some 98, op := Op.binOp BinOp.sub 3 (Operand.tmp 97) (Operand.const (Value.int IntKind.i64 1)) 3, type := 3, pos := _, after := #[{ on := 50, ground := Ground.data }, { on := 47, ground := Ground.guard }], guard := some (47, true) }) (v := undef) rfl (by kernel_rfl) (by kernel_rfl) (by kernel_rfl) (fun _ _ _ h => h) (Or.inr ⟨by rfl, rfl⟩) (by assumption) ?_
              try simp only [Act.put, List.setIfInBounds_toArray, List.set_cons_zero, List.set_cons_succ]
              refine wpAnyH_take (i := 52) (oi := { dst := some 99, op := Op.indexAddr 23 (Operand.tmp 96) (Operand.tmp 98), type := 0, pos := _, after := #[{ on := 49, ground := Ground.data }, { on := 51, ground := Ground.data }, { on := 47, ground := Ground.guard }], guard := some (47, true) }) (v := undef) rfl (by kernel_rfl) (by kernel_rfl) (by kernel_rfl) (fun _ _ _ h => h) (Or.inr ⟨by rfl, rfl⟩) (by assumption) ?_
              try simp only [Act.put, List.setIfInBounds_toArray, List.set_cons_zero, List.set_cons_succ]
              refine wpAnyH_take (i := 53) (oi := { dst := some 100, op := Op.load 26 (Operand.tmp 99), type := 26, pos := _, after := #[{ on := 52, ground := Ground.data }, { on := 47, ground := Ground.guard }], guard := some (47, true) }) (v := undef) rfl (by kernel_rfl) (by kernel_rfl) (by kernel_rfl) (fun _ _ _ h => h) (Or.inr ⟨by rfl, rfl⟩) (by assumption) ?_
              try simp only [Act.put, List.setIfInBounds_toArray, List.set_cons_zero, List.set_cons_succ]
              refine wpAnyH_take (i := 54) (oi := { dst := some 101, op := Op.indexAddr 26 (Operand.tmp 100) (Operand.const (Value.int IntKind.i64 0)), type := 0, pos := _, after := #[{ on := 53, ground := Ground.data }, { on := 47, ground := Ground.guard }], guard := some (47, true) }) (v := undef) rfl (by kernel_rfl) (by kernel_rfl) (by kernel_rfl) (fun _ _ _ h => h) (Or.inr ⟨by rfl, rfl⟩) (by assumption) ?_
              try simp only [Act.put, List.setIfInBounds_toArray, List.set_cons_zero, List.set_cons_succ]
              refine wpAnyH_take (i := 55) (oi := { dst := some 102, op := Op.load 3 (Operand.tmp 101), type := 3, pos := _, after := #[{ on := 54, ground := Ground.data }, { on := 47, ground := Ground.guard }], guard := some (47, true) }) (v := undef) rfl (by kernel_rfl) (by kernel_rfl) (by kernel_rfl) (fun _ _ _ h => h) (Or.inr ⟨by rfl, rfl⟩) (by assumption) ?_
              try simp only [Act.put, List.setIfInBounds_toArray, List.set_cons_zero, List.set_cons_succ]
              refine wpAnyH_take (i := 56) (oi := { dst := some 103, op := Op.binOp BinOp.leq 3 (Operand.tmp 95) (Operand.tmp 102) 3, type := 4, pos := _, after := #[{ on := 48, ground := Ground.data }, { on := 55, ground := Ground.data }, { on := 47, ground := Ground.guard }], guard := some (47, true) }) (v := undef) rfl (by kernel_rfl) (by kernel_rfl) (by kernel_rfl) (fun _ _ _ h => h) (Or.inr ⟨by rfl, rfl⟩) (by assumption) ?_
              try simp only [Act.put, List.setIfInBounds_toArray, List.set_cons_zero, List.set_cons_succ]
              refine wpAnyH_take (i := 57) (oi := { dst := some 104, op := Op.pick (Operand.tmp 94) (Operand.tmp 103) (Operand.const (Value.bool false)), type := 4, pos := _, after := #[{ on := 47, ground := Ground.data }, { on := 56, ground := Ground.data }, { on := 44, ground := Ground.guard }], guard := some (44, false) }) (v := .bool false) rfl (by kernel_rfl) (by kernel_rfl) (by kernel_rfl) (fun _ _ _ h => h) (Or.inl ⟨by rfl, ?hy⟩) (by assumption) ?_
              case hy => (intro w hSw; (try dsimp only at hSw); go_simp <;> (try with_reducible rfl) <;> (try simp [d1, d2]))
              try simp only [Act.put, List.setIfInBounds_toArray, List.set_cons_zero, List.set_cons_succ]
              refine wpAnyH_take (i := 58) (oi := { dst := some 105, op := Op.pick (Operand.tmp 91) (Operand.const (Value.bool true)) (Operand.tmp 104), type := 4, pos := _, after := #[{ on := 44, ground := Ground.data }, { on := 57, ground := Ground.data }], guard := none }) (v := .bool false) rfl (by kernel_rfl) (by kernel_rfl) (by kernel_rfl) (fun _ _ _ h => h) (Or.inl ⟨by rfl, ?hy⟩) (by assumption) ?_
              case hy => (intro w hSw; (try dsimp only at hSw); go_simp <;> (try with_reducible rfl) <;> (try simp [d1, d2]))
              try simp only [Act.put, List.setIfInBounds_toArray, List.set_cons_zero, List.set_cons_succ]
              refine wpAnyH_done (by kernel_rfl) ?_ _
              refine NoPanic.normal ?_
              have HN : Hid (Grew w9 w10) := Lib.hid (HX.out.drew.trans hgw)
              clear hgw HX
              go_wp2
              go_roundw
              case rel => exact ⟨1, by omega, by go_num, HN.out⟩
              case measure => simp [intOf]; omega
            · obtain ⟨j, cj, b4, o4, c4, t1, t2, _, _, _, _, t7, x1, x2, _, _⟩ := key k' (by omega)
              have has := HLF.out.asc k' (by rw [HEN.out]; exact hlt)
              rw [t1, r1] at has
              simp only [List.getD_cons_zero] at has
              have d3 : decide ((i : Int) ≤ (j : Int)) = false := decide_eq_false (by omega)
              have d4 : decide ((0 : Int) < ((k' + 1 : Nat) : Int)) = true := decide_eq_true (by omega)
              have hwk : IntKind.i64.wrap (((k' : Int) + 1) - 1) = (k' : Int) := by
                rw [IntKind.wrap_i64]; omega
              rw [ex] at hcp
              rw [ey] at hcf y4
              have HSS : Hid (∀ W W' : World, (W.cell? ⟨bm, om + (k' + 1), none⟩ = some (.slice (some ⟨b3, o3, none⟩) 3 c3) ∧ W.cell? ⟨b3, o3, none⟩ = some (.int .i64 i) ∧ W.cell? ⟨b3, o3 + 1, none⟩ = some (.int .i64 c) ∧ W.cell? ⟨b3, o3 + 2, none⟩ = some (.int .i64 y) ∧ W.cell? ⟨g8, i, none⟩ = some (.int .i64 y) ∧ W.cell? ⟨g9, i, none⟩ = some (.int .i64 x) ∧ W.cell? ⟨bm, om + k', none⟩ = some (.slice (some ⟨b4, o4, none⟩) 3 c4) ∧ W.cell? ⟨b4, o4, none⟩ = some (.int .i64 j)) → Grew W W' → (W'.cell? ⟨bm, om + (k' + 1), none⟩ = some (.slice (some ⟨b3, o3, none⟩) 3 c3) ∧ W'.cell? ⟨b3, o3, none⟩ = some (.int .i64 i) ∧ W'.cell? ⟨b3, o3 + 1, none⟩ = some (.int .i64 c) ∧ W'.cell? ⟨b3, o3 + 2, none⟩ = some (.int .i64 y) ∧ W'.cell? ⟨g8, i, none⟩ = some (.int .i64 y) ∧ W'.cell? ⟨g9, i, none⟩ = some (.int .i64 x) ∧ W'.cell? ⟨bm, om + k', none⟩ = some (.slice (some ⟨b4, o4, none⟩) 3 c4) ∧ W'.cell? ⟨b4, o4, none⟩ = some (.int .i64 j))) := Lib.hid fun W W' q g => ⟨g.cell q.1, g.cell q.2.1, g.cell q.2.2.1, g.cell q.2.2.2.1, g.cell q.2.2.2.2.1, g.cell q.2.2.2.2.2.1, g.cell q.2.2.2.2.2.2.1, g.cell q.2.2.2.2.2.2.2⟩
              have hk'n : (k' : Int) < (n : Int) := by omega
              have hk'0 : (0 : Int) ≤ (k' : Int) := by omega
              have hwk2 : IntKind.i64.wrap (k' : Int) = (k' : Int) := by rw [IntKind.wrap_i64]; omega
              have hwk3 : (k' : Int) + 1 - 1 = (k' : Int) := by omega
              have v1 : (k' : Int) + 1 < (n : Int) := by omega
              have v2 : (0 : Int) ≤ (k' : Int) + 1 := by omega
              have v3 : ((k' : Int) + 1).toNat = k' + 1 := by omega
              have v4 : (0 : Int) < (k' : Int) + 1 := by omega
              have v5 : decide ((0 : Int) < (k' : Int) + 1) = true := decide_eq_true v4
              clear key r1 t1 ex ey r6
              go_wp2_with (fail)
              go_region_held3 (fun W => W.cell? ⟨bm, om + (k' + 1), none⟩ = some (.slice (some ⟨b3, o3, none⟩) 3 c3) ∧ W.cell? ⟨b3, o3, none⟩ = some (.int .i64 i) ∧ W.cell? ⟨b3, o3 + 1, none⟩ = some (.int .i64 c) ∧ W.cell? ⟨b3, o3 + 2, none⟩ = some (.int .i64 y) ∧ W.cell? ⟨g8, i, none⟩ = some (.int .i64 y) ∧ W.cell? ⟨g9, i, none⟩ = some (.int .i64 x) ∧ W.cell? ⟨bm, om + k', none⟩ = some (.slice (some ⟨b4, o4, none⟩) 3 c4) ∧ W.cell? ⟨b4, o4, none⟩ = some (.int .i64 j))
                (first
                  | exact ⟨y1, y2, y3, y4, hcf, hcp, x1, x2⟩
                  | assumption
                  | exact HSS.out _ _ (by assumption) hgw)
                (first
                  | (go_at_call 26; refine HOK.out.mono ?_; rintro e w10 ⟨rfl, hgw⟩))
              have HN : Hid (Grew w9 w10) := Lib.hid (HX.out.drew.trans hgw)
              clear hgw HX
              go_wp2
              go_roundw
              case rel => exact ⟨k' + 1 + 1, by omega, by go_num, HN.out⟩
              case measure => simp [intOf]; omega
          · obtain rfl : k = n := by omega
            go_wp2
            go_ret
            exact ⟨rfl, H4.out.2.2.trans (H9.out.2.2.trans HX.out)⟩
end Go.Proofs.YtgecghngfonejaaDoor
