/- The contract of impl.ZeroSand. -/
import Derived.Test.YthgafljbbkgldaaDoorSandI
import Derived.Test.YthgafljbbkgldaaDoorRepeat
import Derived.Lib.MinMax
namespace Go.Proofs.YthgafljbbkgldaaDoor
open Go.RowKit

/-- Rows of sand are sand. -/
theorem vSand_shape {n m : Nat} {x : List Int} (hb : Box n m) (hl : x.length = n * m) (hx : ∀ j, j < n * m → 0 ≤ x.getD j 0 ∧ x.getD j 0 ≤ 9) : vSand (shapeL x m n) = true := by
  have hrow : ∀ r, r < n → ((shapeL x m n).getD r []).length = m := fun r hr => shapeL_row _ _ _ _ hl hr
  have h0 := hrow 0 hb.1.1
  unfold vSand vRows
  rw [Bool.and_eq_true, Bool.and_eq_true, decide_eq_true_eq, decide_eq_true_eq, h0, shapeL_len]
  refine ⟨hb.1, all_of_get [] fun r hr => ?_⟩
  rw [shapeL_len] at hr
  rw [Bool.and_eq_true, decide_eq_true_eq]
  refine ⟨hrow r hr, ?_⟩
  unfold vNums
  rw [Bool.and_eq_true, Bool.and_eq_true, decide_eq_true_eq, decide_eq_true_eq, hrow r hr]
  refine ⟨⟨hb.2.1, by have := hb.2.2; omega⟩, all_of_get 0 fun c hc => ?_⟩
  rw [hrow r hr] at hc
  rw [shapeL_at _ _ _ _ hr, cut_at _ _ _ _ hc]
  have hlt : r * m + c < n * m := by
    have := Nat.mul_le_mul_right m (show r + 1 ≤ n from hr)
    rw [Nat.succ_mul] at this
    omega
  have := hx _ hlt
  simp [okN] at this ⊢
  omega
theorem shape_first {n m : Nat} {x : List Int} (hb : Box n m) (hl : x.length = n * m) : ((shapeL x m n).getD 0 []).length = m := shapeL_row _ _ _ _ hl hb.1.1
theorem calmX_shape {n m : Nat} {x : List Int} (hb : Box n m) (hl : x.length = n * m) (hx : ∀ j, j < n * m → 0 ≤ x.getD j 0 ∧ x.getD j 0 ≤ 9) : calmX (shapeL x m n) = shapeL (calmL n m x) m n := by
  rw [calmX, if_pos (vSand_shape hb hl hx), shape_first hb hl, shapeL_len, shapeL_flat _ _ _ hl]
theorem shapeL_put {n m : Nat} {z : List Int} {k j : Nat} (hk : k < n) (hj : j < m) (v : Int) : (shapeL z m n).set k (((shapeL z m n).getD k []).set j v) = shapeL (z.set (k * m + j) v) m n := by
  apply List.ext_getElem
  · rw [List.length_set, shapeL_len, shapeL_len]
  · intro r h1 h2
    rw [shapeL_len] at h2
    have hg : ∀ z : List Int, ∀ h : r < (shapeL z m n).length, (shapeL z m n)[r] = (z.drop (r * m)).take m := fun z h => by
      have := shapeL_at z m n r h2
      simpa [h] using this
    rw [List.getElem_set, hg _ (by rw [shapeL_len]; exact h2), hg, shapeL_at _ _ _ _ hk]
    have hrm : r * m + m ≤ n * m := by
      have := Nat.mul_le_mul_right m (show r + 1 ≤ n from h2)
      rw [Nat.succ_mul] at this
      exact this
    apply List.ext_getElem
    · split <;> simp
      · next e => subst e; simp
    · intro i h3 h4
      have hi : i < m := by simp at h4; omega
      rw [List.getElem_take, List.getElem_drop, List.getElem_set]
      by_cases e : k = r
      · subst e
        simp only [if_true, List.getElem_set, List.getElem_take, List.getElem_drop]
        by_cases e2 : j = i
        · subst e2; simp
        · simp [e2]
      · simp only [e, if_false, List.getElem_take, List.getElem_drop]
        have e3 : ¬ k * m + j = r * m + i := by
          intro he
          have h5 : (k * m + j) / m = k := by rw [Nat.mul_comm, Nat.mul_add_div (by omega), Nat.div_eq_of_lt hj]; rfl
          have h6 : (r * m + i) / m = r := by rw [Nat.mul_comm, Nat.mul_add_div (by omega), Nat.div_eq_of_lt hi]; rfl
          rw [he, h6] at h5
          exact e h5.symm
        simp [e3]
/-- The first k differences. -/
def lessK (x y : List Int) (k : Nat) : List Int := (List.zipWith (· - ·) x y).take k ++ x.drop k
theorem lessK_len {N : Nat} {x y : List Int} (hx : x.length = N) (hy : y.length = N) (k : Nat) (hk : k ≤ N) : (lessK x y k).length = N := by
  simp [lessK, hx, hy]
  omega
theorem lessK_succ {N : Nat} {x y : List Int} (hx : x.length = N) (hy : y.length = N) (k : Nat) (hk : k < N) : lessK x y (k + 1) = (lessK x y k).set k (x.getD k 0 - y.getD k 0) := by
  apply List.ext_getElem
  · rw [lessK_len hx hy _ (by omega), List.length_set, lessK_len hx hy _ (by omega)]
  · intro i h1 h2
    rw [List.getElem_set]
    have h3 : i < N := by rwa [lessK_len hx hy _ (by omega)] at h1
    by_cases e : k = i
    · subst e
      rw [if_pos rfl]
      simp only [lessK]
      rw [List.getElem_append_left (by simp; omega), List.getElem_take, List.getElem_zipWith]
      simp [hx, hy, hk]
    · rw [if_neg e]
      simp only [lessK]
      by_cases hlt : i < k
      · rw [List.getElem_append_left (by simp; omega), List.getElem_append_left (by simp; omega), List.getElem_take, List.getElem_take]
      · rw [List.getElem_append_right (by simp; omega), List.getElem_append_right (by simp; omega), List.getElem_drop, List.getElem_drop]
        congr 1
        simp only [List.length_take, List.length_zipWith, hx, hy]
        omega
theorem lessK_at {N : Nat} {x y : List Int} (hx : x.length = N) (hy : y.length = N) (k : Nat) (hk : k < N) : (lessK x y k).getD k 0 = x.getD k 0 := by
  simp only [lessK, List.getD_eq_getElem?_getD]
  rw [List.getElem?_append_right (by simp; omega), List.getElem?_drop]
  congr 2
  simp only [List.length_take, List.length_zipWith, hx, hy]
  omega
theorem lessK_all {N : Nat} {x y : List Int} (hx : x.length = N) (hy : y.length = N) : lessK x y N = List.zipWith (· - ·) x y := by
  unfold lessK
  rw [List.take_of_length_le (by simp; omega), List.drop_of_length_le (by omega), List.append_nil]

/-- What ZeroSand answers. -/
def zeroX (r c : Int) : List (List Int) := if 1 ≤ r ∧ r ≤ 4 ∧ 1 ≤ c ∧ c ≤ 4 then shapeL (zeroL r.toNat c.toNat) c.toNat r.toNat else []
theorem six_sandy {n m : Nat} (hb : Box n m) : Sandy n m (List.replicate (n * m) 6) ∧ ∀ j, j < n * m → 0 ≤ (List.replicate (n * m) (6 : Int)).getD j 0 ∧ (List.replicate (n * m) (6 : Int)).getD j 0 ≤ 9 := by
  have : ∀ j, j < n * m → (List.replicate (n * m) (6 : Int)).getD j 0 = 6 := fun j hj => by simp [List.getD_eq_getElem?_getD, hj]
  exact ⟨⟨hb, by simp, fun j hj => by rw [this j hj]; omega⟩, fun j hj => by rw [this j hj]; omega⟩
theorem rest_sandy {n m : Nat} (hb : Box n m) : Sandy n m (restL n m) ∧ ∀ j, j < n * m → 0 ≤ (restL n m).getD j 0 ∧ (restL n m).getD j 0 ≤ 9 := by
  obtain ⟨h1, h2, _⟩ := zero_facts hb
  exact ⟨⟨hb, h1, fun j hj => by have := h2 j hj; omega⟩, fun j hj => by have := h2 j hj; omega⟩

set_option maxRecDepth 100000 in
set_option maxHeartbeats 8000000 in
theorem ZeroSand_any (r c : Int) (w : World) (hr : -9223372036854775808 ≤ r ∧ r ≤ 9223372036854775807) (hc : -9223372036854775808 ≤ c ∧ c ≤ 9223372036854775807) (hS : Steps w) :
    Calls Tryd.prog 37 #[.int .i64 r, .int .i64 c] w (NewRows w (zeroX r c)) := by
  have HS := Lib.hid hS
  clear hS
  by_cases hok : 1 ≤ r ∧ r ≤ 4 ∧ 1 ≤ c ∧ c ≤ 4
  · obtain ⟨n, rfl⟩ := Int.eq_ofNat_of_zero_le (show 0 ≤ r by omega)
    obtain ⟨m, rfl⟩ := Int.eq_ofNat_of_zero_le (show 0 ≤ c by omega)
    have hb : Box n m := ⟨⟨by omega, by omega⟩, by omega, by omega⟩
    have HB := Lib.hid hb
    have HE : Hid (shapeL (zeroL n m) m n = zeroX n m) := Lib.hid (by rw [zeroX, if_pos hok]; simp)
    obtain ⟨N, eN⟩ : ∃ N, n * m = N := ⟨_, rfl⟩
    have hN1 : 1 ≤ N := by rw [← eN]; exact Nat.mul_pos hb.1.1 hb.2.1
    have hN16 : N ≤ 16 := by rw [← eN]; exact Nat.mul_le_mul hb.1.2 hb.2.2
    have hmul : (n : Int) * (m : Int) = (N : Int) := by rw [← eN]; simp
    have hw1 : IntKind.i64.wrap ((n : Int) * (m : Int)) = (N : Int) := by rw [hmul, IntKind.wrap_i64]; omega
    have HN := Lib.hid eN
    have h1 : decide (min (n : Int) (m : Int) < 1) = false := decide_eq_false (by simp only [Int.min_def]; split <;> omega)
    have h2 : decide ((4 : Int) < max (n : Int) (m : Int)) = false := decide_eq_false (by simp only [Int.max_def]; split <;> omega)
    have hsx := six_sandy hb
    rw [eN] at hsx
    have HSX := Lib.hid hsx
    have hm1 := hb.2.1
    have hm4 := hb.2.2
    have hn4 := hb.1.2
    have hn1 := hb.1.1
    clear hok hb eN hr hc hsx
    go_enter Tryd.func37, Tryd.ntmps37
    go_wp2_with (fail)
    refine (slicesRepeat_any w.heap.size 0 1 6 N _ (by simp) hN1 (by omega)).mono ?_
    rintro e w1 ⟨g1, c1, rfl, hO1, hg1⟩
    rw [List.length_replicate] at hO1 ⊢
    have HIR := Lib.hid (inRows_own hO1 (by omega) hm1 (by omega) HN.out)
    have H1 : Hid (Grew w w1) := Lib.hid (((Grew.refl _).alloc _).trans hg1)
    clear hO1 hg1
    go_wp2_with (fail)
    refine HIR.out.mono ?_
    rintro e w2 ⟨v2, rfl, hO2, hg2⟩
    have HCF : Hid (Calls Tryd.prog 18 #[v2] w2 (NewRows w2 (shapeL (calmL n m (List.replicate N 6)) m n))) := by
      have := CalmFirst_any v2 _ w2 hO2.toV (HS.out.grew (H1.out.trans hg2))
      rw [calmX_shape HB.out (by rw [HN.out]; simp) (by rw [HN.out]; exact HSX.out.2)] at this
      exact this
    have H2 := Lib.hid (And.intro hO2 (H1.out.trans hg2))
    obtain ⟨a2, c2, e2⟩ := hO2.sh
    rw [shapeL_len] at e2
    clear hO2 hg2
    subst e2
    go_wp2_with (fail)
    refine HCF.out.mono ?_
    rintro e w3 ⟨v3, rfl, hO3, hg3⟩
    obtain ⟨a3, c3, e3⟩ := hO3.sh
    rw [shapeL_len] at e3
    subst e3
    have H3 := Lib.hid (And.intro (H2.out.1.grew hg3) (And.intro hO3 (H2.out.2.trans hg3)))
    have hcl : (calmL n m (List.replicate N 6)).length = N := by
      have := HSX.out.1.calm_len
      rwa [HN.out] at this
    have hcn : ∀ j, j < N → 0 ≤ (calmL n m (List.replicate N 6)).getD j 0 ∧ (calmL n m (List.replicate N 6)).getD j 0 ≤ 3 := fun j hj => HSX.out.1.calm_num j (by rw [HN.out]; exact hj)
    have hrl : List.zipWith (· - ·) (List.replicate N 6) (calmL n m (List.replicate N 6)) = restL n m := by rw [restL, HN.out]
    obtain ⟨y, ey⟩ : ∃ y, calmL n m (List.replicate N 6) = y := ⟨_, rfl⟩
    rw [ey] at H3 hcl hcn hrl
    have HY := Lib.hid (And.intro hcl (And.intro hcn hrl))
    have hxl : Hid ((List.replicate N (6 : Int)).length = N ∧ ∀ j, j < N → (List.replicate N (6 : Int)).getD j 0 = 6) := Lib.hid ⟨by simp, fun j hj => by simp [List.getD_eq_getElem?_getD, hj]⟩
    obtain ⟨x, ex⟩ : ∃ x, List.replicate N (6 : Int) = x := ⟨_, rfl⟩
    rw [ex] at H3 HY hxl
    have HX := hxl
    clear hO3 hg3 hcl hcn hrl ey ex hxl HIR HCF H2 HSX
    obtain ⟨g2, c2', eg2, hg2a, hg2b, _⟩ := H3.out.1.pos (by rw [shapeL_len]; omega)
    obtain ⟨g3, c3', eg3, hg3a, hg3b, _⟩ := H3.out.2.1.pos (by rw [shapeL_len]; omega)
    simp only [Value.slice.injEq] at eg2 eg3
    obtain ⟨rfl, -, -⟩ := eg2
    obtain ⟨rfl, -, -⟩ := eg3
    go_wp2_with (fail)
    go_loopg [30] n (fun gk kv wr => ∃ k : Nat, kv = .int .i64 k ∧ k ≤ n ∧ n ≤ gk + k ∧ Hid (RowsO 27 3 w1.heap.size w2.heap.size wr (.slice (some ⟨g2, 0, none⟩) n c2) (shapeL (lessK x y (k * m)) m n) ∧ Within w1.heap.size w2.heap.size w3 wr))
    case atStart => exact ⟨0, rfl, Nat.zero_le _, Nat.le_refl _, by simpa [lessK] using H3.out.1, Within.refl _ _ _⟩
    case round =>
      obtain ⟨k, rfl, hk, hgk, HI⟩ := hrel
      by_cases hlt : k < n
      · obtain ⟨gn, rfl⟩ : ∃ gn : Nat, gn = gk := ⟨_, rfl⟩
        obtain ⟨wo, rfl⟩ : ∃ wo : World, wo = wr := ⟨_, rfl⟩
        have hkm : k * m + m ≤ N := by
          have := Nat.mul_le_mul_right m (show k + 1 ≤ n from hlt)
          rw [Nat.succ_mul, HN.out] at this
          exact this
        obtain ⟨u3, hu3, hr3⟩ := H3.out.2.1.at rfl (i := k) (by rw [shapeL_len]; exact hlt)
        obtain ⟨g4, c4, e4, hg4a, hg4b, hlc4, hcb4⟩ := hr3.pos (by rw [shapeL_row _ _ _ _ (by rw [HN.out]; exact HY.out.1) hlt]; omega)
        rw [shapeL_row _ _ _ _ (by rw [HN.out]; exact HY.out.1) hlt] at e4
        subst e4
        have hck := HI.out.2.cell hu3 (.inr (by show _ ≤ g3; omega))
        have HR3 : Hid (∀ j, j < m → w3.cell? ⟨g4, j, none⟩ = some (.int .i64 (y.getD (k * m + j) 0))) := Lib.hid fun j hj => by
          have := (hr3.at rfl (i := j) (by rw [shapeL_row _ _ _ _ (by rw [HN.out]; exact HY.out.1) hlt]; exact hj)).1
          rw [shapeL_at _ _ _ _ hlt, cut_at _ _ _ _ hj] at this
          exact this
        have HG4 := Lib.hid hg4a
        have hki : (k : Int) < n := by omega
        clear hr3 hu3 hg4a hg4b hlc4
        go_wp2_with (fail)
        go_loopg [37] m (fun gk kv wi => ∃ j : Nat, kv = .int .i64 j ∧ j ≤ m ∧ m ≤ gk + j ∧ Hid (RowsO 27 3 w1.heap.size w2.heap.size wi (.slice (some ⟨g2, 0, none⟩) n c2) (shapeL (lessK x y (k * m + j)) m n) ∧ Within w1.heap.size w2.heap.size w3 wi))
        case atStart => exact ⟨0, rfl, Nat.zero_le _, Nat.le_refl _, HI.out⟩
        case round =>
          obtain ⟨j, rfl, hj, hgj, HJ⟩ := hrel
          by_cases hjm : j < m
          · have hyc := HJ.out.2.cell (HR3.out j hjm) (.inr (by have := HG4.out; show _ ≤ g4; omega))
            have hkj : k * m + j < N := by omega
            have hyn := HY.out.2.1 (k * m + j) hkj
            obtain ⟨u5, hu5, hr5⟩ := HJ.out.1.at rfl (i := k) (by rw [shapeL_len]; exact hlt)
            have hll : ((shapeL (lessK x y (k * m + j)) m n).getD k []).length = m := shapeL_row _ _ _ _ (by rw [HN.out]; exact lessK_len HX.out.1 HY.out.1 _ (by omega)) hlt
            obtain ⟨g5, c5, e5, hg5a, hg5b, hlc5, hcb5⟩ := hr5.pos (by rw [hll]; omega)
            rw [hll] at e5
            subst e5
            have hz := hr5.at rfl (i := j) (by rw [hll]; exact hjm)
            have hz1 := hz.1
            have hz2 := hz.2
            rw [shapeL_at _ _ _ _ hlt, cut_at _ _ _ _ hjm, lessK_at HX.out.1 HY.out.1 _ hkj, HX.out.2 _ hkj] at hz1
            have HO := HJ.out.1.set (by decide) rfl (by rw [shapeL_len]; exact hlt) hu5 j (6 - y.getD (k * m + j) 0)
            rw [shapeL_put hlt hjm] at HO
            have hsc := lessK_succ HX.out.1 HY.out.1 (k * m + j) hkj
            rw [HX.out.2 _ hkj] at hsc
            rw [← hsc] at HO
            have HO2 := Lib.hid (And.intro HO (HJ.out.2.setCell (p := ⟨g5, j, none⟩) hg5a hg5b (.int .i64 (6 - y.getD (k * m + j) 0))))
            obtain ⟨yk, eyk⟩ : ∃ t, y.getD (k * m + j) 0 = t := ⟨_, rfl⟩
            rw [eyk] at hyc hyn HO2
            have q1 : IntKind.i64.wrap (6 - yk) = 6 - yk := by rw [IntKind.wrap_i64]; omega
            have hji : (j : Int) < m := by omega
            clear hr5 hll hz HO hsc eyk hkj
            go_wp2
            go_roundg (gk - 1)
            case measure => omega
            case rel => exact ⟨j + 1, by go_num, by omega, by omega, HO2.out⟩
          · obtain rfl : j = m := by omega
            have HZ : Hid (RowsO 27 3 w1.heap.size w2.heap.size wr (.slice (some ⟨g2, 0, none⟩) n c2) (shapeL (lessK x y ((k + 1) * j)) j n) ∧ Within w1.heap.size w2.heap.size w3 wr) := Lib.hid (by rw [Nat.succ_mul]; exact HJ.out)
            go_wp2
            go_roundg (gn - 1)
            case measure => omega
            case rel => exact ⟨k + 1, by go_num, by omega, by omega, HZ.out⟩
      · obtain rfl : k = n := by omega
        have hO := HI.out.1
        rw [HN.out, lessK_all HX.out.1 HY.out.1, HY.out.2.2] at hO
        have hG : Grew w wr := Within.grew H3.out.2.2 HI.out.2 H1.out.size
        have hrs := rest_sandy HB.out
        have HCF : Hid (Calls Tryd.prog 18 #[.slice (some ⟨g2, 0, none⟩) k c2] wr (NewRows wr (shapeL (zeroL k m) m k))) := by
          have := CalmFirst_any _ _ wr hO.toV (HS.out.grew hG)
          rw [calmX_shape HB.out hrs.1.len hrs.2] at this
          exact this
        have HG := Lib.hid hG
        clear hO hG hrs
        go_wp2_with (fail)
        refine HCF.out.mono ?_
        rintro e w6 ⟨v6, rfl, hO6, hg6⟩
        obtain ⟨a6, c6, rfl⟩ := hO6.sh
        have HF := Lib.hid (And.intro (hO6.wide HG.out.size (Nat.le_refl _)) (HG.out.trans hg6))
        clear hO6 hg6
        go_wp2
        go_ret
        rw [← HE.out]
        exact ⟨_, rfl, HF.out⟩
  · have HE : Hid (zeroX r c = []) := Lib.hid (by rw [zeroX, if_neg hok])
    by_cases h1 : min r c < 1
    · clear hok
      go_enter Tryd.func37, Tryd.ntmps37
      go_wp2
      go_ret
      rw [HE.out]
      exact ⟨_, rfl, RowsO.nil _ _ _ _ _, Grew.refl _⟩
    · have h2 : (4 : Int) < max r c := by
        simp only [Int.min_def, Int.max_def] at h1 ⊢
        split at h1 <;> split <;> omega
      clear hok
      go_enter Tryd.func37, Tryd.ntmps37
      go_wp2
      go_ret
      rw [HE.out]
      exact ⟨_, rfl, RowsO.nil _ _ _ _ _, Grew.refl _⟩
end Go.Proofs.YthgafljbbkgldaaDoor
