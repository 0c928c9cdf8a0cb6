/- The contract of impl.part.setTo. -/
import Derived.Test.YtlfoimjohdaofaaDoorSumsOf
import Derived.Test.YtlfoimjohdaofaaDoorReadM
namespace Go.Proofs.YtlfoimjohdaofaaDoor
open Go.RowKit

/-- A row lies in another block than the rows. -/
theorem RowsO.other {T E lo hi : Nat} (hTE : T ≠ E) {w : World} {v : Value} {H : List (List Int)} (hv : RowsO T E lo hi w v H) {gv cv nv : Nat} (hsv : v = .slice (some ⟨gv, 0, none⟩) nv cv) {i : Nat} (hi' : i < H.length) {g c n : Nat}
    (hu : w.cell? ⟨gv, i, none⟩ = some (.slice (some ⟨g, 0, none⟩) n c)) : gv ≠ g := by
  obtain ⟨V, h1, h2, h3, h4⟩ := hv
  have eV : V i = .slice (some ⟨g, 0, none⟩) n c := by
    subst hsv
    have hn : nv = H.length := by
      rcases h1.2 with ⟨e, _⟩ | ⟨_, _, _, e, _⟩
      · cases e
      · cases e; rfl
    subst hn
    rw [World.ownsRow.cellAt h1 i (by omega)] at hu
    simpa [hi'] using hu
  have hb : (V i).ownBlock = some g := by rw [eV]; rfl
  intro e
  exact ownsRow_int_block hTE h1 (h3 i hi').1 g hb (by rw [hsv, e]; rfl)

set_option maxRecDepth 100000 in
set_option maxHeartbeats 4000000 in
theorem setTo_any (v : Value) (n m : Nat) (f : Nat → Nat → Int) (t b l r : Nat) (x : Int) (lo hi : Nat) (w : World) (hn1 : 1 ≤ n) (hn5 : n ≤ 5) (hm1 : 1 ≤ m) (hm5 : m ≤ 5)
    (hO : RowsO 28 3 lo hi w v (tabR n m f)) (hhi : hi ≤ w.heap.size) (htb : t ≤ b) (hb : b ≤ n) (hlr : l ≤ r) (hr : r ≤ m) :
    Calls Tryd.prog 57 #[.agg #[.int .i64 t, .int .i64 b, .int .i64 l, .int .i64 r], v, .int .i64 x] w fun e w' => e = .returned (.tuple #[]) ∧ RowsO 28 3 lo hi w' v (tabR n m (setP f t b l r x)) ∧ Within lo hi w w' := by
  obtain ⟨g, sc, rfl, hgl, hgh, hlc, hcb⟩ := hO.pos (by rw [tabR_len]; omega)
  rw [tabR_len] at hlc hO ⊢
  have r1 : (t : Int) ≤ b := by omega
  have r2 : (b : Int) ≤ sc := by omega
  have r4 : (t : Int) ≤ sc := by omega
  have HE := Lib.hid (midP_end f t b l r x)
  have HR := Lib.hid (midP_row f t l r x)
  have HN := Lib.hid (midP_next f t l r x)
  have HHI := Lib.hid hhi
  obtain ⟨W1, hW1⟩ : ∃ W1, w.alloc (.cells #[.int .i64 t, .int .i64 b, .int .i64 l, .int .i64 r] 44) = W1 := ⟨_, rfl⟩
  have HG1 : Hid (Grew w W1) := by rw [← hW1]; exact Lib.hid ((Grew.refl w).alloc _)
  have HB : Hid (∀ W, Within lo hi W1 W → W.cell? ⟨w.heap.size, 2, none⟩ = some (.int .i64 l) ∧ W.cell? ⟨w.heap.size, 3, none⟩ = some (.int .i64 r)) := Lib.hid fun W hW =>
    ⟨hW.cell (by rw [← hW1]; simp) (.inr hhi), hW.cell (by rw [← hW1]; simp) (.inr hhi)⟩
  have H0 : Hid (RowsO 28 3 lo hi W1 (.slice (some ⟨g, 0, none⟩) n sc) (tabR n m (midP f t l r x t l)) ∧ Within lo hi W1 W1) := by
    rw [midP_start]
    exact Lib.hid ⟨hO.grew HG1.out, Within.refl _ _ _⟩
  have HF : Hid (∀ W F, F = setP f t b l r x → RowsO 28 3 lo hi W (.slice (some ⟨g, 0, none⟩) n sc) (tabR n m F) ∧ Within lo hi W1 W →
      RowsO 28 3 lo hi W (.slice (some ⟨g, 0, none⟩) n sc) (tabR n m (setP f t b l r x)) ∧ Within lo hi w W) := Lib.hid fun W F e h => by
    subst e
    exact ⟨h.1, (HG1.out.within lo hi).trans h.2⟩
  have HW1 := Lib.hid hW1
  clear hO hhi hW1
  by_cases hct : sc = t
  · have et : b = t := by omega
    subst et
    subst hct
    have HFF := Lib.hid (HF.out W1 _ HE.out H0.out)
    clear HF H0 HE HR HN HB HG1
    go_enter Tryd.func57, Tryd.ntmps57
    go_wp2
    rw [HW1.out]
    refine wp_loop_rounds 1 ?_
    rw [rounds_succ]
    go_wp2
    go_end0
    exact ⟨rfl, HFF.out⟩
  · obtain ⟨K, eK⟩ : ∃ K, b - t = K := ⟨_, rfl⟩
    have HK : Hid (t + K = b) := Lib.hid (by omega)
    have HKN : Hid (∀ k, k < K → t + k < n) := Lib.hid fun k hk => by omega
    have HLR : Hid (l ≤ r ∧ r ≤ m) := Lib.hid ⟨hlr, hr⟩
    go_enter Tryd.func57, Tryd.ntmps57
    go_wp2
    rw [HW1.out]
    clear HW1 eK
    go_loopg [18] K (fun gk iv wr => ∃ k : Nat, iv = .int .i64 (k : Int) ∧ k ≤ K ∧ K ≤ gk + k ∧ Hid (RowsO 28 3 lo hi wr (.slice (some ⟨g, 0, none⟩) n sc) (tabR n m (midP f t l r x (t + k) l)) ∧ Within lo hi W1 wr))
    case atStart => exact ⟨0, rfl, Nat.zero_le _, Nat.le_refl _, H0⟩
    case round =>
      obtain ⟨k, rfl, hk1, hk2, HI⟩ := hrel
      by_cases hlt : k < K
      · have hki : (k : Int) < K := by omega
        obtain ⟨T, eT⟩ : ∃ T, t + k = T := ⟨_, rfl⟩
        have HT := Lib.hid eT
        have hTn : T < n := by rw [← eT]; exact HKN.out k hlt
        rw [eT] at HI
        obtain ⟨u, hcu, hU⟩ := HI.out.1.at rfl (i := T) (by rw [tabR_len]; exact hTn)
        obtain ⟨g1, c1, rfl, hg1l, hg1h, hg1c, hg1b⟩ := hU.pos (by rw [tabR_rowlen _ _ _ _ hTn]; omega)
        rw [tabR_rowlen _ _ _ _ hTn] at hcu hg1c
        rw [← eT] at hcu
        obtain ⟨h2, h3⟩ := HB.out _ HI.out.2
        have HCU := Lib.hid (And.intro hg1l hg1h)
        have HKS := Lib.hid (And.intro hk1 hk2)
        have HTN := Lib.hid hTn
        have HOT : Hid (g ≠ g1) := Lib.hid (HI.out.1.other (by decide) rfl (by rw [tabR_len]; exact hTn) (by rw [← eT]; exact hcu))
        clear hU hg1l hg1h hk1 hk2
        clear eT
        go_wp2
        obtain ⟨D, eD⟩ : ∃ D, r - l = D := ⟨_, rfl⟩
        have HD : Hid (l + D = r) := Lib.hid (by omega)
        have HI0 : Hid (RowsO 28 3 lo hi wr (.slice (some ⟨g, 0, none⟩) n sc) (tabR n m (midP f t l r x T (l + 0))) ∧ Within lo hi W1 wr ∧ wr.cell? ⟨g, T, none⟩ = some (.slice (some ⟨g1, 0, none⟩) m c1)) := Lib.hid ⟨HI.out.1, HI.out.2, by rw [← HT.out]; exact hcu⟩
        clear eD
        obtain ⟨og, eog⟩ : ∃ z, z = gk := ⟨_, rfl⟩
        obtain ⟨wo, ewo⟩ : ∃ z, z = wr := ⟨_, rfl⟩
        subst eog
        subst ewo
        go_loopg [8] D (fun gk iv wr => ∃ d : Nat, iv = .int .i64 ((l + d : Nat) : Int) ∧ d ≤ D ∧ D ≤ gk + d ∧ Hid (RowsO 28 3 lo hi wr (.slice (some ⟨g, 0, none⟩) n sc) (tabR n m (midP f t l r x T (l + d))) ∧ Within lo hi W1 wr ∧ wr.cell? ⟨g, T, none⟩ = some (.slice (some ⟨g1, 0, none⟩) m c1)))
        case atStart => exact ⟨0, rfl, Nat.zero_le _, Nat.le_refl _, HI0⟩
        case round =>
          obtain ⟨d, rfl, hd1, hd2, HJ⟩ := hrel
          obtain ⟨p2, p3⟩ := HB.out _ HJ.out.2.1
          by_cases hdt : d < D
          · obtain ⟨c, ec⟩ : ∃ c, l + d = c := ⟨_, rfl⟩
            rw [ec] at HJ ⊢
            have hcr : (c : Int) < r := by have := HD.out; omega
            have hcm : (c : Int) < m := by have := HLR.out.2; omega
            have hcn : c < m := by omega
            have HUN : Hid (∀ c', c' = c + 1 → RowsO 28 3 lo hi (wr.setCell ⟨g1, c, none⟩ (.int .i64 x)) (.slice (some ⟨g, 0, none⟩) n sc) (tabR n m (midP f t l r x T c')) ∧ Within lo hi W1 (wr.setCell ⟨g1, c, none⟩ (.int .i64 x)) ∧ (wr.setCell ⟨g1, c, none⟩ (.int .i64 x)).cell? ⟨g, T, none⟩ = some (.slice (some ⟨g1, 0, none⟩) m c1)) := Lib.hid fun c' ec' => by
              subst ec'
              have h1 := HJ.out.1.set (by decide) rfl (i := T) (by rw [tabR_len]; exact HTN.out) HJ.out.2.2 c x
              rw [tabR_set _ _ _ _ _ _ HTN.out, HN.out T c (by omega)] at h1
              exact ⟨h1, HJ.out.2.1.setCell (p := ⟨g1, c, none⟩) HCU.out.1 HCU.out.2 _, (World.cell?_setCell_other _ _ _ _ (by simp [HOT.out.symm])).trans HJ.out.2.2⟩
            have hU : IntsO 3 lo hi wr (.slice (some ⟨g1, 0, none⟩) m c1) ((tabR n m (midP f t l r x T c)).getD T []) := by
              obtain ⟨u, e1, e2⟩ := HJ.out.1.at rfl (i := T) (by rw [tabR_len]; exact HTN.out)
              obtain rfl := Option.some.inj (HJ.out.2.2.symm.trans e1)
              exact e2
            obtain ⟨q1, q2⟩ := hU.at rfl (i := c) (by rw [tabR_rowlen _ _ _ _ HTN.out]; exact hcn)
            have HEC := Lib.hid ec
            clear hU ec
            go_wp2
            go_roundg (gk - 1)
            case measure => omega
            case rel => exact ⟨d + 1, by have := HEC.out; go_num, by omega, by omega, HUN.out _ (by have := HEC.out; omega)⟩
          · obtain rfl : d = D := by omega
            rw [HD.out] at HJ ⊢
            have HI1 : Hid (RowsO 28 3 lo hi wr (.slice (some ⟨g, 0, none⟩) n sc) (tabR n m (midP f t l r x (t + (k + 1)) l)) ∧ Within lo hi W1 wr) := by
              have h1 := HJ.out
              rw [HR.out T (by have := HT.out; omega)] at h1
              rw [show t + (k + 1) = T + 1 by have := HT.out; omega]
              exact Lib.hid ⟨h1.1, h1.2.1⟩
            go_wp2
            go_roundg (og - 1)
            case measure => have := HKS.out; omega
            case rel =>
              have h1 := HK.out
              have h2 : IntKind.i64.wrap ((k : Int) + 1) = ((k + 1 : Nat) : Int) := by rw [IntWalk.i64_in _ (by omega)]; omega
              refine ⟨k + 1, ?_, by omega, by have := HKS.out; omega, HI1⟩
              rw [← IntWalk.i64_left, h2]
      · obtain rfl : k = K := by omega
        have HFF := Lib.hid (HF.out wr _ (by rw [HK.out]; exact HE.out) HI.out)
        clear HF
        go_wp2
        go_end0
        exact ⟨rfl, HFF.out⟩
end Go.Proofs.YtlfoimjohdaofaaDoor
