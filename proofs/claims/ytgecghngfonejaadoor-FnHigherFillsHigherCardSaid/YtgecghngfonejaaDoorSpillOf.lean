/- The contract of impl.SpillOf. -/
import Derived.Test.YtgecghngfonejaaDoorReaches
namespace Go.Proofs.YtgecghngfonejaaDoor
open Go.RowKit

theorem spillL_no {h : List (List Int)} {i : Int} (hc : vCell h i = false) : spillL h i = -1 := by unfold spillL; rw [hc]; rfl
/-- The least level at which the edge is reached. -/
theorem spillL_yes {h : List (List Int)} {n m I L : Nat} (hc : vCell h (I : Int) = true) (en : h.length = n) (em : (h.getD 0 []).length = m) (hI : I < n * m) (h1 : Esc n m h.flatten (L : Int) I) (h2 : ∀ K : Nat, K < L → ¬ Esc n m h.flatten (K : Int) I) : spillL h (I : Int) = L := by
  obtain ⟨hg, _, _, _⟩ := vCell_yes hc
  have G := Grid.of hg
  have hn5 := G.n5
  have hm5 := G.m5
  rw [en] at hn5
  rw [em] at hm5
  have W := levelL_ok hn5 hm5 (p := h.flatten) (fun i hi => grid_num G i (by rw [en, em]; exact hi))
  unfold spillL
  rw [if_pos hc, en, em, Int.toNat_natCast]
  have h3 := W.le h1
  have h0 := (grid_num G I (by rw [en, em]; exact hI)).1
  have h4 := W.base hI
  obtain ⟨K, eK⟩ := Int.eq_ofNat_of_zero_le (Int.le_trans h0 h4)
  rw [eK] at h3 ⊢
  by_cases h5 : K < L
  · have := W.esc I hI
    rw [eK] at this
    exact absurd this (h2 K h5)
  · have : K = L := by omega
    rw [this]

set_option maxRecDepth 100000 in
set_option maxHeartbeats 2000000 in
theorem SpillOf_any (v : Value) (h : List (List Int)) (i : Int) (w : World) (hv : RowsV w v h) (hS : Steps w) :
    Calls Tryd.prog 31 #[v, .int .i64 i] w fun e w' => e = .returned (.int .i64 (spillL h i)) ∧ Grew w w' := by
  have HK := Lib.hid (validCell_any v h i w hv)
  cases hc : vCell h i with
  | false =>
    have HK1 := HK.out
    rw [hc] at HK1
    have HK2 := Lib.hid HK1
    rw [spillL_no hc]
    obtain ⟨a, b, o, c, rfl, _, _, _⟩ := hv.shape
    clear HK1 HK hc hv hS
    go_enter Tryd.func31, Tryd.ntmps31
    go_wp2_with (fail)
    refine HK2.out.mono ?_
    rintro e w' ⟨rfl, rfl⟩
    go_wp2
    go_ret
    exact ⟨rfl, Grew.refl _⟩
  | true =>
    have HK1 := HK.out
    rw [hc] at HK1
    have HK2 := Lib.hid HK1
    obtain ⟨hg, h0, hI, _⟩ := vCell_yes hc
    obtain ⟨I, rfl⟩ := Int.eq_ofNat_of_zero_le h0
    rw [Int.toNat_natCast] at hI
    have G := Grid.of hg
    obtain ⟨n, en⟩ : ∃ n, h.length = n := ⟨_, rfl⟩
    obtain ⟨m, em⟩ : ∃ m, (h.getD 0 []).length = m := ⟨_, rfl⟩
    obtain ⟨N, eN⟩ : ∃ N, n * m = N := ⟨_, rfl⟩
    have HC := Lib.hid (slicesConcat_any v h w hv G.n1 (Nat.le_trans G.n5 (by decide)) (fun r hr => by have := G.len r hr; have := G.m1; have := G.m5; omega))
    have HS := Lib.hid fun L => spillL_yes (L := L) hc en em (by rw [en, em] at hI; exact hI)
    have HR := Lib.hid fun (L : Int) (hL : h.flatten.getD I 0 ≤ L) (W : World) (hW : Grew w W) => reachesEdge_any v h n m N I L W (hv.grew hW) hg (hS.grew hW) en em eN (by rw [← eN, ← en, ← em]; exact hI) hL
    have hpl := flat_grid_len G
    have hpI := grid_num G I hI
    have HT := Lib.hid (esc_top (n := n) (m := m) (p := h.flatten) (L := 12) (fun i hi => (grid_num G i (by rw [en, em]; exact hi)).2) I (by rw [← en, ← em]; exact hI))
    rw [en, em, eN] at hpl hI
    obtain ⟨p, ep⟩ : ∃ p, h.flatten = p := ⟨_, rfl⟩
    rw [ep] at HC hpl HS HR hpI HT
    obtain ⟨R, eR⟩ : ∃ R, spillL h (I : Int) = R := ⟨_, rfl⟩
    rw [eR] at HS ⊢
    have hn5 := G.n5
    have hm5 := G.m5
    rw [en] at hn5
    rw [em] at hm5
    have hN25 : N ≤ 25 := by rw [← eN]; exact Nat.mul_le_mul hn5 hm5
    obtain ⟨x, ex⟩ : ∃ x, p.getD I 0 = x := ⟨_, rfl⟩
    rw [ex] at HR hpI
    obtain ⟨X, rfl⟩ := Int.eq_ofNat_of_zero_le hpI.1
    have HX0 : Hid (∀ K : Nat, K < X → ¬ Esc n m p (K : Int) I) := Lib.hid fun K hK h => by
      have := h.base
      omega
    have hX12 : X ≤ 12 := by omega
    have HEX := Lib.hid ex
    have hIi : (I : Int) < (N : Int) := by omega
    obtain ⟨a, b, o, c, rfl, _, _, _⟩ := hv.shape
    clear HK1 HK hc hv hS hg h0 G en em eN ep eR hpI hn5 hm5 ex
    go_enter Tryd.func31, Tryd.ntmps31
    go_wp2_with (fail)
    refine HK2.out.mono ?_
    rintro e w' ⟨rfl, rfl⟩
    go_wp2_with (fail)
    refine HC.out.mono ?_
    rintro e w1 ⟨g1, c1, rfl, hO1, hg1⟩
    rw [hpl] at hO1 ⊢
    obtain ⟨hcI, _⟩ := hO1.at rfl (i := I) (by rw [hpl]; exact hI)
    rw [HEX.out] at hcI
    have H1 := Lib.hid hg1
    clear hO1 hg1 hpl HC HK2
    go_wp2
    go_loopw [5] (fun y wr => ∃ L : Nat, L ≤ 12 ∧ X ≤ L ∧ y = .int .i64 (L : Int) ∧ Hid ((∀ K : Nat, K < L → ¬ Esc n m p (K : Int) I) ∧ Grew w wr)) (fun y _ => 13 - (intOf y).toNat)
    case atStart => exact ⟨X, hX12, Nat.le_refl _, rfl, HX0.out, H1.out⟩
    case round =>
      obtain ⟨L, hL1, hL2, rfl, HX⟩ := hrel
      have HRL := Lib.hid (HR.out (L : Int) (by omega) wr HX.out.2)
      go_wp2_with (fail)
      refine HRL.out.mono ?_
      rintro e w3 ⟨bb, rfl, hb, hg3⟩
      cases bb with
      | true =>
        have HF : Hid (R = (L : Int) ∧ Grew w w3) := Lib.hid ⟨HS.out L (hb.1 rfl) HX.out.1, HX.out.2.trans hg3⟩
        clear hb hg3 HX HRL
        go_wp2
        go_ret
        exact ⟨ret_int HF.out.1.symm, HF.out.2⟩
      | false =>
        have hne : ¬ Esc n m p (L : Int) I := fun h => by have := hb.2 h; cases this
        have hL12 : L < 12 := by
          rcases Nat.lt_or_ge L 12 with h | h
          · exact h
          · have e : L = 12 := by omega
            subst e
            exact absurd HT.out hne
        have HF : Hid ((∀ K : Nat, K < L + 1 → ¬ Esc n m p (K : Int) I) ∧ Grew w w3) := Lib.hid ⟨fun K hK => by
          by_cases e : K = L
          · subst e; exact hne
          · exact HX.out.1 K (by omega), HX.out.2.trans hg3⟩
        clear hb hg3 HX HRL hne
        go_wp2
        go_roundw
        case rel => exact ⟨L + 1, by omega, by omega, by go_num, HF.out⟩
        case measure => simp [intOf]; omega
end Go.Proofs.YtgecghngfonejaaDoor
