/- The contracts of spec.validPart and spec.SumIn. -/
import Derived.Test.YtkeeonjbkfgeeaaSSumsOf
import Derived.Test.YtkeeonjbkfgeeaaSumIn
namespace Go.Proofs.Ytkeeonjbkfgeeaa
open Go.RowKit

theorem inR_span (f e n : Int) : (inR f 0 e && inR e f n) = spanB f e n := by
  rw [Bool.eq_iff_iff]
  simp only [inR, spanB, Bool.and_eq_true, decide_eq_true_eq]
  omega
set_option maxRecDepth 100000 in
set_option maxHeartbeats 2000000 in
theorem validPart_any (v : Value) (h : List (List Int)) (t l b r : Int) (w : World) (hv : RowsV w v h) :
    Calls Try.prog 47 #[v, .int .i64 t, .int .i64 l, .int .i64 b, .int .i64 r] w fun e w' => e = .returned (.bool (vPart h t l b r)) ∧ Grew w w' := by
  have HK := Lib.hid (sValidGrid_any v h w hv)
  unfold vPart
  cases hp : vGrid h with
  | false =>
    have HP := Lib.hid hp
    clear hp
    obtain ⟨sa, sb, so, sc, rfl, _, _, _⟩ := hv.shape
    clear hv
    go_enter Try.func47, Try.ntmps47
    go_wp2_with (fail)
    refine HK.out.mono ?_
    rw [HP.out]
    rintro e w1 ⟨rfl, hg1⟩
    have HG1 := Lib.hid hg1
    clear hg1
    go_wp2
    go_ret
    exact ⟨ret_bool (by simp), HG1.out⟩
  | true =>
    have G := Grid.of hp
    have hh1 := G.n1
    have HP := Lib.hid hp
    obtain ⟨m, em⟩ : ∃ m, (h.getD 0 []).length = m := ⟨_, rfl⟩
    obtain ⟨sa, sb, so, sc, rfl, _, ha, HC⟩ := hv.shape
    obtain rfl := ha hh1
    obtain ⟨u0, hc0, hu0⟩ := HC.out 0 hh1
    rw [Nat.add_zero] at hc0
    obtain ⟨a0, b0, o0, c0, rfl, _, _, _⟩ := hu0.shape
    rw [em] at hc0 ⊢
    have HC0 := Lib.hid hc0
    have hi0 : (0 : Int) < h.length := by omega
    have hn0 : 0 < h.length := hh1
    have HE1 := Lib.hid (inR_span t b h.length)
    have HE2 := Lib.hid (inR_span l r m)
    clear hp hv ha HC hu0 G em hc0
    rw [← HE1.out, ← HE2.out]
    go_enter Try.func47, Try.ntmps47
    go_wp2_with (fail)
    refine HK.out.mono ?_
    rw [HP.out]
    rintro e w1 ⟨rfl, hg1⟩
    have hc1 := hg1.cell HC0.out
    have HG1 := Lib.hid hg1
    clear hg1
    go_wp2_with (fail)
    refine (inRange_any t 0 b _).mono ?_
    cases h1 : inR t 0 b with
    | false =>
      have H1 := Lib.hid h1
      clear h1
      rintro e w2 ⟨rfl, rfl⟩
      go_wp2
      go_ret
      exact ⟨ret_bool (by simp [H1.out]), HG1.out⟩
    | true =>
      have H1 := Lib.hid h1
      clear h1
      rintro e w2 ⟨rfl, rfl⟩
      go_wp2_with (fail)
      refine (inRange_any b t h.length _).mono ?_
      cases h1 : inR b t h.length with
      | false =>
        have H2 := Lib.hid h1
        clear h1
        rintro e w2 ⟨rfl, rfl⟩
        go_wp2
        go_ret
        exact ⟨ret_bool (by simp [H1.out, H2.out]), HG1.out⟩
      | true =>
        have H2 := Lib.hid h1
        clear h1
        rintro e w2 ⟨rfl, rfl⟩
        go_wp2_with (fail)
        refine (inRange_any l 0 r _).mono ?_
        cases h1 : inR l 0 r with
        | false =>
          have H3 := Lib.hid h1
          clear h1
          rintro e w2 ⟨rfl, rfl⟩
          go_wp2
          go_ret
          exact ⟨ret_bool (by simp [H1.out, H2.out, H3.out]), HG1.out⟩
        | true =>
          have H3 := Lib.hid h1
          clear h1
          rintro e w2 ⟨rfl, rfl⟩
          go_wp2_with (fail)
          refine (inRange_any r l m _).mono ?_
          cases h1 : inR r l m with
          | false =>
            have H4 := Lib.hid h1
            clear h1
            rintro e w2 ⟨rfl, rfl⟩
            go_wp2
            go_ret
            exact ⟨ret_bool (by simp [H1.out, H2.out, H3.out, H4.out]), HG1.out⟩
          | true =>
            have H4 := Lib.hid h1
            clear h1
            rintro e w2 ⟨rfl, rfl⟩
            go_wp2
            go_ret
            exact ⟨ret_bool (by simp [H1.out, H2.out, H3.out, H4.out]), HG1.out⟩

set_option maxRecDepth 100000 in
set_option maxHeartbeats 2000000 in
theorem SSumIn_any (v : Value) (h : List (List Int)) (t l b r : Int) (w : World) (hv : RowsV w v h) :
    Calls Try.prog 20 #[v, .int .i64 t, .int .i64 l, .int .i64 b, .int .i64 r] w fun e w' => e = .returned (.int .i64 (sumX h t l b r)) ∧ Grew w w' := by
  have HK := Lib.hid (validPart_any v h t l b r w hv)
  unfold sumX
  cases hp : vPart h t l b r with
  | false =>
    have HP := Lib.hid hp
    clear hp
    obtain ⟨sa, sb, so, sc, rfl, _, _, _⟩ := hv.shape
    clear hv
    go_enter Try.func20, Try.ntmps20
    go_wp2_with (fail)
    refine HK.out.mono ?_
    rw [HP.out]
    rintro e w1 ⟨rfl, hg1⟩
    have HG1 := Lib.hid hg1
    clear hg1
    go_wp2
    go_ret
    exact ⟨ret_int (by simp), HG1.out⟩
  | true =>
    have HP := Lib.hid hp
    have hp' := hp
    simp only [vPart, Bool.and_eq_true, spanB_iff] at hp'
    obtain ⟨⟨hg, ht0, htb, hbn⟩, hl0, hlr, hrm⟩ := hp'
    have G := Grid.of hg
    obtain ⟨m, em⟩ : ∃ m, (h.getD 0 []).length = m := ⟨_, rfl⟩
    rw [em] at G hrm
    obtain ⟨tN, rfl⟩ := Int.eq_ofNat_of_zero_le ht0
    obtain ⟨bN, rfl⟩ := Int.eq_ofNat_of_zero_le (show 0 ≤ b by omega)
    obtain ⟨lN, rfl⟩ := Int.eq_ofNat_of_zero_le hl0
    obtain ⟨rN, rfl⟩ := Int.eq_ofNat_of_zero_le (show 0 ≤ r by omega)
    rw [if_pos rfl, Int.toNat_natCast, Int.toNat_natCast, Int.toNat_natCast, Int.toNat_natCast]
    have h1 := preS_bd G bN rN (by omega) (by omega)
    have h2 := preS_bd G tN rN (by omega) (by omega)
    have h3 := preS_bd G bN lN (by omega) (by omega)
    have h4 := preS_bd G tN lN (by omega) (by omega)
    have hpp := part_pre h tN lN bN rN (by omega) (by omega)
    obtain ⟨p1, e1⟩ : ∃ p, preS h bN rN = p := ⟨_, rfl⟩
    obtain ⟨p2, e2⟩ : ∃ p, preS h tN rN = p := ⟨_, rfl⟩
    obtain ⟨p3, e3⟩ : ∃ p, preS h bN lN = p := ⟨_, rfl⟩
    obtain ⟨p4, e4⟩ : ∃ p, preS h tN lN = p := ⟨_, rfl⟩
    have HPP : Hid (p1 - p2 - p3 + p4 = partS h tN lN bN rN) := Lib.hid (by omega)
    have HPX : Hid (∀ W, Grew w W → Calls Try.prog 43 #[v] W (NewRows W (sumsL h m))) := Lib.hid fun W hW => prefix_any v h m W (hv.grew hW) G
    have hh1 := G.n1
    have HEE := Lib.hid (And.intro e1 (And.intro e2 (And.intro e3 e4)))
    rw [e1] at h1
    rw [e2] at h2
    rw [e3] at h3
    rw [e4] at h4
    obtain ⟨sa, sb, so, sc, rfl, _, _, _⟩ := hv.shape
    have hb1 : bN ≤ h.length := by omega
    have hb2 : tN ≤ bN := by omega
    have hb3 : lN ≤ rN := by omega
    have hb4 : rN ≤ m := by omega
    clear hp hv hg G em e1 e2 e3 e4 hpp ht0 htb hbn hl0 hlr hrm
    go_enter Try.func20, Try.ntmps20
    go_wp2_with (fail)
    refine HK.out.mono ?_
    rw [HP.out]
    rintro e w1 ⟨rfl, hg1⟩
    have HG1 := Lib.hid hg1
    clear hg1
    go_wp2_with (fail)
    refine (HPX.out _ HG1.out).mono ?_
    rintro e w2 ⟨v2, rfl, hO2, hg2⟩
    have HG2 := Lib.hid (HG1.out.trans hg2)
    have hsl : (sumsL h m).length = h.length + 1 := tabR_len _ _ _
    obtain ⟨g2, c2, rfl, _, _, _, _⟩ := hO2.pos (by omega)
    have row : ∀ i, i ≤ h.length → ∃ g c, w2.cell? ⟨g2, i, none⟩ = some (.slice (some ⟨g, 0, none⟩) (m + 1) c) ∧ (∀ j, j ≤ m → w2.cell? ⟨g, j, none⟩ = some (.int .i64 (preS h i j))) := fun i hi => by
      obtain ⟨u, hc, hu⟩ := hO2.at rfl (i := i) (by omega)
      have hl : ((sumsL h m).getD i []).length = m + 1 := tabR_rowlen _ _ _ _ (by omega)
      obtain ⟨b1, c1, rfl, _, _, _, _⟩ := hu.pos (by omega)
      rw [hl] at hc
      refine ⟨b1, c1, hc, fun j hj => ?_⟩
      have := (hu.at rfl (i := j) (by omega)).1
      rwa [show ((sumsL h m).getD i []).getD j 0 = preS h i j from tabR_at _ _ _ _ _ (by omega) (by omega)] at this
    rw [hsl]
    obtain ⟨g3, c3, k1, r1⟩ := row tN (by omega)
    obtain ⟨g4, c4, k2, r2⟩ := row bN hb1
    have q1 := r2 rN hb4
    have q2 := r1 rN hb4
    have q3 := r2 lN (by omega)
    have q4 := r1 lN (by omega)
    rw [HEE.out.1] at q1
    rw [HEE.out.2.1] at q2
    rw [HEE.out.2.2.1] at q3
    rw [HEE.out.2.2.2] at q4
    obtain ⟨n1, en1⟩ : ∃ n1, h.length + 1 = n1 := ⟨_, rfl⟩
    obtain ⟨m1, em1⟩ : ∃ m1, m + 1 = m1 := ⟨_, rfl⟩
    rw [em1] at k1 k2
    rw [en1]
    have z1 : (tN : Int) < n1 := by omega
    have z2 : (bN : Int) < n1 := by omega
    have z3 : (lN : Int) < m1 := by omega
    have z4 : (rN : Int) < m1 := by omega
    have z5 : tN < n1 := by omega
    have z6 : bN < n1 := by omega
    have z7 : lN < m1 := by omega
    have z8 : rN < m1 := by omega
    have w1' : IntKind.i64.wrap (p1 - p2) = p1 - p2 := IntWalk.i64_in _ (by omega)
    have w2' : IntKind.i64.wrap (p1 - p2 - p3) = p1 - p2 - p3 := IntWalk.i64_in _ (by omega)
    have w3' : IntKind.i64.wrap (p1 - p2 - p3 + p4) = p1 - p2 - p3 + p4 := IntWalk.i64_in _ (by omega)
    clear hO2 hg2 hsl row r1 r2 en1 em1
    go_wp2
    go_quiet (fail)
    go_wp2
    go_ret
    exact ⟨ret_int HPP.out, HG2.out.trans ((Grew.refl _).drewN _)⟩
end Go.Proofs.Ytkeeonjbkfgeeaa
