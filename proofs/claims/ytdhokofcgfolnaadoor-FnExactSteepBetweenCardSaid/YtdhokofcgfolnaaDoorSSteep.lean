/- The contract of spec.SteepBetween. -/
import Derived.Test.YtdhokofcgfolnaaDoorGentle
import Derived.Test.YtdhokofcgfolnaaDoorSClimbB
import Derived.Test.YtdhokofcgfolnaaDoorWayLaw
namespace Go.Proofs.YtdhokofcgfolnaaDoor
open Go.RowKit

section
variable {n m : Nat} {p : List Int}
theorem gentle_iff {M : Int} {i k : Nat} : gentleB p M i k = true ↔ max (p.getD k 0 - p.getD i 0) (-(p.getD k 0 - p.getD i 0)) ≤ M := by unfold gentleB; exact decide_eq_true_iff
theorem walk_gentle {s i k : Nat} {v M : Int} (h : Walk (aroundL n m) p steepF s i k v) (hv : v ≤ M) : Reach n m (gentleB p M) i k := by
  induction h with
  | nil => exact .refl
  | cons h1 _ ih =>
    unfold steepF at hv
    exact Reach.trans (.step .refl h1 (gentle_iff.2 (by omega))) (ih (by omega))
theorem Walk.snocS {s i j k : Nat} {v : Int} (h : Walk (aroundL n m) p steepF s i j v) (hk : (k : Int) ∈ aroundL n m j) : Walk (aroundL n m) p steepF (s + 1) i k (max v (max (p.getD k 0 - p.getD j 0) (-(p.getD k 0 - p.getD j 0)))) := by
  induction h with
  | nil s i =>
    have := Walk.cons (f := steepF) (p := p) hk (Walk.nil s k)
    unfold steepF at this
    rwa [Int.max_comm] at this
  | cons h1 _ ih =>
    have := Walk.cons (f := steepF) h1 (ih hk)
    rw [show ∀ a b c : Int, steepF a (max b c) = max (steepF a b) c from fun a b c => by unfold steepF; omega] at this
    exact this
theorem gentle_walk {i k : Nat} {M : Int} (hM : 0 ≤ M) (h : Reach n m (gentleB p M) i k) : ∃ s v, v ≤ M ∧ Walk (aroundL n m) p steepF s i k v := by
  induction h with
  | refl => exact ⟨0, 0, hM, .nil _ _⟩
  | step h1 h2 h3 ih =>
    obtain ⟨s, v, h4, h5⟩ := ih
    exact ⟨s + 1, _, by have := gentle_iff.1 h3; omega, h5.snocS h2⟩
end

set_option maxRecDepth 100000 in
set_option maxHeartbeats 2000000 in
theorem SSteepBetween_any (v : Value) (h : List (List Int)) (i k : Int) (w : World) (hv : RowsV w v h) :
    Calls Tryd.prog 27 #[v, .int .i64 i, .int .i64 k] w fun e w' => e = .returned (.int .i64 (wayV steepF h i k)) ∧ Grew w w' := by
  have HK := Lib.hid (sValidGrid_any v h w hv)
  cases hg : vGrid h with
  | false =>
    have HK1 := HK.out
    rw [hg] at HK1
    have HK2 := Lib.hid HK1
    rw [wayV_no (by rw [vCell_no hg]; rfl)]
    obtain ⟨a, b, o, c, rfl, _, _, _⟩ := hv.shape
    clear HK1 HK hg hv
    go_enter Tryd.func27, Tryd.ntmps27
    go_wp2_with (fail)
    refine HK2.out.mono ?_
    rintro e w' ⟨rfl, hG⟩
    have HG := Lib.hid hG
    clear hG
    go_wp2
    go_ret
    exact ⟨rfl, HG.out⟩
  | true =>
    have HK1 := HK.out
    rw [hg] at HK1
    have HK2 := Lib.hid HK1
    have HI := Lib.hid (inR_cell (i := i) hg)
    have HJ := Lib.hid (inR_cell (i := k) hg)
    have G := Grid.of hg
    obtain ⟨n, en⟩ : ∃ n, h.length = n := ⟨_, rfl⟩
    obtain ⟨m, em⟩ : ∃ m, (h.getD 0 []).length = m := ⟨_, rfl⟩
    obtain ⟨N, eN⟩ : ∃ N, n * m = N := ⟨_, rfl⟩
    have HN := Lib.hid (fun (W : World) (hW : Grew w W) => cells_any _ h W (hv.grew hW) G.n1 (by have := G.n5; omega) (by have := G.m5; omega))
    have hp := cells_le hg
    rw [en, em, eN] at HI HJ HN hp
    have hcon := fun W => inRange_any i 0 ((N : Int) - 1) W
    rw [HI.out] at hcon
    have hdon := fun W => inRange_any k 0 ((N : Int) - 1) W
    rw [HJ.out] at hdon
    cases hc : vCell h i with
    | false =>
      rw [hc] at hcon
      have HCON := Lib.hid hcon
      rw [wayV_no (by rw [hc]; rfl)]
      obtain ⟨a, b, o, c, rfl, _, _, _⟩ := hv.shape
      clear hc hcon hdon HK1 HK hg hv HI HJ G en em eN
      go_enter Tryd.func27, Tryd.ntmps27
      go_wp2_with (fail)
      refine HK2.out.mono ?_
      rintro e w1 ⟨rfl, hG⟩
      have HG := Lib.hid hG
      clear hG
      go_wp2_with (fail)
      refine (HN.out _ HG.out).mono ?_
      rintro e w2 ⟨rfl, rfl⟩
      go_wp2_with (fail)
      refine (HCON.out _).mono ?_
      rintro e w3 ⟨rfl, rfl⟩
      go_wp2
      go_ret
      exact ⟨rfl, HG.out⟩
    | true =>
      rw [hc] at hcon
      have HCON := Lib.hid hcon
      cases hd : vCell h k with
      | false =>
        rw [hd] at hdon
        have HDON := Lib.hid hdon
        rw [wayV_no (by rw [hc, hd]; rfl)]
        obtain ⟨a, b, o, c, rfl, _, _, _⟩ := hv.shape
        clear hc hd hcon hdon HK1 HK hg hv HI HJ G en em eN
        go_enter Tryd.func27, Tryd.ntmps27
        go_wp2_with (fail)
        refine HK2.out.mono ?_
        rintro e w1 ⟨rfl, hG⟩
        have HG := Lib.hid hG
        clear hG
        go_wp2_with (fail)
        refine (HN.out _ HG.out).mono ?_
        rintro e w2 ⟨rfl, rfl⟩
        go_wp2_with (fail)
        refine (HCON.out _).mono ?_
        rintro e w3 ⟨rfl, rfl⟩
        go_wp2_with (fail)
        refine (HN.out _ HG.out).mono ?_
        rintro e w2 ⟨rfl, rfl⟩
        go_wp2_with (fail)
        refine (HDON.out _).mono ?_
        rintro e w3 ⟨rfl, rfl⟩
        go_wp2
        go_ret
        exact ⟨rfl, HG.out⟩
      | true =>
        rw [hd] at hdon
        have HDON := Lib.hid hdon
        obtain ⟨_, h0, hI, _⟩ := vCell_yes hc
        obtain ⟨_, k0, hK, _⟩ := vCell_yes hd
        obtain ⟨I, rfl⟩ := Int.eq_ofNat_of_zero_le h0
        obtain ⟨K, rfl⟩ := Int.eq_ofNat_of_zero_le k0
        rw [Int.toNat_natCast] at hI hK
        have hIN : I < N := by rw [← eN, ← en, ← em]; exact hI
        have hKN : K < N := by rw [← eN, ← en, ← em]; exact hK
        have hn5 := G.n5
        have hm5 := G.m5
        rw [en] at hn5
        rw [em] at hm5
        have hpn : ∀ i, i < n * m → 0 ≤ h.flatten.getD i 0 ∧ h.flatten.getD i 0 ≤ 12 := fun i hi => grid_num G i (by rw [en, em]; exact hi)
        have hNb := around_range G en em eN
        have h00 : ∀ i x, x ∈ aroundL n m i → 0 ≤ x := fun i x hx => around_nonneg hx
        have HS : Hid (∀ L : Nat, Reach n m (gentleB h.flatten (L : Int)) I K → (∀ M : Nat, M < L → ¬ Reach n m (gentleB h.flatten (M : Int)) I K) → wayV steepF h I K = L) := Lib.hid fun L h1 h2 => by
          rw [wayV_yes en em eN hc hd]
          have hst := short_still (p := h.flatten) (e := K) steepF_rule steep_short hNb h00
          have hl := hst.least steepF_rule hNb h00 I hIN
          rw [← hst.all hNb N (by omega) I hIN] at hl
          refine hl.uniq ?_
          obtain ⟨s, v, h3, h4⟩ := gentle_walk (Int.natCast_nonneg L) h1
          have hv := h4.pos steepF_rule
          have key : ∀ u, (∃ s, Walk (aroundL n m) h.flatten steepF s I K u) → (L : Int) ≤ u := fun u ⟨s', hu⟩ => by
            have hu0 := hu.pos steepF_rule
            by_cases hlt : u < L
            · exact absurd (walk_gentle hu (show u ≤ ((u.toNat : Nat) : Int) by omega)) (h2 u.toNat (by omega))
            · omega
          have : v = L := by have := key v ⟨s, h4⟩; omega
          subst this
          exact .inr ⟨hv, ⟨s, h4⟩, key⟩
        have HR := Lib.hid fun (L : Int) (W : World) (hW : Grew w W) (hL : L ≤ 12) => gentle_any v h n m N I K L W (hv.grew hW) hg en em eN hIN hKN hL
        have HT : Hid (Reach n m (gentleB h.flatten 12) I K) := Lib.hid (all_joined hn5 hm5 hpn (by rw [eN]; exact hIN) (by rw [eN]; exact hKN) fun a b ha hb => gentle_iff.2 (by have := hpn a ha; have := hpn b hb; omega))
        obtain ⟨p, ep⟩ : ∃ p, h.flatten = p := ⟨_, rfl⟩
        rw [ep] at HS HR HT
        obtain ⟨R, eR⟩ : ∃ R, wayV steepF h (I : Int) (K : Int) = R := ⟨_, rfl⟩
        rw [eR] at HS ⊢
        obtain ⟨a, b, o, c, rfl, _, _, _⟩ := hv.shape
        clear hc hd hcon hdon HK1 HK hg hv HI HJ G h0 k0 hI hK en em eN ep eR hpn hn5 hm5 hNb h00
        go_enter Tryd.func27, Tryd.ntmps27
        go_wp2_with (fail)
        refine HK2.out.mono ?_
        rintro e w1 ⟨rfl, hG⟩
        have HG := Lib.hid hG
        clear hG
        go_wp2_with (fail)
        refine (HN.out _ HG.out).mono ?_
        rintro e w2 ⟨rfl, rfl⟩
        go_wp2_with (fail)
        refine (HCON.out _).mono ?_
        rintro e w3 ⟨rfl, rfl⟩
        go_wp2_with (fail)
        refine (HN.out _ HG.out).mono ?_
        rintro e w2 ⟨rfl, rfl⟩
        go_wp2_with (fail)
        refine (HDON.out _).mono ?_
        rintro e w3 ⟨rfl, rfl⟩
        go_wp2
        go_loopw [7] (fun y wr => ∃ L : Nat, L ≤ 12 ∧ y = .int .i64 (L : Int) ∧ Hid ((∀ M : Nat, M < L → ¬ Reach n m (gentleB p (M : Int)) I K) ∧ Grew w wr)) (fun y _ => 13 - (intOf y).toNat)
        case atStart => exact ⟨0, Nat.zero_le _, rfl, fun K hK => absurd hK (Nat.not_lt_zero _), HG.out⟩
        case round =>
          obtain ⟨L, hL1, rfl, HX⟩ := hrel
          have HRL := Lib.hid (HR.out (L : Int) wr HX.out.2 (by omega))
          go_wp2_with (fail)
          refine HRL.out.mono ?_
          rintro e w3 ⟨bb, rfl, hb, hg3⟩
          cases bb with
          | true =>
            have HF : Hid (R = (L : Int) ∧ Grew w w3) := Lib.hid ⟨HS.out L (hb.1 rfl) HX.out.1, HX.out.2.trans hg3⟩
            clear hb hg3 HX HRL
            go_wp2
            go_ret
            exact ⟨ret_int HF.out.1.symm, HF.out.2⟩
          | false =>
            have hne : ¬ Reach n m (gentleB p (L : Int)) I K := fun h => by have := hb.2 h; cases this
            have hL12 : L < 12 := by
              rcases Nat.lt_or_ge L 12 with h | h
              · exact h
              · have e : L = 12 := by omega
                subst e
                exact absurd HT.out hne
            have HF : Hid ((∀ M : Nat, M < L + 1 → ¬ Reach n m (gentleB p (M : Int)) I K) ∧ Grew w w3) := Lib.hid ⟨fun M hM => by
              by_cases e : M = L
              · subst e; exact hne
              · exact HX.out.1 M (by omega), HX.out.2.trans hg3⟩
            clear hb hg3 HX HRL hne
            go_wp2
            go_roundw
            case rel => exact ⟨L + 1, by omega, by go_num, HF⟩
            case measure => simp [intOf]; omega
end Go.Proofs.YtdhokofcgfolnaaDoor
