/- The law FnPassesNeedClimbs returns true. -/
import Derived.Test.YtdhokofcgfolnaaDoorPass
import Derived.Test.YtdhokofcgfolnaaDoorSPass
import Derived.Test.YtdhokofcgfolnaaDoorClimb
import Derived.Test.YtdhokofcgfolnaaDoorWayLaw
import Derived.Test.YtdhokofcgfolnaaDoorDraws3
import Derived.Test.YtdhokofcgfolnaaDoorRowOf
import Derived.Test.YtdhokofcgfolnaaDoorHeldMono
namespace Go.Proofs.YtdhokofcgfolnaaDoor
open Go.RowKit

theorem grid_small6 {h : List (List Int)} {m : Nat} (G : Grid h m) : h.length ≤ 1000 ∧ ∀ r, r < h.length → 1 ≤ (h.getD r []).length ∧ (h.getD r []).length ≤ 1000 :=
  ⟨by have := G.n5; omega, fun r hr => by have := G.len r hr; have := G.m1; have := G.m5; omega⟩
theorem wayV_at {f : Int → Int → Int} {h : List (List Int)} {i k n m N : Nat} (en : h.length = n) (em : (h.getD 0 []).length = m) (eN : n * m = N) (hi : vCell h i = true) (hk : vCell h k = true) : wayV f h i k = costT (aroundL n m) h.flatten f k N i := by
  unfold wayV vEnds
  rw [hi, hk, en, em, eN, Int.toNat_natCast, Int.toNat_natCast]
  rfl
section
variable {n m : Nat} {p : List Int}
theorem reach_up {J J' : Nat → Nat → Bool} {i k : Nat} (h : Reach n m J i k) (hJ : ∀ a b, J a b = true → J' a b = true) : Reach n m J' i k := by
  induction h with
  | refl => exact .refl
  | step h1 h2 h3 ih => exact .step ih h2 (hJ _ _ h3)
/-- A way climbs to its highest cell. -/
theorem walk_high {s i k : Nat} {v : Int} (h : Walk (aroundL n m) p upF s i k v) : ∃ M, Way n m p M i k ∧ M - p.getD i 0 ≤ v := by
  induction h with
  | nil s i => exact ⟨p.getD i 0, ⟨Int.le_refl _, .refl⟩, by omega⟩
  | @cons s i j k v h1 _ ih =>
    obtain ⟨M, h2, h3⟩ := ih
    have h4 := h2.1
    refine ⟨max (p.getD i 0) M, ⟨by omega, ?_⟩, by unfold upF; omega⟩
    refine Reach.trans (.step .refl h1 (joinH_iff.2 ⟨by omega, by omega⟩)) (reach_up h2.2 fun a b hab => ?_)
    have := joinH_iff.1 hab
    exact joinH_iff.2 ⟨by omega, by omega⟩
theorem Walk.snocT {s i j k : Nat} {v : Int} (h : Walk (aroundL n m) p steepF s i j v) (hk : (k : Int) ∈ aroundL n m j) : Walk (aroundL n m) p steepF (s + 1) i k (max v (max (p.getD k 0 - p.getD j 0) (-(p.getD k 0 - p.getD j 0)))) := by
  induction h with
  | nil s i =>
    have := Walk.cons (f := steepF) (p := p) hk (Walk.nil s k)
    unfold steepF at this
    rwa [Int.max_comm] at this
  | cons h1 _ ih =>
    have := Walk.cons (f := steepF) h1 (ih hk)
    rw [show ∀ a b c : Int, steepF a (max b c) = max (steepF a b) c from fun a b c => by unfold steepF; omega] at this
    exact this
/-- A way below a height has no step steeper than from the lowest cell to it. -/
theorem way_steep (hn : n ≤ 5) (hm : m ≤ 5) {i k : Nat} {L low : Int} (hi : i < n * m) (hl : ∀ j, j < n * m → low ≤ p.getD j 0) (h : Way n m p L i k) : ∃ s v, v ≤ L - low ∧ Walk (aroundL n m) p steepF s i k v := by
  obtain ⟨h0, h⟩ := h
  induction h with
  | refl => exact ⟨0, 0, by have := hl i hi; omega, .nil _ _⟩
  | step h1 h2 h3 ih =>
    obtain ⟨s, v, h4, h5⟩ := ih
    have hj := h1.lt hn hm hi
    have := joinH_iff.1 h3
    have := hl _ hj
    have := hl _ (around_lt hn hm hj h2)
    exact ⟨s + 1, _, by omega, h5.snocT h2⟩
theorem pass_climb (hn : n ≤ 5) (hm : m ≤ 5) (hp : ∀ i, i < n * m → 0 ≤ p.getD i 0 ∧ p.getD i 0 ≤ 12) {i k : Nat} (hi : i < n * m) (hk : k < n * m) : passN n m p i k - p.getD i 0 ≤ climbN n m p i k := by
  obtain ⟨_, ⟨s, h1⟩, _⟩ := climbN_walk hn hm hp hi hk
  obtain ⟨M, h2, h3⟩ := walk_high h1
  have := passN_le hn hm hp hi h2
  omega
theorem pass_steep (hn : n ≤ 5) (hm : m ≤ 5) (hp : ∀ i, i < n * m → 0 ≤ p.getD i 0 ∧ p.getD i 0 ≤ 12) {i k : Nat} {low : Int} (hi : i < n * m) (hk : k < n * m) (hl : ∀ j, j < n * m → low ≤ p.getD j 0) : costT (aroundL n m) p steepF k (n * m) i ≤ passN n m p i k - low := by
  obtain ⟨s, v, h1, h2⟩ := way_steep hn hm hi hl (passN_way hn hm hp hi hk)
  have hst := short_still (p := p) (e := k) steepF_rule steep_short (around_in hn hm) (fun i x hx => around_nonneg hx)
  have hle := hst.least steepF_rule (around_in hn hm) (fun i x hx => around_nonneg hx) i hi
  rw [← hst.all (around_in hn hm) (n * m) (by omega) i hi] at hle
  rcases hle with ⟨_, h⟩ | ⟨_, _, h3⟩
  · exact absurd ⟨s, h2⟩ (h v)
  · have := h3 v ⟨s, h2⟩
    omega
end

set_option maxRecDepth 100000 in
set_option maxHeartbeats 8000000 in
theorem FnPassesNeedClimbs_any (v : Value) (bs : List Int) (w : World) (hv : NumsV .u8 w v bs) (hb : ∀ i, i < bs.length → 0 ≤ bs.getD i 0 ∧ bs.getD i 0 ≤ 255) (hS : Steps w) :
    Calls Tryd.prog 7 #[v] w fun e w' => e = .returned (.bool true) ∧ Grew w w' := by
  have HD := Lib.hid (DrawPassBetween_any v bs w hv hb)
  have HS := Lib.hid hS
  obtain ⟨a, b, o, c, rfl, ⟨hlc, hcb⟩, _, _⟩ := hv.shape
  clear hv hb hS
  by_cases hbig : 1048576 < bs.length
  · go_enter Tryd.func7, Tryd.ntmps7
    go_wp2
    go_ret
    exact ⟨rfl, Grew.refl _⟩
  · go_enter Tryd.func7, Tryd.ntmps7
    go_wp2_with (fail)
    refine HD.out.mono ?_
    rintro e w1 ⟨v1, H, i, k, rfl, hO, hd, hg1⟩
    have HV := Lib.hid (And.intro hO.toV hg1)
    obtain ⟨a1, c1, rfl⟩ := hO.sh
    obtain ⟨M, eM⟩ : ∃ M, passL H i k = M := ⟨_, rfl⟩
    have HM := Lib.hid eM
    have ebb : (M != M) = false := by simp
    clear hO hd hg1 HD
    go_wp2_with (fail)
    refine (PassBetween_any _ H i k _ HV.out.1 (HS.out.grew HV.out.2)).mono ?_
    rw [eM]
    rintro e w2 ⟨rfl, hg2⟩
    have H2 := Lib.hid (And.intro (HV.out.1.grew hg2) (HV.out.2.trans hg2))
    clear hg2
    go_wp2_with (fail)
    refine (SPassBetween_any _ H i k _ H2.out.1).mono ?_
    rw [eM]
    rintro e w3 ⟨rfl, hg3⟩
    have H3 := Lib.hid (And.intro (H2.out.1.grew hg3) (H2.out.2.trans hg3))
    clear hg3 H2 HV eM
    go_wp2_with (fail)
    refine (PassBetween_any _ H i k _ H3.out.1 (HS.out.grew H3.out.2)).mono ?_
    rw [HM.out]
    rintro e w30 ⟨rfl, hg30⟩
    replace H3 := Lib.hid (And.intro (H3.out.1.grew hg30) (H3.out.2.trans hg30))
    clear hg30
    cases hc : vCell H i && vCell H k with
    | false =>
      have eM0 : M = -1 := by rw [← HM.out, passL_no hc]
      subst eM0
      clear hc
      go_wp2
      go_ret
      exact ⟨rfl, H3.out.2⟩
    | true =>
      obtain ⟨hci, hck⟩ := (Bool.and_eq_true _ _ ▸ hc : _ ∧ _)
      obtain ⟨hvg, h0, hI, _⟩ := vCell_yes hci
      obtain ⟨_, k0, hK, _⟩ := vCell_yes hck
      obtain ⟨I, rfl⟩ := Int.eq_ofNat_of_zero_le h0
      obtain ⟨K, rfl⟩ := Int.eq_ofNat_of_zero_le k0
      rw [Int.toNat_natCast] at hI hK
      have G := Grid.of hvg
      obtain ⟨n, en⟩ : ∃ n, H.length = n := ⟨_, rfl⟩
      obtain ⟨m, em⟩ : ∃ m, (H.getD 0 []).length = m := ⟨_, rfl⟩
      obtain ⟨N, eN⟩ : ∃ N, n * m = N := ⟨_, rfl⟩
      have hn5 := G.n5
      have hm5 := G.m5
      have hgs := grid_small6 G
      rw [en] at hn5 hI hK
      rw [em] at hm5 hI hK
      rw [eN] at hI hK
      have hN25 : N ≤ 25 := by rw [← eN]; exact Nat.mul_le_mul hn5 hm5
      have hpn : ∀ i, i < n * m → 0 ≤ H.flatten.getD i 0 ∧ H.flatten.getD i 0 ≤ 12 := fun i hi => grid_num G i (by rw [en, em]; exact hi)
      have hpl := flat_grid_len G
      rw [en, em, eN] at hpl
      have hvc : ∀ x : Nat, x < N → vCell H (x : Int) = true := fun x hx => by
        rw [vCell, hvg, Bool.true_and, Bool.and_eq_true, decide_eq_true_eq, decide_eq_true_eq]
        have : ((n * m : Nat) : Int) = (n : Int) * m := by simp
        rw [en, em]
        omega
      have HCI2 : Hid (∀ W, Grew w30 W → Calls Tryd.prog 16 #[.slice a1 H.length c1, .int .i64 I, .int .i64 K] W fun e w' => e = .returned (.int .i64 (climbN n m H.flatten I K)) ∧ Grew W w') := Lib.hid fun W hW => by
        have := ClimbBetween_any _ H (I : Int) (K : Int) W (H3.out.1.grew hW) (HS.out.grew (H3.out.2.trans hW))
        rw [wayV_at en em eN hci hck] at this
        rwa [climbN, eN]
      have HSI2 : Hid (∀ W, Grew w30 W → Calls Tryd.prog 26 #[.slice a1 H.length c1, .int .i64 I, .int .i64 K] W fun e w' => e = .returned (.int .i64 (costT (aroundL n m) H.flatten steepF K N I)) ∧ Grew W w') := Lib.hid fun W hW => by
        have := SteepBetween_any _ H (I : Int) (K : Int) W (H3.out.1.grew hW) (HS.out.grew (H3.out.2.trans hW))
        rwa [wayV_at en em eN hci hck] at this
      have HRH := Lib.hid fun W (hW : Grew w30 W) => rowOf_any _ H W (H3.out.1.grew hW) hgs.1 hgs.2
      have hMp : M = passN n m H.flatten I K := by rw [← HM.out, passL_yes hvg en em hci hck]
      have HF : Hid (M - H.flatten.getD I 0 ≤ climbN n m H.flatten I K ∧ ∀ low, (∀ j, j < N → low ≤ H.flatten.getD j 0) → costT (aroundL n m) H.flatten steepF K N I ≤ M - low) := by
        rw [hMp]
        refine Lib.hid ⟨pass_climb hn5 hm5 hpn (by omega) (by omega), fun low hl => ?_⟩
        have := pass_steep hn5 hm5 hpn (i := I) (k := K) (low := low) (by omega) (by omega) (fun j hj => hl j (by omega))
        rwa [eN] at this
      have hMt := passN_top hn5 hm5 hpn (i := I) (k := K) (by omega) (by omega)
      rw [← hMp] at hMt
      obtain ⟨hM0', hM12⟩ := hMt
      have hM0 : ¬ M < 0 := by omega
      have HPB : Hid (∀ i, i < N → 0 ≤ H.flatten.getD i 0 ∧ H.flatten.getD i 0 ≤ 12) := Lib.hid fun i hi => hpn i (by omega)
      obtain ⟨p, ep⟩ : ∃ p, H.flatten = p := ⟨_, rfl⟩
      rw [ep] at HCI2 HSI2 HRH HF hpl HPB
      have HPL := Lib.hid hpl
      have hIi : (I : Int) < (N : Int) := by omega
      have hN0 : (0 : Int) < (N : Int) := by omega
      clear hc hci hck hvg h0 k0 G en em eN hn5 hm5 hgs hpn hpl hvc hMp ep HM
      go_wp2_with (fail)
      refine (HRH.out _ (Grew.refl _)).mono ?_
      rintro e w4 ⟨g4, c4, rfl, hO4, hg4⟩
      rw [HPL.out] at hO4 ⊢
      have hcI := (hO4.at rfl (i := I) (by rw [HPL.out]; exact hI)).1
      have hc0 := (hO4.at rfl (i := 0) (by rw [HPL.out]; omega)).1
      have HAT : Hid (∀ t W, Grew w4 W → t < N → W.cell? ⟨g4, t, none⟩ = some (.int .i64 (p.getD t 0))) := Lib.hid fun t W hW ht => ((hO4.grew hW).at rfl (i := t) (by rw [HPL.out]; exact ht)).1
      have hxb := HPB.out I hI
      have hzb := HPB.out 0 (by omega)
      obtain ⟨x, ex⟩ : ∃ x, p.getD I 0 = x := ⟨_, rfl⟩
      obtain ⟨x0, ex0⟩ : ∃ x0, p.getD 0 0 = x0 := ⟨_, rfl⟩
      have hf1 := HF.out.1
      rw [ex] at hcI hxb hf1
      rw [ex0] at hc0 hzb
      obtain ⟨hx0, hx1⟩ := hxb
      obtain ⟨hz0, hz1⟩ := hzb
      have HF1 := Lib.hid hf1
      have HG4 : Hid (Grew w30 w4) := Lib.hid hg4
      have HCI := Lib.hid hcI
      clear hO4 hg4 hcI ex ex0 hf1
      go_wp2
      go_loopw [8, 9] (fun lv tv wr => ∃ (t : Nat) (lw : Int), t ≤ N ∧ tv = .int .i64 (t : Int) ∧ lv = .int .i64 lw ∧ 0 ≤ lw ∧ lw ≤ 12 ∧ Hid ((∀ j, j < t → lw ≤ p.getD j 0) ∧ Grew w4 wr)) (fun _ tv _ => N - (intOf tv).toNat)
      case atStart => exact ⟨0, x0, Nat.zero_le _, rfl, rfl, hz0, hz1, fun j hj => absurd hj (Nat.not_lt_zero _), Grew.refl _⟩
      case round =>
        obtain ⟨t, lw, ht, rfl, rfl, hl0, hl1, HX⟩ := hrel
        by_cases hlt : t < N
        · have hti : (t : Int) < (N : Int) := by omega
          have hct := HAT.out t wr HX.out.2 hlt
          have hpb := HPB.out t hlt
          obtain ⟨y, ey⟩ : ∃ y, p.getD t 0 = y := ⟨_, rfl⟩
          rw [ey] at hct hpb
          obtain ⟨hy0, hy1⟩ := hpb
          have HEY := Lib.hid ey
          clear ey
          by_cases hly : y < lw
          · have HN : Hid ((∀ j, j < t + 1 → y ≤ p.getD j 0) ∧ Grew w4 wr) := Lib.hid ⟨fun j hj => by
              by_cases e : j = t
              · subst e; rw [HEY.out]; exact Int.le_refl _
              · have := HX.out.1 j (by omega); omega, HX.out.2⟩
            clear HX
            go_wp2
            go_roundw
            case rel => exact ⟨t + 1, y, by omega, by go_num, by first | rfl | (congr 1; omega) | (congr 1; simp; omega), hy0, hy1, HN.out⟩
            case measure => simp [intOf]; omega
          · have HN : Hid ((∀ j, j < t + 1 → lw ≤ p.getD j 0) ∧ Grew w4 wr) := Lib.hid ⟨fun j hj => by
              by_cases e : j = t
              · subst e; rw [HEY.out]; omega
              · exact HX.out.1 j (by omega), HX.out.2⟩
            clear HX
            go_wp2
            go_roundw
            case rel => exact ⟨t + 1, lw, by omega, by go_num, by first | rfl | (congr 1; omega) | (congr 1; simp; omega), hl0, hl1, HN.out⟩
            case measure => simp [intOf]; omega
        · obtain rfl : t = N := by omega
          have HG : Hid (Grew w4 wr) := Lib.hid HX.out.2
          have hcI := HG.out.cell HCI.out
          have hst := HF.out.2 lw HX.out.1
          have hcl := HF1.out
          obtain ⟨z1, ez1⟩ : ∃ z1, climbN n m p I K = z1 := ⟨_, rfl⟩
          obtain ⟨z2, ez2⟩ : ∃ z2, costT (aroundL n m) p steepF K t I = z2 := ⟨_, rfl⟩
          rw [ez1] at hcl
          rw [ez2] at hst
          replace HCI2 : Hid (∀ W, Grew w4 W → Calls Tryd.prog 16 #[.slice a1 H.length c1, .int .i64 I, .int .i64 K] W fun e w' => e = .returned (.int .i64 z1) ∧ Grew W w') := Lib.hid fun W hW => by
            have := HCI2.out W (HG4.out.trans hW)
            rwa [ez1] at this
          replace HSI2 : Hid (∀ W, Grew w4 W → Calls Tryd.prog 26 #[.slice a1 H.length c1, .int .i64 I, .int .i64 K] W fun e w' => e = .returned (.int .i64 z2) ∧ Grew W w') := Lib.hid fun W hW => by
            have := HSI2.out W (HG4.out.trans hW)
            rwa [ez2] at this
          have HGE : Hid (IntKind.i64.wrap (M - x) ≤ z1) := Lib.hid (by rw [IntWalk.i64_in _ (by omega)]; exact hcl)
          have HLE : Hid (z2 ≤ IntKind.i64.wrap (M - lw)) := Lib.hid (by rw [IntWalk.i64_in _ (by omega)]; exact hst)
          clear ez1 ez2 HX HF hst hcl
          go_wp2_with (fail)
          refine wp_region_noPanic ?_
          refine wp_region_held_drew (S := fun W => W.cell? ⟨g4, I, none⟩ = some (.int .i64 x) ∧ Grew w4 W) (by kernel_rfl) (by exact ⟨(Grew.drew (Grew.refl wr)).cell hcI, HG.out.drew⟩) (fun hHeld => ?_)
          refine wpAnyH_take (i := 0) (oi := { dst := some 51, op := Op.move (Operand.tmp 3), type := 23, pos := _, after := #[], guard := none }) (v := ?_) rfl (by kernel_rfl) (by kernel_rfl) (by kernel_rfl) (fun _ _ _ h => h) (Or.inl ⟨by rfl, ?hy⟩) (by assumption) ?_
          case hy => (intro w hSw; (try dsimp only at hSw); go_simp; try with_reducible rfl)
          try simp only [Act.put, List.setIfInBounds_toArray, List.set_cons_zero, List.set_cons_succ]
          refine wpAnyH_take (i := 1) (oi := { dst := some 52, op := Op.move (Operand.tmp 4), type := 3, pos := _, after := #[], guard := none }) (v := ?_) rfl (by kernel_rfl) (by kernel_rfl) (by kernel_rfl) (fun _ _ _ h => h) (Or.inl ⟨by rfl, ?hy⟩) (by assumption) ?_
          case hy => (intro w hSw; (try dsimp only at hSw); go_simp; try with_reducible rfl)
          try simp only [Act.put, List.setIfInBounds_toArray, List.set_cons_zero, List.set_cons_succ]
          refine wpAnyH_take (i := 2) (oi := { dst := some 53, op := Op.move (Operand.tmp 5), type := 3, pos := _, after := #[], guard := none }) (v := ?_) rfl (by kernel_rfl) (by kernel_rfl) (by kernel_rfl) (fun _ _ _ h => h) (Or.inl ⟨by rfl, ?hy⟩) (by assumption) ?_
          case hy => (intro w hSw; (try dsimp only at hSw); go_simp; try with_reducible rfl)
          try simp only [Act.put, List.setIfInBounds_toArray, List.set_cons_zero, List.set_cons_succ]
          refine wpAnyH_take (i := 4) (oi := { dst := some 55, op := Op.move (Operand.tmp 6), type := 3, pos := _, after := #[], guard := none }) (v := ?_) rfl (by kernel_rfl) (by kernel_rfl) (by kernel_rfl) (fun _ _ _ h => h) (Or.inl ⟨by rfl, ?hy⟩) (by assumption) ?_
          case hy => (intro w hSw; (try dsimp only at hSw); go_simp; try with_reducible rfl)
          try simp only [Act.put, List.setIfInBounds_toArray, List.set_cons_zero, List.set_cons_succ]
          refine wpAnyH_take (i := 5) (oi := { dst := some 56, op := Op.move (Operand.tmp 7), type := 27, pos := _, after := #[], guard := none }) (v := ?_) rfl (by kernel_rfl) (by kernel_rfl) (by kernel_rfl) (fun _ _ _ h => h) (Or.inl ⟨by rfl, ?hy⟩) (by assumption) ?_
          case hy => (intro w hSw; (try dsimp only at hSw); go_simp; try with_reducible rfl)
          try simp only [Act.put, List.setIfInBounds_toArray, List.set_cons_zero, List.set_cons_succ]
          refine wpAnyH_take (i := 6) (oi := { dst := some 57, op := Op.move (Operand.tmp 4), type := 3, pos := _, after := #[], guard := none }) (v := ?_) rfl (by kernel_rfl) (by kernel_rfl) (by kernel_rfl) (fun _ _ _ h => h) (Or.inl ⟨by rfl, ?hy⟩) (by assumption) ?_
          case hy => (intro w hSw; (try dsimp only at hSw); go_simp; try with_reducible rfl)
          try simp only [Act.put, List.setIfInBounds_toArray, List.set_cons_zero, List.set_cons_succ]
          refine wpAnyH_take (i := 7) (oi := { dst := some 58, op := Op.indexAddr 27 (Operand.tmp 56) (Operand.tmp 57), type := 0, pos := _, after := #[{ on := 5, ground := Ground.data }, { on := 6, ground := Ground.data }], guard := none }) (v := ?_) rfl (by kernel_rfl) (by kernel_rfl) (by kernel_rfl) (fun _ _ _ h => h) (Or.inl ⟨by rfl, ?hy⟩) (by assumption) ?_
          case hy => (intro w hSw; (try dsimp only at hSw); go_simp; try with_reducible rfl)
          try simp only [Act.put, List.setIfInBounds_toArray, List.set_cons_zero, List.set_cons_succ]
          refine wpAnyH_take (i := 8) (oi := { dst := some 59, op := Op.load 3 (Operand.tmp 58), type := 3, pos := _, after := #[{ on := 7, ground := Ground.data }], guard := none }) (v := ?_) rfl (by kernel_rfl) (by kernel_rfl) (by kernel_rfl) (fun _ _ _ h => h) (Or.inl ⟨by rfl, ?hy⟩) (by assumption) ?_
          case hy => (intro w hSw; (try dsimp only at hSw); go_simp; try with_reducible rfl)
          try simp only [Act.put, List.setIfInBounds_toArray, List.set_cons_zero, List.set_cons_succ]
          refine wpAnyH_take (i := 9) (oi := { dst := some 60, op := Op.binOp BinOp.sub 3 (Operand.tmp 55) (Operand.tmp 59) 3, type := 3, pos := _, after := #[{ on := 4, ground := Ground.data }, { on := 8, ground := Ground.data }], guard := none }) (v := ?_) rfl (by kernel_rfl) (by kernel_rfl) (by kernel_rfl) (fun _ _ _ h => h) (Or.inl ⟨by rfl, ?hy⟩) (by assumption) ?_
          case hy => (intro w hSw; (try dsimp only at hSw); go_simp; try with_reducible rfl)
          try simp only [Act.put, List.setIfInBounds_toArray, List.set_cons_zero, List.set_cons_succ]
          refine wpAnyH_ready (rs := [3]) (by kernel_rfl) (by simp) ?_
          refine AllReadyH.cons (i := 3) (o := { dst := some 54, op := Op.call { callee := Callee.value (Operand.func 16), args := #[Operand.tmp 51, Operand.tmp 52, Operand.tmp 53], argTypes := #[23, 3, 3] }, type := 3, pos := _, after := #[{ on := 0, ground := Ground.data }, { on := 1, ground := Ground.data }, { on := 2, ground := Ground.data }], guard := none }) rfl (fun KK hKK => ?_) AllReadyH.nil
          go_simp
          go_at_call 16
          (with_reducible refine (HCI2.out _ hHeld.2).mono ?_)
          rintro e w10 ⟨rfl, hg10⟩
          have HGw10 := Lib.hid hg10
          clear hg10
          refine hKK.out _ _ (by exact ⟨HGw10.out.cell hHeld.1, hHeld.2.trans HGw10.out⟩) (fun hHeld => ?_)
          clear hKK KK
          try simp only [Act.put, List.setIfInBounds_toArray, List.set_cons_zero, List.set_cons_succ]
          refine wpAnyH_take (i := 10) (oi := { dst := some 61, op := Op.binOp BinOp.geq 3 (Operand.tmp 54) (Operand.tmp 60) 3, type := 4, pos := _, after := #[{ on := 3, ground := Ground.data }, { on := 9, ground := Ground.data }], guard := none }) (v := .bool true) rfl (by kernel_rfl) (by kernel_rfl) (by kernel_rfl) (fun _ _ _ h => h) (Or.inl ⟨by rfl, ?hy⟩) (by assumption) ?_
          case hy => (intro w hSw; (try dsimp only at hSw); go_simp <;> (try with_reducible rfl) <;> (try simp [HGE.out]))
          try simp only [Act.put, List.setIfInBounds_toArray, List.set_cons_zero, List.set_cons_succ]
          refine wpAnyH_take (i := 11) (oi := { dst := some 62, op := Op.move (Operand.tmp 61), type := 4, pos := _, after := #[{ on := 10, ground := Ground.data }, { on := 3, ground := Ground.chain }], guard := none }) (v := ?_) rfl (by kernel_rfl) (by kernel_rfl) (by kernel_rfl) (fun _ _ _ h => h) (Or.inl ⟨by rfl, ?hy⟩) (by assumption) ?_
          case hy => (intro w hSw; (try dsimp only at hSw); go_simp; try with_reducible rfl)
          try simp only [Act.put, List.setIfInBounds_toArray, List.set_cons_zero, List.set_cons_succ]
          refine wpAnyH_take (i := 12) (oi := { dst := some 63, op := Op.move (Operand.tmp 3), type := 23, pos := _, after := #[{ on := 11, ground := Ground.guard }], guard := some (11, true) }) (v := ?_) rfl (by kernel_rfl) (by kernel_rfl) (by kernel_rfl) (fun _ _ _ h => h) (Or.inl ⟨by rfl, ?hy⟩) (by assumption) ?_
          case hy => (intro w hSw; (try dsimp only at hSw); go_simp; try with_reducible rfl)
          try simp only [Act.put, List.setIfInBounds_toArray, List.set_cons_zero, List.set_cons_succ]
          refine wpAnyH_take (i := 13) (oi := { dst := some 64, op := Op.move (Operand.tmp 4), type := 3, pos := _, after := #[{ on := 11, ground := Ground.guard }], guard := some (11, true) }) (v := ?_) rfl (by kernel_rfl) (by kernel_rfl) (by kernel_rfl) (fun _ _ _ h => h) (Or.inl ⟨by rfl, ?hy⟩) (by assumption) ?_
          case hy => (intro w hSw; (try dsimp only at hSw); go_simp; try with_reducible rfl)
          try simp only [Act.put, List.setIfInBounds_toArray, List.set_cons_zero, List.set_cons_succ]
          refine wpAnyH_take (i := 14) (oi := { dst := some 65, op := Op.move (Operand.tmp 5), type := 3, pos := _, after := #[{ on := 11, ground := Ground.guard }], guard := some (11, true) }) (v := ?_) rfl (by kernel_rfl) (by kernel_rfl) (by kernel_rfl) (fun _ _ _ h => h) (Or.inl ⟨by rfl, ?hy⟩) (by assumption) ?_
          case hy => (intro w hSw; (try dsimp only at hSw); go_simp; try with_reducible rfl)
          try simp only [Act.put, List.setIfInBounds_toArray, List.set_cons_zero, List.set_cons_succ]
          refine wpAnyH_take (i := 16) (oi := { dst := some 67, op := Op.move (Operand.tmp 6), type := 3, pos := _, after := #[{ on := 11, ground := Ground.guard }], guard := some (11, true) }) (v := ?_) rfl (by kernel_rfl) (by kernel_rfl) (by kernel_rfl) (fun _ _ _ h => h) (Or.inl ⟨by rfl, ?hy⟩) (by assumption) ?_
          case hy => (intro w hSw; (try dsimp only at hSw); go_simp; try with_reducible rfl)
          try simp only [Act.put, List.setIfInBounds_toArray, List.set_cons_zero, List.set_cons_succ]
          refine wpAnyH_take (i := 17) (oi := { dst := some 68, op := Op.move (Operand.tmp 8), type := 3, pos := _, after := #[{ on := 11, ground := Ground.guard }], guard := some (11, true) }) (v := ?_) rfl (by kernel_rfl) (by kernel_rfl) (by kernel_rfl) (fun _ _ _ h => h) (Or.inl ⟨by rfl, ?hy⟩) (by assumption) ?_
          case hy => (intro w hSw; (try dsimp only at hSw); go_simp; try with_reducible rfl)
          try simp only [Act.put, List.setIfInBounds_toArray, List.set_cons_zero, List.set_cons_succ]
          refine wpAnyH_take (i := 18) (oi := { dst := some 69, op := Op.binOp BinOp.sub 3 (Operand.tmp 67) (Operand.tmp 68) 3, type := 3, pos := _, after := #[{ on := 16, ground := Ground.data }, { on := 17, ground := Ground.data }, { on := 11, ground := Ground.guard }], guard := some (11, true) }) (v := ?_) rfl (by kernel_rfl) (by kernel_rfl) (by kernel_rfl) (fun _ _ _ h => h) (Or.inl ⟨by rfl, ?hy⟩) (by assumption) ?_
          case hy => (intro w hSw; (try dsimp only at hSw); go_simp; try with_reducible rfl)
          try simp only [Act.put, List.setIfInBounds_toArray, List.set_cons_zero, List.set_cons_succ]
          refine wpAnyH_ready (rs := [15]) (by kernel_rfl) (by simp) ?_
          refine AllReadyH.cons (i := 15) (o := { dst := some 66, op := Op.call { callee := Callee.value (Operand.func 26), args := #[Operand.tmp 63, Operand.tmp 64, Operand.tmp 65], argTypes := #[23, 3, 3] }, type := 3, pos := _, after := #[{ on := 12, ground := Ground.data }, { on := 13, ground := Ground.data }, { on := 14, ground := Ground.data }, { on := 11, ground := Ground.chain }, { on := 11, ground := Ground.guard }], guard := some (11, true) }) rfl (fun KK hKK => ?_) AllReadyH.nil
          go_simp
          go_at_call 26
          (with_reducible refine (HSI2.out _ hHeld.2).mono ?_)
          rintro e w11 ⟨rfl, hg10⟩
          have HGw11 := Lib.hid hg10
          clear hg10
          refine hKK.out _ _ (by exact ⟨HGw11.out.cell hHeld.1, hHeld.2.trans HGw11.out⟩) (fun hHeld => ?_)
          clear hKK KK
          try simp only [Act.put, List.setIfInBounds_toArray, List.set_cons_zero, List.set_cons_succ]
          refine wpAnyH_take (i := 19) (oi := { dst := some 70, op := Op.binOp BinOp.leq 3 (Operand.tmp 66) (Operand.tmp 69) 3, type := 4, pos := _, after := #[{ on := 15, ground := Ground.data }, { on := 18, ground := Ground.data }, { on := 11, ground := Ground.guard }], guard := some (11, true) }) (v := ?_) rfl (by kernel_rfl) (by kernel_rfl) (by kernel_rfl) (fun _ _ _ h => h) (Or.inl ⟨by rfl, ?hy⟩) (by assumption) ?_
          case hy => (intro w hSw; (try dsimp only at hSw); go_simp; try with_reducible rfl)
          try simp only [Act.put, List.setIfInBounds_toArray, List.set_cons_zero, List.set_cons_succ]
          refine wpAnyH_take (i := 20) (oi := { dst := some 71, op := Op.pick (Operand.tmp 62) (Operand.tmp 70) (Operand.const (Value.bool false)), type := 4, pos := _, after := #[{ on := 11, ground := Ground.data }, { on := 19, ground := Ground.data }], guard := none }) (v := ?_) rfl (by kernel_rfl) (by kernel_rfl) (by kernel_rfl) (fun _ _ _ h => h) (Or.inl ⟨by rfl, ?hy⟩) (by assumption) ?_
          case hy => (intro w hSw; (try dsimp only at hSw); go_simp; try with_reducible rfl)
          try simp only [Act.put, List.setIfInBounds_toArray, List.set_cons_zero, List.set_cons_succ]
          refine wpAnyH_take (i := 21) (oi := { dst := some 2, op := Op.assign (Operand.tmp 71), type := 4, pos := _, after := #[{ on := 20, ground := Ground.data }, { on := 15, ground := Ground.chain }, { on := 0, ground := Ground.phase }, { on := 1, ground := Ground.phase }, { on := 2, ground := Ground.phase }, { on := 3, ground := Ground.phase }, { on := 4, ground := Ground.phase }, { on := 5, ground := Ground.phase }, { on := 6, ground := Ground.phase }, { on := 7, ground := Ground.phase }, { on := 8, ground := Ground.phase }, { on := 9, ground := Ground.phase }, { on := 10, ground := Ground.phase }, { on := 11, ground := Ground.phase }, { on := 12, ground := Ground.phase }, { on := 13, ground := Ground.phase }, { on := 14, ground := Ground.phase }, { on := 15, ground := Ground.phase }, { on := 16, ground := Ground.phase }, { on := 17, ground := Ground.phase }, { on := 18, ground := Ground.phase }, { on := 19, ground := Ground.phase }, { on := 20, ground := Ground.phase }], guard := none }) (v := ?_) rfl (by kernel_rfl) (by kernel_rfl) (by kernel_rfl) (fun _ _ _ h => h) (Or.inl ⟨by rfl, ?hy⟩) (by assumption) ?_
          case hy => (intro w hSw; (try dsimp only at hSw); go_simp; try with_reducible rfl)
          try simp only [Act.put, List.setIfInBounds_toArray, List.set_cons_zero, List.set_cons_succ]
          refine wpAnyH_done (by kernel_rfl) ?_ _
          refine NoPanic.normal ?_
          have HN : Hid (Grew w w11) := Lib.hid (H3.out.2.trans (HG4.out.trans hHeld.2))
          clear hHeld
          go_wp2
          go_ret
          exact ⟨ret_bool (by simp; exact HLE.out), HN.out⟩
end Go.Proofs.YtdhokofcgfolnaaDoor
