/- FnSteepBetween: for every input the law returns true, and the input reads as it did, where the table of steps reads as the program's text lays it; tied to that text. Its conditions: that one listed variable, tied. -/
import Derived.Test.YtdhokofcgfolnaaDoorSSteep
import Derived.Test.YtdhokofcgfolnaaDoorDraws4
import Derived.Test.YtdhokofcgfolnaaDoorRowOf
import Derived.Lib.MinMax
import Derived.Test.YtdhokofcgfolnaaDoorCameRows
import Derived.Test.YtdhokofcgfolnaaDoorTied
import Derived.Test.YtdhokofcgfolnaaDoorWords
import Derived.Test.YtdhokofcgfolnaaDoorTie
import Derived.Test.YtdhokofcgfolnaaDoorCards
import Derived.SevenTiedAt
/- The law FnSteepBetween returns true. -/
namespace Go.Proofs.YtdhokofcgfolnaaDoor
open Go.RowKit


section
variable {n m : Nat} {p : List Int}
theorem Walk.appendS {ar : Nat → List Int} {s t i x k : Nat} {u v : Int} (h : Walk ar p steepF s i x u) (g : Walk ar p steepF t x k v) : Walk ar p steepF (s + t) i k (max u v) := by
  induction h with
  | nil s i =>
    have := g.pos steepF_rule
    rw [show max (0 : Int) v = v by omega]
    exact g.le (by omega)
  | cons h1 _ ih =>
    have := Walk.cons (f := steepF) h1 (ih g)
    rw [show ∀ a b c : Int, steepF a (max b c) = max (steepF a b) c from fun a b c => by unfold steepF; omega] at this
    rw [Nat.add_right_comm]
    exact this
theorem Walk.backS (hn : n ≤ 5) (hm : m ≤ 5) {s i k : Nat} {v : Int} (h : Walk (aroundL n m) p steepF s i k v) (hi : i < n * m) : Walk (aroundL n m) p steepF s k i v := by
  induction h with
  | nil s i => exact .nil _ _
  | cons h1 _ ih =>
    have := (ih (around_lt hn hm hi h1)).snocS (around_back hn hm hi h1)
    rw [show ∀ (a b v : Int), steepF (b - a) v = max v (max (a - b) (-(a - b))) from fun a b v => by unfold steepF; omega]
    exact this
theorem Walk.steep (hn : n ≤ 5) (hm : m ≤ 5) {s i k : Nat} {v : Int} (h : Walk (aroundL n m) p upF s i k v) (hi : i < n * m) : 0 ≤ v - (p.getD k 0 - p.getD i 0) ∧ ∃ w, w ≤ max v (v - (p.getD k 0 - p.getD i 0)) ∧ Walk (aroundL n m) p steepF s i k w := by
  induction h with
  | nil s i => exact ⟨by omega, 0, by omega, .nil _ _⟩
  | cons h1 h2 ih =>
    obtain ⟨h3, w, h4, h5⟩ := ih (around_lt hn hm hi h1)
    have h6 := h2.pos upF_rule
    refine ⟨by unfold upF; omega, _, ?_, .cons h1 h5⟩
    unfold steepF upF
    omega

/-- The least steepest step from i to k. -/
def steepN (n m : Nat) (p : List Int) (i k : Nat) : Int := costT (aroundL n m) p steepF k (n * m) i
theorem steepN_walk (hn : n ≤ 5) (hm : m ≤ 5) (hp : ∀ i, i < n * m → 0 ≤ p.getD i 0 ∧ p.getD i 0 ≤ 12) {i k : Nat} (hi : i < n * m) (hk : k < n * m) : 0 ≤ steepN n m p i k ∧ (∃ s, Walk (aroundL n m) p steepF s i k (steepN n m p i k)) ∧ ∀ s v, Walk (aroundL n m) p steepF s i k v → steepN n m p i k ≤ v := by
  have hst := short_still (p := p) (e := k) steepF_rule steep_short (around_in hn hm) (fun i x hx => around_nonneg hx)
  have hl := hst.least steepF_rule (around_in hn hm) (fun i x hx => around_nonneg hx) i hi
  rw [← hst.all (around_in hn hm) (n * m) (by omega) i hi] at hl
  rcases hl with ⟨_, h⟩ | ⟨h1, h2, h3⟩
  · obtain ⟨s, v, hw⟩ := reach_walk (p := p) (all_joined hn hm hp hi hk (J := fun _ _ => true) fun _ _ _ _ => rfl)
    obtain ⟨_, w, _, h5⟩ := hw.steep hn hm hi
    exact absurd ⟨s, h5⟩ (h w)
  · exact ⟨h1, h2, fun s v hw => h3 v ⟨s, hw⟩⟩
theorem steepN_tri (hn : n ≤ 5) (hm : m ≤ 5) (hp : ∀ i, i < n * m → 0 ≤ p.getD i 0 ∧ p.getD i 0 ≤ 12) {i x k : Nat} (hi : i < n * m) (hx : x < n * m) (hk : k < n * m) : steepN n m p i k ≤ max (steepN n m p i x) (steepN n m p x k) := by
  obtain ⟨_, ⟨s, h1⟩, _⟩ := steepN_walk hn hm hp hi hx
  obtain ⟨_, ⟨t, h2⟩, _⟩ := steepN_walk hn hm hp hx hk
  exact (steepN_walk hn hm hp hi hk).2.2 _ _ (h1.appendS h2)
theorem steepN_back (hn : n ≤ 5) (hm : m ≤ 5) (hp : ∀ i, i < n * m → 0 ≤ p.getD i 0 ∧ p.getD i 0 ≤ 12) {i k : Nat} (hi : i < n * m) (hk : k < n * m) : steepN n m p k i = steepN n m p i k := by
  obtain ⟨_, ⟨s, h1⟩, h2⟩ := steepN_walk hn hm hp hi hk
  obtain ⟨_, ⟨t, h3⟩, h4⟩ := steepN_walk hn hm hp hk hi
  have h5 := h4 _ _ (h1.backS hn hm hi)
  have h6 := h2 _ _ (h3.backS hn hm hk)
  omega
theorem steepN_climb (hn : n ≤ 5) (hm : m ≤ 5) (hp : ∀ i, i < n * m → 0 ≤ p.getD i 0 ∧ p.getD i 0 ≤ 12) {i k : Nat} (hi : i < n * m) (hk : k < n * m) : steepN n m p i k ≤ max (climbN n m p i k) (climbN n m p k i) := by
  obtain ⟨_, ⟨s, h1⟩, _⟩ := climbN_walk hn hm hp hi hk
  obtain ⟨_, w, h3, h4⟩ := h1.steep hn hm hi
  have h5 := (steepN_walk hn hm hp hi hk).2.2 _ _ h4
  rw [climbN_back hn hm hp hi hk]
  omega
end

theorem grid_small5 {h : List (List Int)} {m : Nat} (G : Grid h m) : h.length ≤ 1000 ∧ ∀ r, r < h.length → 1 ≤ (h.getD r []).length ∧ (h.getD r []).length ≤ 1000 :=
  ⟨by have := G.n5; omega, fun r hr => by have := G.len r hr; have := G.m1; have := G.m5; omega⟩

set_option maxRecDepth 100000 in
set_option maxHeartbeats 8000000 in
theorem FnSteepBetween_any (v : Value) (bs : List Int) (w : World) (hv : NumsV .u8 w v bs) (hb : ∀ i, i < bs.length → 0 ≤ bs.getD i 0 ∧ bs.getD i 0 ≤ 255) (hS : Steps w) :
    Calls Tryd.prog 6 #[v] w fun e w' => e = .returned (.bool true) ∧ Grew w w' := by
  have HD := Lib.hid (DrawSteepBetween_any v bs w hv hb)
  have HS := Lib.hid hS
  obtain ⟨a, b, o, c, rfl, ⟨hlc, hcb⟩, _, _⟩ := hv.shape
  clear hv hb hS
  by_cases hbig : 1048576 < bs.length
  · go_enter Tryd.func6, Tryd.ntmps6
    go_wp2
    go_ret
    exact ⟨rfl, Grew.refl _⟩
  · go_enter Tryd.func6, Tryd.ntmps6
    go_wp2_with (fail)
    refine HD.out.mono ?_
    rintro e w1 ⟨v1, H, i, k, rfl, hO, hd, hg1⟩
    have HV := Lib.hid (And.intro hO.toV hg1)
    obtain ⟨a1, c1, rfl⟩ := hO.sh
    obtain ⟨M, eM⟩ : ∃ M, wayV steepF H i k = M := ⟨_, rfl⟩
    have HM := Lib.hid eM
    have ebb : (M != M) = false := by simp
    clear hO hd hg1 HD
    go_wp2_with (fail)
    refine (SteepBetween_any _ H i k _ HV.out.1 (HS.out.grew HV.out.2)).mono ?_
    rw [eM]
    rintro e w2 ⟨rfl, hg2⟩
    have H2 := Lib.hid (And.intro (HV.out.1.grew hg2) (HV.out.2.trans hg2))
    clear hg2
    go_wp2_with (fail)
    refine (SSteepBetween_any _ H i k _ H2.out.1).mono ?_
    rw [eM]
    rintro e w3 ⟨rfl, hg3⟩
    have H3 := Lib.hid (And.intro (H2.out.1.grew hg3) (H2.out.2.trans hg3))
    clear hg3 H2 HV eM
    cases hc : vCell H i && vCell H k with
    | false =>
      have eM0 : M = -1 := by rw [← HM.out, wayV_no hc]
      subst eM0
      clear hc
      go_wp2_with (fail)
      refine (SSteepBetween_any _ H i k _ H3.out.1).mono ?_
      rw [HM.out]
      rintro e w5 ⟨rfl, hg5⟩
      have H5 := Lib.hid (H3.out.2.trans hg5)
      clear hg5
      go_wp2
      go_ret
      exact ⟨rfl, H5.out⟩
    | true =>
      obtain ⟨hci, hck⟩ := (Bool.and_eq_true _ _ ▸ hc : _ ∧ _)
      obtain ⟨hvg, h0, hI, _⟩ := vCell_yes hci
      obtain ⟨_, k0, hK, _⟩ := vCell_yes hck
      obtain ⟨I, rfl⟩ := Int.eq_ofNat_of_zero_le h0
      obtain ⟨K, rfl⟩ := Int.eq_ofNat_of_zero_le k0
      rw [Int.toNat_natCast] at hI hK
      have G := Grid.of hvg
      obtain ⟨n, en⟩ : ∃ n, H.length = n := ⟨_, rfl⟩
      obtain ⟨m, em⟩ : ∃ m, (H.getD 0 []).length = m := ⟨_, rfl⟩
      obtain ⟨N, eN⟩ : ∃ N, n * m = N := ⟨_, rfl⟩
      have hn5 := G.n5
      have hm5 := G.m5
      have hgs := grid_small5 G
      rw [en] at hn5 hI hK
      rw [em] at hm5 hI hK
      rw [eN] at hI hK
      have hN25 : N ≤ 25 := by rw [← eN]; exact Nat.mul_le_mul hn5 hm5
      have hpn : ∀ i, i < n * m → 0 ≤ H.flatten.getD i 0 ∧ H.flatten.getD i 0 ≤ 12 := fun i hi => grid_num G i (by rw [en, em]; exact hi)
      have hpl := flat_grid_len G
      rw [en, em, eN] at hpl
      have hvc : ∀ x : Nat, x < N → vCell H (x : Int) = true := fun x hx => by
        rw [vCell, hvg, Bool.true_and, Bool.and_eq_true, decide_eq_true_eq, decide_eq_true_eq]
        have : ((n * m : Nat) : Int) = (n : Int) * m := by simp
        rw [en, em]
        omega
      have HPA : Hid (∀ (x y : Nat) W, Grew w3 W → x < N → y < N → Calls Tryd.prog 26 #[.slice a1 H.length c1, .int .i64 x, .int .i64 y] W fun e w' => e = .returned (.int .i64 (steepN n m H.flatten x y)) ∧ Grew W w') := Lib.hid fun x y W hW hx hy => by
        have := SteepBetween_any _ H (x : Int) (y : Int) W (H3.out.1.grew hW) (HS.out.grew (H3.out.2.trans hW))
        rw [wayV_yes en em eN (hvc x hx) (hvc y hy)] at this
        rwa [steepN, eN]
      have HCA : Hid (∀ (x y : Nat) W, Grew w3 W → x < N → y < N → Calls Tryd.prog 16 #[.slice a1 H.length c1, .int .i64 x, .int .i64 y] W fun e w' => e = .returned (.int .i64 (climbN n m H.flatten x y)) ∧ Grew W w') := Lib.hid fun x y W hW hx hy => by
        have := ClimbBetween_any _ H (x : Int) (y : Int) W (H3.out.1.grew hW) (HS.out.grew (H3.out.2.trans hW))
        rw [wayV_yes en em eN (hvc x hx) (hvc y hy)] at this
        rwa [climbN, eN]
      have HRH := Lib.hid fun W (hW : Grew w3 W) => rowOf_any _ H W (H3.out.1.grew hW) hgs.1 hgs.2
      have hMp : M = steepN n m H.flatten I K := by rw [← HM.out, wayV_yes en em eN hci hck, steepN, eN]
      have HF : Hid (steepN n m H.flatten K I = M ∧ M ≤ max (climbN n m H.flatten I K) (climbN n m H.flatten K I) ∧ ∀ x, x < N → M ≤ max (steepN n m H.flatten I x) (steepN n m H.flatten x K)) := by
        rw [hMp]
        exact Lib.hid ⟨steepN_back hn5 hm5 hpn (by omega) (by omega), steepN_climb hn5 hm5 hpn (by omega) (by omega), fun x hx => steepN_tri hn5 hm5 hpn (by omega) (by omega) (by omega)⟩
      have hM0 : ¬ M < 0 := by have := (steepN_walk hn5 hm5 hpn (i := I) (k := K) (by omega) (by omega)).1; omega
      obtain ⟨p, ep⟩ : ∃ p, H.flatten = p := ⟨_, rfl⟩
      rw [ep] at HPA HCA HRH HF hpl
      have HPL := Lib.hid hpl
      clear hc hci hck hvg h0 k0 G en em eN hn5 hm5 hgs hpn hpl hvc hMp ep HM
      go_wp2_with (fail)
      refine (HRH.out _ (Grew.refl _)).mono ?_
      rintro e w4 ⟨g4, c4, rfl, hO4, hg4⟩
      rw [HPL.out] at hO4 ⊢
      have HG4 : Hid (Grew w3 w4) := Lib.hid hg4
      clear hO4 hg4
      go_wp2
      go_loopw [8] (fun i wr => ∃ t : Nat, t ≤ N + 1 ∧ i = .int .i64 (t : Int) ∧ Hid (Grew w4 wr)) (fun i _ => N + 2 - (intOf i).toNat)
      case atStart => exact ⟨0, by omega, rfl, Grew.refl _⟩
      case round =>
        obtain ⟨t, ht, rfl, HG⟩ := hrel
        by_cases hlt : t < N
        · have H1 := Lib.hid (HPA.out I t wr (HG4.out.trans HG.out) hI hlt)
          have H2 := Lib.hid fun W (hW : Grew wr W) => HPA.out t K W (HG4.out.trans (HG.out.trans hW)) hlt hK
          have hmx := HF.out.2.2 t hlt
          obtain ⟨z1, ez1⟩ : ∃ z1, steepN n m p I t = z1 := ⟨_, rfl⟩
          obtain ⟨z2, ez2⟩ : ∃ z2, steepN n m p t K = z2 := ⟨_, rfl⟩
          rw [ez1] at H1 hmx
          rw [ez2] at H2 hmx
          have hti : (t : Int) < (N : Int) := by omega
          have hnl : ¬ max z1 z2 < M := by omega
          clear ez1 ez2
          go_wp2_with (fail)
          refine H1.out.mono ?_
          rintro e w5 ⟨rfl, hg5⟩
          have HG5 := Lib.hid hg5
          clear hg5
          go_wp2_with (fail)
          refine (H2.out _ HG5.out).mono ?_
          rintro e w6 ⟨rfl, hg6⟩
          have HG6 : Hid (Grew w4 w6) := Lib.hid (HG.out.trans (HG5.out.trans hg6))
          clear hg6
          go_wp2
          go_roundw
          case rel => exact ⟨t + 2, by omega, by go_num, HG6.out⟩
          case measure => simp [intOf]; omega
        · have hti : ¬ (t : Int) < (N : Int) := by omega
          have HP := Lib.hid (HPA.out K I wr (HG4.out.trans HG.out) hK hI)
          have hPM := HF.out.1
          rw [hPM] at HP
          have HC1 := Lib.hid fun W (hW : Grew wr W) => HCA.out I K W (HG4.out.trans (HG.out.trans hW)) hI hK
          have HC2 := Lib.hid fun W (hW : Grew wr W) => HCA.out K I W (HG4.out.trans (HG.out.trans hW)) hK hI
          have hle := HF.out.2.1
          obtain ⟨z1, ez1⟩ : ∃ z1, climbN n m p I K = z1 := ⟨_, rfl⟩
          obtain ⟨z2, ez2⟩ : ∃ z2, climbN n m p K I = z2 := ⟨_, rfl⟩
          rw [ez1] at hle
          rw [ez2] at hle
          simp only [ez1] at HC1
          simp only [ez2] at HC2
          have hd : decide (M ≤ max z1 z2) = true := decide_eq_true hle
          have eb : (M == M) = true := by simp
          clear ez1 ez2 hPM
          go_wp2_with (fail)
          refine HP.out.mono ?_
          rintro e w5 ⟨rfl, hg5⟩
          have HG5 := Lib.hid hg5
          clear hg5
          go_wp2_with (fail)
          refine (HC1.out _ HG5.out).mono ?_
          rintro e w6 ⟨rfl, hg6⟩
          have HG6 := Lib.hid (HG5.out.trans hg6)
          clear hg6
          go_wp2_with (fail)
          refine (HC2.out _ HG6.out).mono ?_
          rintro e w7 ⟨rfl, hg7⟩
          have HN : Hid (Grew w w7) := Lib.hid (H3.out.2.trans (HG4.out.trans (HG.out.trans (HG6.out.trans hg7))))
          clear hg7
          by_cases hzz : z1 < z2
          all_goals
            go_wp2
            go_ret
            exact ⟨ret_bool (by simp; try omega), HN.out⟩
end Go.Proofs.YtdhokofcgfolnaaDoor
namespace Go.Proofs.YtdhokofcgfolnaaDoor.pSteepBetween
open Go.RowKit Go.ChangeShapes Go.WideShapes Go.ChangeAt

set_option maxRecDepth 100000 in
theorem lifted (os : Os) (started : os.Started) (H : Type) (enc : TypeId × Value → H) :
    ReturnsInHanded {} Tryd.checked os 6 .any (fun w args => (Rows.fnSteepBetweenSpec.pre enc Tryd.prog Tryd.f6 [] false w args ∧ laidMetH Tryd.prog laid1 w) ∧ sizedMet enc Tryd.prog Tryd.f6 (OpenSpec.ofChange Rows.fnSteepBetweenSpec) false w args)
      (Rows.fnSteepBetweenSpec.post enc Tryd.prog Tryd.f6 false true false false) := by
  refine returnsInHanded_of_change_and (C := Tryd.checked) (X := fun w _ => laidMetH Tryd.prog laid1 w) (fun _ _ _ hh h => h.of_heap hh) Tryd.own started (by kernel_rfl) Tryd.func6
    (ChangeSpec.witness_shaped (enc := enc) (C := Tryd.checked) (os := os) (X := fun w _ => laidMetH Tryd.prog laid1 w) false (World.doorLaid Tryd.prog 400 os) #[.slice none 0 0] 8 rfl (World.shaped_of_RefB (by kernel_rfl) (by kernel_rfl)) (by kernel_rfl) (by kernel_rfl) (by kernel_rfl) (door_met os _)) ?_
  intro W base args ds gs before hval0 hW _ _ hL _
  have hval : ∀ (j : Nat) t v, Tryd.f6.params[j]? = some t → args[j]? = some v → Value.okWide Tryd.prog W .any base t v := hval0
  have hW' := hW
  obtain ⟨p, q, hA0, hV, rfl, _, _⟩ := hW
  have hA : DataW.TrodAll enc Tryd.prog W 0 (fun _ => true) true Tryd.f6.params.toList args.toList ds p := hA0
  rw [Tryd.params6] at hA hval
  obtain ⟨v0, d0, rfl, rfl, h0⟩ := trodAll_one hA
  have hV' := hV
  obtain ⟨_, _, _, _, dv, _, rfl, _⟩ := trodVars_one hV
  obtain ⟨a0, len0, cap0, rfl⟩ := okWide_slice Tryd.underlying22 (hval 0 22 v0 rfl rfl)
  have k0 := h0
  have lt0 : ∀ x ∈ p, x.block < W.heap.size := by obtain ⟨m, hm⟩ := k0; exact DataW.trod_lt m _ _ _ hm
  obtain ⟨bs0, hn0, hb0⟩ := bytes_came h0
  have HS := steps_of_laid hL
  clear hA0 hval0
  refine (FnSteepBetween_any _ bs0 W hn0 hb0 HS).mono fun e W' ⟨he, bel⟩ => ?_
  subst he
  exact ⟨_, rfl, _, _, _, [], _, q, hW', trodAll_mk1 (shut_bool Tryd.underlying4 _), (trodAll_mk1 (Below.trod Tryd.laidOut (by kernel_rfl) (of_decide_eq_true (by kernel_rfl)) k0 bel lt0)), Below.trodVars Tryd.laidOut bel (by kernel_rfl) hV', Below.frame bel _, fun h => by cases h⟩

theorem row_proved : Rows.FnSteepBetweenSaid :=
  OpenClaim.holds_of_wide 6 Tryd.f6 rfl rfl rfl rfl rfl rfl rfl ⟨rfl, rfl, rfl, rfl, rfl⟩ rfl rfl rfl rfl rfl (by kernel_rfl) Tryd.func6
    (show joinedFacts Tryd.prog 6 Tryd.f6 Rows.fnSteepBetweenSpec Rows.fnSteepBetweenRow = true by unfold joinedFacts; rw [Tryd.makeG, Tryd.liftsG, Tryd.enterG]; kernel_rfl)
    (of_decide_eq_true (by kernel_rfl)) (by unfold Func.isWrapper; first | (rw [if_pos (by decide +kernel)]; kernel_rfl) | (rw [if_neg (by decide +kernel)]; exact ⟨rfl, rfl⟩))
    (fun os started H enc _ => lifted os started H enc)

theorem proved : Rows.FnSteepBetweenCardSaid :=
  Claim7.holds_tied_plain_at .later [] [.data] true Rows.fnSteepBetweenCard.stood.harness Rows.fnSteepBetweenCard.stood.looks
    row_proved (fun _ h => by cases h) (by kernel_rfl) (fun _ h => by cases h) fnSteepBetween_row_tie rfl ⟨rfl, rfl⟩ (show Tryd.prog.mainIs = some (Rows.fnSteepBetweenCard.stood.harness.1, Rows.fnSteepBetweenCard.stood.harness.2.toList) from Tryd.mainG) rfl
    (fun f fn hf hfn => by
      obtain rfl : f = 6 := Option.some.inj ((show Tryd.prog.funcNamed "loop.example/wateronheights/laws.FnSteepBetween" = some 6 by kernel_rfl).symm.trans hf) |>.symm
      obtain rfl : fn = Tryd.f6 := (Option.some.inj (Tryd.func6.symm.trans hfn)).symm
      exact ⟨by kernel_rfl, fun j t ht => by
        rw [Tryd.params6] at ht
        have hm : t ∈ [22] := by simpa using Array.mem_of_getElem? ht
        have hall : ([22].all fun u => !Tryd.prog.wantsStandIn u) = true := by kernel_rfl
        exact (show Tryd.prog.wantsStandIn t = false by simpa using List.all_eq_true.1 hall t hm)⟩)
    (by kernel_rfl)
#print axioms proved
end Go.Proofs.YtdhokofcgfolnaaDoor.pSteepBetween
