/- The contracts of impl.FewestSteps and spec.fewest. -/
import Derived.Test.YtdhokofcgfolnaaDoorEasiest
import Derived.Test.YtdhokofcgfolnaaDoorSClimbB
namespace Go.Proofs.YtdhokofcgfolnaaDoor
open Go.RowKit

section
variable {ar : Nat → List Int} {p : List Int} {e : Nat}
theorem cost_step (h0 : ∀ i x, x ∈ ar i → 0 ≤ x) (s i : Nat) : costT ar p upF e s i = -1 ∨ (0 ≤ costT ar p upF e (s + 1) i ∧ costT ar p upF e (s + 1) i ≤ costT ar p upF e s i) := by
  rcases costT_least (p := p) upF_rule h0 e s i with ⟨h, _⟩ | ⟨h1, h2, h3⟩
  · exact .inl h
  · rcases costT_least (p := p) upF_rule h0 e (s + 1) i with ⟨_, g⟩ | ⟨g1, _, g3⟩
    · exact absurd h2.more (g _)
    · exact .inr ⟨g1, g3 _ h2.more⟩
theorem cost_mono (h0 : ∀ i x, x ∈ ar i → 0 ≤ x) (s i d : Nat) : costT ar p upF e s i = -1 ∨ (0 ≤ costT ar p upF e (s + d) i ∧ costT ar p upF e (s + d) i ≤ costT ar p upF e s i) := by
  induction d with
  | zero =>
    rcases costT_least (p := p) upF_rule h0 e s i with ⟨h, _⟩ | ⟨h1, _, _⟩
    · exact .inl h
    · exact .inr ⟨h1, Int.le_refl _⟩
  | succ d ih =>
    rcases ih with h | ⟨h1, h2⟩
    · exact .inl h
    · rcases cost_step (p := p) (e := e) h0 (s + d) i with h | ⟨g1, g2⟩
      · omega
      · exact .inr ⟨g1, Int.le_trans g2 h2⟩
theorem cost_none (h0 : ∀ i x, x ∈ ar i → 0 ≤ x) (s i d : Nat) (h : costT ar p upF e (s + d) i = -1) : costT ar p upF e s i = -1 := by
  rcases cost_mono (p := p) (e := e) h0 s i d with g | ⟨g, _⟩
  · exact g
  · omega
/-- Between two numbers of steps at which it costs the same it costs the same. -/
theorem cost_between (h0 : ∀ i x, x ∈ ar i → 0 ≤ x) {q b t i : Nat} (h1 : q ≤ b) (h2 : b ≤ t) (h : costT ar p upF e q i = costT ar p upF e t i) : costT ar p upF e b i = costT ar p upF e t i := by
  obtain ⟨d, rfl⟩ := Nat.exists_eq_add_of_le h1
  obtain ⟨f, rfl⟩ := Nat.exists_eq_add_of_le h2
  rcases cost_mono (p := p) (e := e) h0 q i d with g | ⟨g1, g2⟩
  · rw [g] at h
    rw [← h]
    exact cost_none h0 _ _ _ h.symm
  · rcases cost_mono (p := p) (e := e) h0 (q + d) i f with g | ⟨_, g4⟩
    · omega
    · omega
theorem lastCh_spec (h0 : ∀ i x, x ∈ ar i → 0 ≤ x) (i : Nat) : ∀ s, ∃ r : Nat, lastCh ar p e s i = (r : Int) ∧ r ≤ s ∧ costT ar p upF e r i = costT ar p upF e s i ∧ ∀ q, q < r → costT ar p upF e q i ≠ costT ar p upF e s i
  | 0 => ⟨0, rfl, Nat.le_refl _, rfl, fun q hq => absurd hq (Nat.not_lt_zero _)⟩
  | s + 1 => by
    obtain ⟨r, h1, h2, h3, h4⟩ := lastCh_spec h0 i s
    by_cases hc : costT ar p upF e (s + 1) i = costT ar p upF e s i
    · exact ⟨r, by rw [lastCh, if_pos hc, h1], by omega, by rw [hc, h3], fun q hq => by rw [hc]; exact h4 q hq⟩
    · refine ⟨s + 1, by rw [lastCh, if_neg hc], Nat.le_refl _, rfl, fun q hq h => hc ?_⟩
      exact (cost_between h0 (show q ≤ s by omega) (by omega) h).symm
end

/-- The fewest steps of a way with the least climbs. -/
def fewV (h : List (List Int)) (i k : Int) : Int :=
  if vEnds h i k = true then lastCh (aroundL h.length (h.getD 0 []).length) h.flatten k.toNat (h.length * (h.getD 0 []).length) i.toNat else -1
theorem fewV_no {h : List (List Int)} {i k : Int} (hc : (vCell h i && vCell h k) = false) : fewV h i k = -1 := by unfold fewV vEnds; rw [hc]; rfl
theorem fewV_yes {h : List (List Int)} {i k n m N : Nat} (en : h.length = n) (em : (h.getD 0 []).length = m) (eN : n * m = N) (hi : vCell h i = true) (hk : vCell h k = true) : fewV h i k = lastCh (aroundL n m) h.flatten k N i := by
  unfold fewV vEnds
  rw [hi, hk, en, em, eN, Int.toNat_natCast, Int.toNat_natCast]
  rfl

theorem field_steps (a1 a2 : Option Addr) (l1 c1 l2 c2 : Nat) (w : World) : (Instr.field 59 (.agg #[.slice a1 l1 c1, .slice a2 l2 c2]) 1).run Tryd.prog w = .ok (.slice a2 l2 c2) w := by kernel_rfl
theorem field_climbs (a1 a2 : Option Addr) (l1 c1 l2 c2 : Nat) (w : World) : (Instr.field 59 (.agg #[.slice a1 l1 c1, .slice a2 l2 c2]) 0).run Tryd.prog w = .ok (.slice a1 l1 c1) w := by kernel_rfl
set_option maxRecDepth 100000 in
set_option maxHeartbeats 2000000 in
theorem FewestSteps_any (v : Value) (h : List (List Int)) (i k : Int) (w : World) (hv : RowsV w v h) (hS : Steps w) :
    Calls Tryd.prog 22 #[v, .int .i64 i, .int .i64 k] w fun e w' => e = .returned (.int .i64 (fewV h i k)) ∧ Grew w w' := by
  have HV := Lib.hid (validEnds_any v h i k w hv)
  cases hp : vEnds h i k with
  | false =>
    obtain ⟨a, b, o, c, rfl, _, _, _⟩ := hv.shape
    have HP := Lib.hid hp
    clear hv hp hS
    go_enter Tryd.func22, Tryd.ntmps22
    go_wp2_with (fail)
    refine HV.out.mono ?_
    rw [HP.out]
    rintro e w1 ⟨rfl, rfl⟩
    go_wp2
    go_ret
    exact ⟨ret_int (by rw [fewV, if_neg (by rw [HP.out]; simp)]), Grew.refl _⟩
  | true =>
    have hc := hp
    unfold vEnds at hc
    simp only [Bool.and_eq_true] at hc
    obtain ⟨hg, hi0, hi1⟩ := vCell_facts hc.1
    obtain ⟨_, hk0, hk1⟩ := vCell_facts hc.2
    obtain ⟨n, en⟩ : ∃ n, h.length = n := ⟨_, rfl⟩
    obtain ⟨m, em⟩ : ∃ m, (h.getD 0 []).length = m := ⟨_, rfl⟩
    obtain ⟨N, eN⟩ : ∃ N, n * m = N := ⟨_, rfl⟩
    rw [en, em, eN] at hi1 hk1
    obtain ⟨I, rfl⟩ := Int.eq_ofNat_of_zero_le hi0
    obtain ⟨K, rfl⟩ := Int.eq_ofNat_of_zero_le hk0
    have HW : Hid (fewV h I K = lastCh (aroundL n m) h.flatten K N I) := Lib.hid (fewV_yes en em eN hc.1 hc.2)
    have HL := Lib.hid (easiestTo_any v h n m N K w hv hg hS en em eN (by omega))
    obtain ⟨p, ep⟩ : ∃ p, h.flatten = p := ⟨_, rfl⟩
    rw [ep] at HW HL
    obtain ⟨a, b, o, c, rfl, _, _, _⟩ := hv.shape
    have HP := Lib.hid hp
    have hIN : (I : Int) < (N : Int) := hi1
    clear hv hp hS hc hg en em eN ep
    go_enter Tryd.func22, Tryd.ntmps22
    go_wp2_with (fail)
    refine HV.out.mono ?_
    rw [HP.out]
    rintro e w1 ⟨rfl, rfl⟩
    go_wp2_with (fail)
    refine HL.out.mono ?_
    rintro e w2 ⟨vc, vs, rfl, ⟨⟨g1, c1, rfl, _⟩, _⟩, ⟨⟨g, c3, rfl, _⟩, hi3⟩, hg3⟩
    rw [tabL_len] at hi3 ⊢
    have hcx : w2.cell? ⟨g, I, none⟩ = some (.int .i64 (lastCh (aroundL n m) p K N I)) := by
      have := hi3.at I (by rw [tabL_len]; omega)
      rwa [tabL_at _ (show I < N by omega)] at this
    have H3 := Lib.hid hg3
    have hfl := fun (a1 a2 : Option Addr) (l1 c1 l2 c2 : Nat) (w : World) => field_steps a1 a2 l1 c1 l2 c2 w
    obtain ⟨x, ex⟩ : ∃ x, lastCh (aroundL n m) p K N I = x := ⟨_, rfl⟩
    rw [ex] at hcx HW
    clear hi3 hg3 ex
    go_wp2
    go_ret
    exact ⟨ret_int HW.out.symm, H3.out⟩

set_option maxRecDepth 100000 in
set_option maxHeartbeats 2000000 in
theorem fewest_any (v : Value) (h : List (List Int)) (n m N I K : Nat) (w : World) (hv : RowsV w v h) (hg : vGrid h = true) (en : h.length = n) (em : (h.getD 0 []).length = m) (eN : n * m = N) (hI : I < N) (hK : K < N) (hi : vCell h I = true) (hk : vCell h K = true) :
    Calls Tryd.prog 59 #[v, .int .i64 I, .int .i64 K] w fun e w' => e = .returned (.int .i64 (lastCh (aroundL n m) h.flatten K N I)) ∧ Grew w w' := by
  have G := Grid.of hg
  have hNb := around_range G en em eN
  have n5 := G.n5
  have m5 := G.m5
  rw [en] at n5
  rw [em] at m5
  have hN25 : N ≤ 25 := by rw [← eN]; exact Nat.mul_le_mul n5 m5
  have h0 : ∀ i x, x ∈ aroundL n m i → 0 ≤ x := fun i x hx => around_nonneg hx
  obtain ⟨r, hr1, hr2, hr3, hr4⟩ := lastCh_spec (p := h.flatten) (e := K) h0 I N
  have HB := Lib.hid (SClimbBetween_any v h I K w hv)
  rw [wayV_yes en em eN hi hk] at HB
  rw [hr1]
  have HCL : Hid (∀ t W, Grew w W → t ≤ r → Calls Tryd.prog 55 #[v, .int .i64 I, .int .i64 t] W (FlatPost W (climbL (aroundL n m) h.flatten I N t))) := fun t W hW ht => climbs_any v h n m N I t W (hv.grew hW) hg en em eN hI (by omega)
  have HLN : Hid (∀ t, (climbL (aroundL n m) h.flatten I N t).length = N) := fun t => climbL_len hNb hI
  have HCC : Hid (∀ t, (climbL (aroundL n m) h.flatten I N t).getD K 0 = costT (aroundL n m) h.flatten upF K t I) := fun t => climb_cost hNb h0 hI hK
  have HR := Lib.hid (And.intro hr3 hr4)
  obtain ⟨p, ep⟩ : ∃ p, h.flatten = p := ⟨_, rfl⟩
  rw [ep] at HB HCL HLN HCC HR
  obtain ⟨d, ed⟩ : ∃ d, costT (aroundL n m) p upF K N I = d := ⟨_, rfl⟩
  rw [ed] at HB HR
  obtain ⟨a, b, o, c, rfl, _, _, _⟩ := hv.shape
  have hKN : (K : Int) < (N : Int) := by omega
  clear hv hg G hNb en em eN h0 hr1 hr3 hr4 ep ed hi hk
  go_enter Tryd.func59, Tryd.ntmps59
  go_wp2_with (fail)
  refine HB.out.mono ?_
  rintro e w1 ⟨rfl, hg1⟩
  have HG1 := Lib.hid hg1
  clear hg1
  go_wp2
  go_loopw [8] (fun tv wr => ∃ t : Nat, t ≤ r ∧ tv = .int .i64 (t : Int) ∧ Hid (Grew w wr)) (fun tv _ => r + 1 - (intOf tv).toNat)
  case atStart => exact ⟨0, Nat.zero_le _, rfl, HG1⟩
  case round =>
    obtain ⟨t, ht, rfl, HX⟩ := hrel
    go_wp2_with (fail)
    refine (HCL.out t wr HX.out ht).mono ?_
    rintro e w4 ⟨g, c4, rfl, hO, hg4⟩
    rw [HLN.out] at hO ⊢
    have hcx := (hO.at rfl (i := K) (by rw [HLN.out]; exact hK)).1
    rw [HCC.out] at hcx
    have HG4 := Lib.hid (HX.out.trans hg4)
    obtain ⟨x, ex⟩ : ∃ x, costT (aroundL n m) p upF K t I = x := ⟨_, rfl⟩
    rw [ex] at hcx
    have HEX := Lib.hid ex
    clear hO hg4 ex HX
    by_cases htr : t = r
    · subst htr
      have hxd : (x != d) = false := by have := HR.out.1; rw [HEX.out] at this; simp [this]
      go_wp2
      go_ret
      exact ⟨rfl, HG4.out⟩
    · have hxd : (x != d) = true := by have := HR.out.2 t (by omega); rw [HEX.out] at this; simp [this]
      go_wp2
      go_roundw
      case rel => exact ⟨t + 1, by omega, by go_num, HG4⟩
      case measure => simp [intOf]; omega
end Go.Proofs.YtdhokofcgfolnaaDoor
