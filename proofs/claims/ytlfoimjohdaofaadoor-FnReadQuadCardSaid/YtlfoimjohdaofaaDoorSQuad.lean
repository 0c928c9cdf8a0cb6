/- The contracts of spec.even, spec.quad, spec.QuadOf and of impl.QuadOf. -/
import Derived.Test.YtlfoimjohdaofaaDoorTextOf
import Derived.Test.YtlfoimjohdaofaaDoorSGrid
namespace Go.Proofs.YtlfoimjohdaofaaDoor
open Go.RowKit

theorem grid_cells {w : World} {v : Value} {h : List (List Int)} {m : Nat} (hv : RowsV w v h) (G : Grid h m) : ∃ b o c, v = .slice (some ⟨b, o, none⟩) h.length c ∧
    ∀ W, Grew w W → ∀ i, i < h.length → ∃ g o2 c2, W.cell? ⟨b, o + i, none⟩ = some (.slice (some ⟨g, o2, none⟩) m c2) ∧ ∀ j, j < m → W.cell? ⟨g, o2 + j, none⟩ = some (.int .i64 (cellS h i j)) := by
  obtain ⟨sa, sb, so, sc, rfl, ⟨hlc, hcb⟩, ha, HC⟩ := hv.shape
  obtain rfl := ha G.n1
  refine ⟨sb, so, sc, rfl, fun W hW i hi => ?_⟩
  obtain ⟨u, hc, hu⟩ := HC.out i hi
  obtain ⟨a1, b1, o1, c1, rfl, ⟨h1, h2⟩, ha1, HR⟩ := hu.shape
  rw [G.len i hi] at hc h1 ha1 HR
  obtain rfl := ha1 G.m1
  exact ⟨b1, o1, c1, hW.cell hc, fun j hj => hW.cell (HR.out j hj)⟩

/-- Of one height so far: i whole rows, and j numbers of the next. -/
def evenTo (f : Nat → Nat → Int) (t l r i j : Nat) : Prop := (∀ x y, x < i → y < r - l → f (t + x) (l + y) = f t l) ∧ ∀ y, y < j → f (t + i) (l + y) = f t l
set_option maxRecDepth 100000 in
set_option maxHeartbeats 4000000 in
theorem seven_any (v : Value) (h : List (List Int)) (m t l b r : Nat) (w : World) (G : Grid h m) (hv : RowsV w v h) (htb : t < b) (hb : b ≤ h.length) (hlr : l < r) (hr : r ≤ m) :
    Calls Tryd.prog 43 #[v, .int .i64 t, .int .i64 l, .int .i64 b, .int .i64 r] w fun e w' => e = .returned (.bool (evenQ (cellS h) t l b r)) ∧ Grew w w' := by
  have hh5 := G.n5
  have hm5 := G.m5
  obtain ⟨sb, so, sc, rfl, hcells⟩ := grid_cells hv G
  have HCS := Lib.hid hcells
  obtain ⟨n, en⟩ : ∃ n, h.length = n := ⟨_, rfl⟩
  rw [en] at HCS hb hh5 ⊢
  obtain ⟨f, ef⟩ : ∃ f, cellS h = f := ⟨_, rfl⟩
  rw [ef] at HCS ⊢
  clear hcells en ef hv G
  go_enter Tryd.func43, Tryd.ntmps43
  go_wp2
  go_loopg [11] b (fun gk iv wr => ∃ i : Nat, iv = .int .i64 (((t + i : Nat)) : Int) ∧ t + i ≤ b ∧ b ≤ gk + i ∧ Hid (evenTo f t l r i 0 ∧ Grew w wr))
  case atStart => exact ⟨0, rfl, by omega, by omega, ⟨⟨fun x y hx _ => absurd hx (Nat.not_lt_zero _), fun y hy => absurd hy (Nat.not_lt_zero _)⟩, Grew.refl _⟩⟩
  case round =>
    obtain ⟨i, rfl, hi1, hi2, HI⟩ := hrel
    by_cases hlt : t + i < b
    · obtain ⟨wo, rfl⟩ : ∃ wo : World, wo = wr := ⟨_, rfl⟩
      obtain ⟨gn, rfl⟩ : ∃ gn : Nat, gn = gk := ⟨_, rfl⟩
      obtain ⟨R, eR⟩ : ∃ R, t + i = R := ⟨_, rfl⟩
      rw [eR] at hi1 hlt ⊢
      have hRi : (R : Int) < b := by omega
      have HR0 := Lib.hid eR
      clear eR
      go_wp2
      go_loopg [12] r (fun gj jv wj => ∃ j : Nat, jv = .int .i64 (((l + j : Nat)) : Int) ∧ l + j ≤ r ∧ r ≤ gj + j ∧ Hid (evenTo f t l r i j ∧ Grew w wj))
      case atStart => exact ⟨0, rfl, by omega, by omega, HI⟩
      case round =>
        obtain ⟨j, rfl, hj1, hj2, HJ⟩ := hrel
        by_cases hltj : l + j < r
        · obtain ⟨C, eC⟩ : ∃ C, l + j = C := ⟨_, rfl⟩
          rw [eC] at hj1 hltj ⊢
          have hCi : (C : Int) < r := by omega
          have HC0 := Lib.hid eC
          clear eC
          obtain ⟨g1, o1, c1, k1, q1⟩ := HCS.out wr HJ.out.2 R (by omega)
          obtain ⟨g2, o2, c2, k2, q2⟩ := HCS.out wr HJ.out.2 t (by omega)
          have q1' := q1 C (by omega)
          have q2' := q2 l (by omega)
          obtain ⟨x, ex⟩ : ∃ x, f R C = x := ⟨_, rfl⟩
          obtain ⟨y, ey⟩ : ∃ y, f t l = y := ⟨_, rfl⟩
          rw [ex] at q1'
          rw [ey] at q2'
          have HXY := Lib.hid (And.intro ex ey)
          clear q1 q2 ex ey
          have z1 : (R : Int) < n := by omega
          have z2 : (t : Int) < n := by omega
          have z3 : (C : Int) < m := by omega
          have z4 : (l : Int) < m := by omega
          have z5 : R < n := by omega
          have z6 : t < n := by omega
          have z7 : C < m := by omega
          have z8 : l < m := by omega
          by_cases hxy : x = y
          · subst hxy
            have HF : Hid (evenTo f t l r i (j + 1)) := ⟨HJ.out.1.1, fun y hy => by
              by_cases e : y = j
              · subst e
                rw [HR0.out, HC0.out, HXY.out.1, HXY.out.2]
              · exact HJ.out.1.2 y (by omega)⟩
            go_wp2
            go_quiet (fail)
            go_wp2
            have e2 := HC0.out
            go_roundg (gk - 1)
            case measure => omega
            case rel => exact ⟨j + 1, by go_num, by omega, by omega, ⟨HF.out, HJ.out.2.trans ((Grew.refl _).drewN _)⟩⟩
          · have HF : Hid (evenQ f t l b r = false) := by
              refine Lib.hid ?_
              cases hE : evenQ f t l b r with
              | false => rfl
              | true =>
                have := (evenQ_iff f t l b r).1 hE i j (by have := HR0.out; omega) (by have := HC0.out; omega)
                rw [HR0.out, HC0.out, HXY.out.1, HXY.out.2] at this
                exact absurd this hxy
            go_wp2
            go_quiet (fail)
            go_wp2
            go_ret
            exact ⟨by rw [HF.out]; rfl, HJ.out.2.trans ((Grew.refl _).drewN _)⟩
        · have hn' : ¬ ((l + j : Nat) : Int) < r := by omega
          have HF : Hid (evenTo f t l r (i + 1) 0) := ⟨fun x y hx hy => by
            by_cases e : x = i
            · subst e
              exact HJ.out.1.2 y (by omega)
            · exact HJ.out.1.1 x y (by omega) hy, fun y hy => absurd hy (Nat.not_lt_zero _)⟩
          go_wp2
          have e2 := HR0.out
          go_roundg (gn - 1)
          case measure => omega
          case rel => exact ⟨i + 1, by go_num, by omega, by omega, ⟨HF.out, HJ.out.2⟩⟩
    · have hn' : ¬ ((t + i : Nat) : Int) < b := by omega
      have HF : Hid (evenQ f t l b r = true) := Lib.hid ((evenQ_iff f t l b r).2 fun x y hx hy => HI.out.1.1 x y (by omega) hy)
      go_wp2
      go_ret
      exact ⟨by rw [HF.out]; rfl, HI.out.2⟩
set_option maxRecDepth 100000 in
set_option maxHeartbeats 4000000 in
theorem squad_any (v : Value) (h : List (List Int)) (m : Nat) (G : Grid h m) (k : Nat) : k ≤ 11 → ∀ (t l b r : Nat) (w : World), RowsV w v h → t ≤ b → b ≤ h.length → l ≤ r → r ≤ m → (b - t) + (r - l) < k →
    Calls Tryd.prog 23 #[v, .int .i64 t, .int .i64 l, .int .i64 b, .int .i64 r] w (TextPost (qT (cellS h) k t l b r) w) := by
  induction k with
  | zero => intro _ t l b r w hv htb hb hlr hr hk; omega
  | succ k ih =>
  intro hk11 t l b r w hv htb hb hlr hr hk
  have ih := ih (by omega)
  have HK11 := Lib.hid hk11
  have hn5 := G.n5
  have hm5 := G.m5
  have hb5 : b ≤ 5 := by omega
  have hr5 : r ≤ 5 := by omega
  obtain ⟨S, eS⟩ : ∃ S, qT (cellS h) (k + 1) t l b r = S := ⟨_, rfl⟩
  rw [eS]
  have HS := Lib.hid eS
  have HK := Lib.hid hk
  have HV := Lib.hid hv
  have IH := Lib.hid ih
  unfold TextPost at IH ⊢
  clear eS hk hk11 ih hn5 hm5
  by_cases h0 : t = b
  · have HS2 : Hid (S = ⟨#[46]⟩) := Lib.hid (by rw [← HS.out]; exact qT_none (.inl h0))
    subst h0
    clear hv
    go_enter Tryd.func23, Tryd.ntmps23
    go_wp2
    go_ret
    exact ⟨by rw [HS2.out]; rfl, Grew.refl _⟩
  have h0i : ¬ (t : Int) = b := by omega
  by_cases h1 : l = r
  · have HS2 : Hid (S = ⟨#[46]⟩) := Lib.hid (by rw [← HS.out]; exact qT_none (.inr h1))
    subst h1
    clear hv
    go_enter Tryd.func23, Tryd.ntmps23
    go_wp2
    go_ret
    exact ⟨by rw [HS2.out]; rfl, Grew.refl _⟩
  have h1i : ¬ (l : Int) = r := by omega
  have H0 : Hid (¬ (t = b ∨ l = r)) := Lib.hid (by omega)
  have hor : ((t : Int) == (b : Int) || (l : Int) == (r : Int)) = false := by simp [h0i, h1i]
  have HEV := Lib.hid (seven_any v h m t l b r w G hv (by omega) hb (by omega) hr)
  cases hE : evenQ (cellS h) t l b r with
  | true =>
    rw [hE] at HEV
    obtain ⟨N, eN⟩ : ∃ N, (cellS h t l).toNat = N := ⟨_, rfl⟩
    have hc := G.num t (by omega) l (by omega)
    have hN : N ≤ 12 := by rw [← eN]; unfold cellS; omega
    have hN0 : cellS h t l = (N : Int) := by rw [← eN]; unfold cellS; omega
    have HN12 := Lib.hid hN
    have HS2 : Hid (S = numS N ++ ⟨#[59]⟩) := Lib.hid (by rw [← HS.out, ← eN]; exact qT_even H0.out hE)
    obtain ⟨sb, so, sc, rfl, hcells⟩ := grid_cells hv G
    have HCS := Lib.hid hcells
    obtain ⟨n, en⟩ : ∃ n, h.length = n := ⟨_, rfl⟩
    rw [en] at HCS HEV hb ⊢
    have z2 : (t : Int) < n := by omega
    have z4 : (l : Int) < m := by omega
    have z6 : t < n := by omega
    have z8 : l < m := by omega
    have hz : ¬ 9223372036854775807 < (numS N).size + 1 := by have := numS_size N; omega
    have HN0 := Lib.hid hN0
    clear hE hc hN hN0 eN hcells en hv
    go_enter Tryd.func23, Tryd.ntmps23
    go_wp2_with (fail)
    with_reducible refine HEV.out.mono ?_
    rintro e w2 ⟨rfl, hg2⟩
    have HG2 := Lib.hid hg2
    clear hg2
    obtain ⟨g2, o2, c2, k2, q2⟩ := HCS.out w2 HG2.out t z6
    have q2' := q2 l z8
    rw [HN0.out] at q2'
    clear q2
    go_wp2_with (fail)
    with_reducible refine (number_any N _ HN12.out).mono ?_
    rintro e5 w5 ⟨rfl, rfl⟩
    go_wp2
    go_ret
    exact ⟨by rw [HS2.out]; rfl, HG2.out⟩
  | false =>
    rw [hE] at HEV
    have HM := Lib.hid (midQ_bd t b htb)
    have HKB := Lib.hid (midQ_bd l r hlr)
    have HS3 : Hid (S = _) := Lib.hid (HS.out.symm.trans (qT_more H0.out hE))
    obtain ⟨k0, k1, k2, k3⟩ := quarters_less (f := cellS h) htb hlr HK.out hE
    have em := midQ_spec t b htb
    have ek := midQ_spec l r hlr
    obtain ⟨M, eM⟩ : ∃ M, midQ t b = M := ⟨_, rfl⟩
    obtain ⟨K, eK⟩ : ∃ K, midQ l r = K := ⟨_, rfl⟩
    rw [eM] at em HM HS3 k0 k1 k2 k3
    rw [eK] at ek HKB HS3 k0 k1 k2 k3
    have hc0 := fun W hW => IH.out t l M K W hW HM.out.1 (Nat.le_trans HM.out.2 hb) HKB.out.1 (Nat.le_trans HKB.out.2 hr) k0
    have hc1 := fun W hW => IH.out t K M r W hW HM.out.1 (Nat.le_trans HM.out.2 hb) HKB.out.2 hr k1
    have hc2 := fun W hW => IH.out M l b K W hW HM.out.2 hb HKB.out.1 (Nat.le_trans HKB.out.2 hr) k2
    have hc3 := fun W hW => IH.out M K b r W hW HM.out.2 hb HKB.out.2 hr k3
    have h4k : 4 ^ k ≤ 4 ^ 10 := Nat.pow_le_pow_right (by decide) (by have := HK11.out; omega)
    have z0 := qT_size (cellS h) k t l M K
    have z1 := qT_size (cellS h) k t K M r
    have z2 := qT_size (cellS h) k M l b K
    have z3 := qT_size (cellS h) k M K b r
    obtain ⟨Q0, eQ0⟩ : ∃ Q0, qT (cellS h) k t l M K = Q0 := ⟨_, rfl⟩
    obtain ⟨Q1, eQ1⟩ : ∃ Q1, qT (cellS h) k t K M r = Q1 := ⟨_, rfl⟩
    obtain ⟨Q2, eQ2⟩ : ∃ Q2, qT (cellS h) k M l b K = Q2 := ⟨_, rfl⟩
    obtain ⟨Q3, eQ3⟩ : ∃ Q3, qT (cellS h) k M K b r = Q3 := ⟨_, rfl⟩
    rw [eQ0] at hc0 HS3 z0
    rw [eQ1] at hc1 HS3 z1
    rw [eQ2] at hc2 HS3 z2
    rw [eQ3] at hc3 HS3 z3
    have HZ : Hid (Q0.size ≤ 5000000 ∧ Q1.size ≤ 5000000 ∧ Q2.size ≤ 5000000 ∧ Q3.size ≤ 5000000) := by
      have h410 : (4 : Nat) ^ 10 = 1048576 := by decide
      rw [h410] at h4k
      exact Lib.hid (by omega)
    have HC0 := Lib.hid hc0
    have HC1 := Lib.hid hc1
    have HC2 := Lib.hid hc2
    have HC3 := Lib.hid hc3
    have p1 : IntKind.i64.wrap ((t : Int) + b) = (t : Int) + b := IntWalk.i64_in _ (by omega)
    have p2 : IntKind.i64.wrap ((t : Int) + b + 1) = (t : Int) + b + 1 := IntWalk.i64_in _ (by omega)
    have p3 : ((t : Int) + b + 1).tdiv 2 = (M : Int) := by rw [Int.tdiv_eq_ediv_of_nonneg (by omega)]; omega
    have p4 : ((t : Int) + b + 1) / 2 = (M : Int) := by omega
    have p5 : IntKind.i64.wrap (M : Int) = (M : Int) := IntWalk.i64_in _ (by omega)
    have q1 : IntKind.i64.wrap ((l : Int) + r) = (l : Int) + r := IntWalk.i64_in _ (by omega)
    have q2 : IntKind.i64.wrap ((l : Int) + r + 1) = (l : Int) + r + 1 := IntWalk.i64_in _ (by omega)
    have q3 : ((l : Int) + r + 1).tdiv 2 = (K : Int) := by rw [Int.tdiv_eq_ediv_of_nonneg (by omega)]; omega
    have q4 : ((l : Int) + r + 1) / 2 = (K : Int) := by omega
    have q5 : IntKind.i64.wrap (K : Int) = (K : Int) := IntWalk.i64_in _ (by omega)
    clear hc0 hc1 hc2 hc3 z0 z1 z2 z3 h4k eQ0 eQ1 eQ2 eQ3 eM eK em ek hE k0 k1 k2 k3 hv
    go_enter Tryd.func23, Tryd.ntmps23
    go_wp2_with (fail)
    with_reducible refine HEV.out.mono ?_
    rintro e w2 ⟨rfl, hg2⟩
    have HG2 := Lib.hid hg2
    clear hg2
    go_wp2_with (fail)
    with_reducible refine (HC0.out _ (HV.out.grew HG2.out)).mono ?_
    rintro e3 w3 ⟨rfl, hg3⟩
    have HG3 := Lib.hid (HG2.out.trans hg3)
    clear hg3
    have hz : ¬ 9223372036854775807 < 1 + Q0.size := by have := HZ.out.1; omega
    go_wp2_with (fail)
    clear hz
    obtain ⟨s1, es⟩ : ∃ s, (⟨#[40]⟩ : ByteArray) ++ Q0 = s := ⟨_, rfl⟩
    have HZS1 : Hid (s1.size ≤ 5000001) := Lib.hid (by rw [← es, ByteArray.size_append]; have := HZ.out; show 1 + Q0.size ≤ _; omega)
    have HES1 := Lib.hid es
    rw [es]
    clear es
    with_reducible refine (HC1.out _ (HV.out.grew HG3.out)).mono ?_
    rintro e4 w4 ⟨rfl, hg4⟩
    have HG4 := Lib.hid (HG3.out.trans hg4)
    clear hg4
    have hz : ¬ 9223372036854775807 < s1.size + Q1.size := by have := HZS1.out; have := HZ.out; omega
    go_wp2_with (fail)
    clear hz
    obtain ⟨s2, es⟩ : ∃ s, s1 ++ Q1 = s := ⟨_, rfl⟩
    have HZS2 : Hid (s2.size ≤ 10000001) := Lib.hid (by rw [← es, ByteArray.size_append]; have := HZ.out; have := HZS1.out; show s1.size + Q1.size ≤ _; omega)
    have HES2 := Lib.hid es
    rw [es]
    clear es
    with_reducible refine (HC2.out _ (HV.out.grew HG4.out)).mono ?_
    rintro e5 w5 ⟨rfl, hg5⟩
    have HG5 := Lib.hid (HG4.out.trans hg5)
    clear hg5
    have hz : ¬ 9223372036854775807 < s2.size + Q2.size := by have := HZS2.out; have := HZ.out; omega
    go_wp2_with (fail)
    clear hz
    obtain ⟨s3, es⟩ : ∃ s, s2 ++ Q2 = s := ⟨_, rfl⟩
    have HZS3 : Hid (s3.size ≤ 15000001) := Lib.hid (by rw [← es, ByteArray.size_append]; have := HZ.out; have := HZS2.out; show s2.size + Q2.size ≤ _; omega)
    have HES3 := Lib.hid es
    rw [es]
    clear es
    with_reducible refine (HC3.out _ (HV.out.grew HG5.out)).mono ?_
    rintro e6 w6 ⟨rfl, hg6⟩
    have HG6 := Lib.hid (HG5.out.trans hg6)
    clear hg6
    have hz : ¬ 9223372036854775807 < s3.size + Q3.size := by have := HZS3.out; have := HZ.out; omega
    have hz2 : ¬ 9223372036854775807 < s3.size + Q3.size + 1 := by have := HZS3.out; have := HZ.out; omega
    go_wp2
    go_ret
    exact ⟨by rw [HS3.out, ← HES3.out, ← HES2.out, ← HES1.out]; rfl, HG6.out⟩
/-- The text of a grid by quarters; nothing for others. -/
def quadX (h : List (List Int)) : ByteArray := if vGrid h = true then qT (cellS h) 11 0 0 h.length (h.getD 0 []).length else ⟨#[]⟩
set_option maxRecDepth 100000 in
set_option maxHeartbeats 4000000 in
theorem QuadOf_any (v : Value) (h : List (List Int)) (w : World) (hv : RowsV w v h) :
    Calls Tryd.prog 7 #[v] w (TextPost (quadX h) w) := by
  have HK := Lib.hid (ValidGrid_any v h w hv)
  unfold quadX TextPost
  cases hp : vGrid h with
  | false =>
    rw [hp] at HK
    obtain ⟨sa, sb, so, sc, rfl, _, _, _⟩ := hv.shape
    clear hp hv
    go_enter Tryd.func7, Tryd.ntmps7
    go_wp2_with (fail)
    refine HK.out.mono ?_
    rintro e w1 ⟨rfl, rfl⟩
    go_wp2
    go_ret
    exact ⟨by simp, Grew.refl _⟩
  | true =>
    rw [hp] at HK
    rw [if_pos rfl]
    have G := Grid.of hp
    obtain ⟨m, em⟩ : ∃ m, (h.getD 0 []).length = m := ⟨_, rfl⟩
    rw [em] at G ⊢
    obtain ⟨n, en⟩ : ∃ n, h.length = n := ⟨_, rfl⟩
    have hh1 := G.n1
    have hh5 := G.n5
    have hm1 := G.m1
    have hm5 := G.m5
    have HQ : Hid (∀ W, Grew w W → Calls Tryd.prog 20 #[v, .agg #[.int .i64 (0 : Nat), .int .i64 n, .int .i64 (0 : Nat), .int .i64 m]] W (TextPost (qT (cellS h) 11 0 0 n m) W)) := Lib.hid fun W hW => textOf_any v h m G 11 (Nat.le_refl _) 0 0 n m W (hv.grew hW) (Nat.zero_le _) (by omega) (Nat.zero_le _) (Nat.le_refl _) (by omega)
    unfold TextPost at HQ
    obtain ⟨S, eS⟩ : ∃ S, qT (cellS h) 11 0 0 n m = S := ⟨_, rfl⟩
    rw [en, eS]
    rw [eS] at HQ
    obtain ⟨sb, so, sc, rfl, hcells⟩ := grid_cells hv G
    obtain ⟨g0, o0, c0, k0, -⟩ := hcells w (Grew.refl w) 0 hh1
    rw [Nat.add_zero] at k0
    have HK0 := Lib.hid k0
    rw [en] at HK HQ hh1 hh5 ⊢
    have hi0 : (0 : Int) < n := by omega
    have hn0 : 0 < n := hh1
    have HH1 := Lib.hid hh1
    clear hcells hv hp G em en eS k0
    go_enter Tryd.func7, Tryd.ntmps7
    go_wp2_with (fail)
    refine HK.out.mono ?_
    rintro e w1 ⟨rfl, rfl⟩
    go_wp2_with (fail)
    refine (wholeOf_any sb so sc n m _ _ _ HH1.out HK0.out).mono ?_
    rintro e2 w2 ⟨rfl, hg2⟩
    have HG2 := Lib.hid hg2
    clear hg2
    go_wp2_with (fail)
    refine (HQ.out _ HG2.out).mono ?_
    rintro e3 w3 ⟨rfl, hg3⟩
    have HG3 := Lib.hid hg3
    clear hg3
    go_wp2
    go_ret
    exact ⟨rfl, HG2.out.trans HG3.out⟩
set_option maxRecDepth 100000 in
set_option maxHeartbeats 4000000 in
theorem SQuadOf_any (v : Value) (h : List (List Int)) (w : World) (hv : RowsV w v h) :
    Calls Tryd.prog 8 #[v] w (TextPost (quadX h) w) := by
  have HK := Lib.hid (sValidGrid_any v h w hv)
  unfold quadX TextPost
  cases hp : vGrid h with
  | false =>
    rw [hp] at HK
    obtain ⟨sa, sb, so, sc, rfl, _, _, _⟩ := hv.shape
    clear hp hv
    go_enter Tryd.func8, Tryd.ntmps8
    go_wp2_with (fail)
    refine HK.out.mono ?_
    rintro e w1 ⟨rfl, hg1⟩
    have HG1 := Lib.hid hg1
    clear hg1
    go_wp2
    go_ret
    exact ⟨by simp, HG1.out⟩
  | true =>
    rw [hp] at HK
    rw [if_pos rfl]
    have G := Grid.of hp
    obtain ⟨m, em⟩ : ∃ m, (h.getD 0 []).length = m := ⟨_, rfl⟩
    rw [em] at G ⊢
    obtain ⟨n, en⟩ : ∃ n, h.length = n := ⟨_, rfl⟩
    have hh1 := G.n1
    have hh5 := G.n5
    have hm1 := G.m1
    have hm5 := G.m5
    have HQ : Hid (∀ W, Grew w W → Calls Tryd.prog 23 #[v, .int .i64 (0 : Nat), .int .i64 (0 : Nat), .int .i64 n, .int .i64 m] W (TextPost (qT (cellS h) 11 0 0 n m) W)) := Lib.hid fun W hW => squad_any v h m G 11 (Nat.le_refl _) 0 0 n m W (hv.grew hW) (Nat.zero_le _) (by omega) (Nat.zero_le _) (Nat.le_refl _) (by omega)
    unfold TextPost at HQ
    obtain ⟨S, eS⟩ : ∃ S, qT (cellS h) 11 0 0 n m = S := ⟨_, rfl⟩
    rw [en, eS]
    rw [eS] at HQ
    obtain ⟨sb, so, sc, rfl, hcells⟩ := grid_cells hv G
    obtain ⟨g0, o0, c0, k0, -⟩ := hcells w (Grew.refl w) 0 hh1
    rw [Nat.add_zero] at k0
    have HK0 := Lib.hid k0
    rw [en] at HK HQ hh1 hh5 ⊢
    have hi0 : (0 : Int) < n := by omega
    have hn0 : 0 < n := hh1
    have HH1 := Lib.hid hh1
    clear hcells hv hp G em en eS k0
    go_enter Tryd.func8, Tryd.ntmps8
    go_wp2_with (fail)
    refine HK.out.mono ?_
    rintro e w1 ⟨rfl, hg1⟩
    have HG1 := Lib.hid hg1
    clear hg1
    have k0 := HG1.out.cell HK0.out
    go_wp2_with (fail)
    refine (HQ.out _ HG1.out).mono ?_
    rintro e3 w3 ⟨rfl, hg3⟩
    have HG3 := Lib.hid hg3
    clear hg3
    go_wp2
    go_ret
    exact ⟨rfl, HG1.out.trans HG3.out⟩
end Go.Proofs.YtlfoimjohdaofaaDoor
