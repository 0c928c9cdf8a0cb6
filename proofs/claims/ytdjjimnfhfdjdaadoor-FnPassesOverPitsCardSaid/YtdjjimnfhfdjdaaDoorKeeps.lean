/- The contracts of impl.keepOf and impl.KeepsOf. -/
import Derived.Test.YtdjjimnfhfdjdaaDoorMinOr
import Derived.Test.YtdjjimnfhfdjdaaDoorFilledFrom
namespace Go.Proofs.YtdjjimnfhfdjdaaDoor
open Go.RowKit

set_option maxRecDepth 100000 in
set_option maxHeartbeats 4000000 in
theorem keepOf_any (v : Value) (h : List (List Int)) (n m N I : Nat) (w : World) (hv : RowsV w v h) (hS : Steps w) (hg : vGrid h = true) (en : h.length = n) (em : (h.getD 0 []).length = m) (eN : n * m = N) (hI : I < N) :
    Calls Tryd.prog 51 #[v, .int .i64 I] w fun e w' => e = .returned (.int .i64 (keepN n m h.flatten I)) ∧ Grew w w' := by
  have G := Grid.of hg
  have HK := Lib.hid fun W (hW : Grew w W) => slicesConcat_any v h W (hv.grew hW) G.n1 (Nat.le_trans G.n5 (by decide)) (fun r hr => by have := G.len r hr; have := G.m1; have := G.m5; omega)
  have HF := Lib.hid fun vo W (hW : Grew w W) (ho : IntsV W vo [(I : Int)]) => filledFrom_any v vo h [(I : Int)] n m N W (hv.grew hW) ho (hS.grew hW) hg en em eN (by simp) (fun x hx => by
    rw [List.mem_singleton] at hx
    omega) (by simp)
  have hpl := flat_grid_len G
  have hn5 := G.n5
  have hm5 := G.m5
  rw [en] at hn5
  rw [em] at hm5
  have hpn : ∀ i, i < n * m → 0 ≤ h.flatten.getD i 0 ∧ h.flatten.getD i 0 ≤ 12 := fun i hi => grid_num G i (by rw [en, em]; exact hi)
  rw [en, em, eN] at hpl
  obtain ⟨p, ep⟩ : ∃ p, h.flatten = p := ⟨_, rfl⟩
  rw [ep] at HK HF hpl hpn ⊢
  have HKN : Hid (keepN n m p I = if (riseL n m p I N).length = 0 then -1 else minU (riseL n m p I N) ((riseL n m p I N).length - 1)) := Lib.hid (by
    rw [keepN, bestU_min hn5 hm5 hpn (by omega) (n * m) (Nat.le_refl _), eN])
  have HLV : Hid (∀ ws, LevelO n m (inO [(I : Int)]) p ws → ∀ k, ws.getD k 0 = passN n m p I k) := Lib.hid fun ws W k => by
    refine passN_of hn5 hm5 hpn (by omega) ?_ k
    have e : inO [(I : Int)] = oneO I := by
      funext x
      simp [inO, oneO]
      omega
    rwa [e] at W
  have HPB : Hid (∀ k, k < N → 0 ≤ passN n m p I k ∧ passN n m p I k ≤ 12) := Lib.hid fun k hk => passN_top hn5 hm5 hpn (by omega) (by omega)
  have HPN : Hid (∀ i, i < N → 0 ≤ p.getD i 0 ∧ p.getD i 0 ≤ 12) := Lib.hid fun i hi => hpn i (by omega)
  have HPL := Lib.hid hpl
  have HRI : Hid (∀ (g c k : Nat) W, IntsV W (.slice (some ⟨g, 0, none⟩) N c) p → k < N → Calls Tryd.prog 74 #[.slice (some ⟨g, 0, none⟩) N c, .int .i64 k, .int .i64 I] W fun e w' => (∃ r, e = .returned (.int .i64 r) ∧ (r < 0 ↔ ahead p k I = true)) ∧ Grew W w') := Lib.hid fun g c k W h1 h2 => byRising_any g c N k I p W h1 hpl h2 hI
  obtain ⟨R, eR⟩ : ∃ R, keepN n m p I = R := ⟨_, rfl⟩
  rw [eR] at HKN ⊢
  have hN25 : N ≤ 25 := by rw [← eN]; exact Nat.mul_le_mul hn5 hm5
  have hIi : (I : Int) < (N : Int) := by omega
  obtain ⟨x, ex⟩ : ∃ x, p.getD I 0 = x := ⟨_, rfl⟩
  have hx : 0 ≤ x ∧ x ≤ 12 := by rw [← ex]; exact HPN.out I hI
  have HEX := Lib.hid ex
  obtain ⟨a, b, o, c, rfl, ⟨hlc, hcb⟩, _, _⟩ := hv.shape
  clear hv hS hg G en em ep eN hpl hpn hn5 hm5 eR ex
  go_enter Tryd.func51, Tryd.ntmps51
  go_wp2_with (fail)
  refine (HK.out _ (Grew.refl _)).mono ?_
  rintro e w1 ⟨g1, c1, rfl, hO1, hg1⟩
  rw [HPL.out] at hO1 ⊢
  have hlit := (IntsO.lit 3 w1.heap.size w1 [(I : Int)] #[.int .i64 I] rfl (Nat.le_refl _) (show 1 ≤ maxLen by decide)).toV
  have HL := Lib.hid (HF.out _ _ (hg1.alloc _) hlit)
  have H1 := Lib.hid (And.intro hO1 hg1)
  clear hO1 hg1 hlit HF HK
  go_wp2_with (fail)
  refine HL.out.mono ?_
  rintro e w2 ⟨ws, hwl, hLv, a2, c2, rfl, hO2, hg2⟩
  rw [hwl] at hO2 ⊢
  have HPA : Hid (∀ k, ws.getD k 0 = passN n m p I k) := Lib.hid (HLV.out ws hLv)
  obtain ⟨g2, c2', e2, hb2, _⟩ := hO2.pos (by rw [hwl]; omega)
  rw [hwl] at e2
  obtain ⟨rfl, rfl⟩ : a2 = some ⟨g2, 0, none⟩ ∧ c2 = c2' := by simpa using e2
  have hg12 : Grew w1 w2 := ((Grew.refl w1).alloc _).trans hg2
  have H2 : Hid (IntsO 3 w.heap.size w1.heap.size w2 (.slice (some ⟨g1, 0, none⟩) N c1) p ∧ IntsO 3 w1.heap.size w2.heap.size w2 (.slice (some ⟨g2, 0, none⟩) N c2) ws ∧ Grew w w2 ∧ w1.heap.size ≤ w2.heap.size ∧ w.heap.size ≤ w1.heap.size) :=
    Lib.hid ⟨H1.out.1.grew hg12, hO2.wide (by simp) (Nat.le_refl _), H1.out.2.trans hg12, hg12.size, H1.out.2.size⟩
  have HWL := Lib.hid hwl
  clear hO2 hg2 hg12 H1 HL hLv hwl e2 hb2
  go_wp2
  go_loopg [6, 16] N (fun gk v i wi => ∃ a5 ln c5 k, v = .slice a5 ln c5 ∧ i = .int .i64 ((k : Nat) : Int) ∧ k ≤ N ∧ N ≤ gk + k ∧ ln ≤ 25 ∧
    Hid (ln = (riseL n m p I k).length ∧ IntsO 3 w2.heap.size wi.heap.size wi v (riseL n m p I k) ∧ IntsO 3 w.heap.size w1.heap.size wi (.slice (some ⟨g1, 0, none⟩) N c1) p ∧ IntsO 3 w1.heap.size w2.heap.size wi (.slice (some ⟨g2, 0, none⟩) N c2) ws ∧ Grew w wi ∧ w2.heap.size ≤ wi.heap.size))
  case atStart => exact ⟨none, 0, 0, 0, rfl, rfl, Nat.zero_le _, Nat.le_refl _, by omega, rfl, ⟨World.ownsRow_nil _ _ _ _, fun g e => by simp [Value.ownBlock] at e⟩, H2.out.1, H2.out.2.1, H2.out.2.2.1, Nat.le_refl _⟩
  case round =>
    obtain ⟨a5, ln, c5, k, rfl, rfl, hk1, hk2, hln, HZ⟩ := hrel
    by_cases hlt : k < N
    · have hcw := (HZ.out.2.2.2.1.at rfl (i := k) (by rw [HWL.out]; exact hlt)).1
      rw [HPA.out k] at hcw
      have hpb := HPB.out k hlt
      obtain ⟨q, eq⟩ : ∃ q, passN n m p I k = q := ⟨_, rfl⟩
      have HEQ := Lib.hid eq
      rw [eq] at hcw hpb
      have HRK := Lib.hid (HRI.out g1 c1 k wr HZ.out.2.2.1.toV hlt)
      have HLE := Lib.hid (riseL_le n m p I k)
      have HLN := Lib.hid HZ.out.1
      have hln2 : ln ≤ k := by rw [HZ.out.1]; exact riseL_le n m p I k
      clear eq
      go_wp2_with (fail)
      refine HRK.out.mono ?_
      rintro e w4 ⟨⟨r, rfl, hr⟩, hg4⟩
      have hcI := hg4.cell (HZ.out.2.2.1.at rfl (i := I) (by rw [HPL.out]; exact hI)).1
      rw [HEX.out] at hcI
      have H4 : Hid (IntsO 3 w2.heap.size w4.heap.size w4 (.slice a5 ln c5) (riseL n m p I k) ∧ IntsO 3 w.heap.size w1.heap.size w4 (.slice (some ⟨g1, 0, none⟩) N c1) p ∧ IntsO 3 w1.heap.size w2.heap.size w4 (.slice (some ⟨g2, 0, none⟩) N c2) ws ∧ Grew w w4 ∧ w2.heap.size ≤ w4.heap.size) := by
        obtain ⟨_, z1, z2, z3, z4, z5⟩ := HZ.out
        exact Lib.hid ⟨(z1.grew hg4).wide (Nat.le_refl _) hg4.size, z2.grew hg4, z3.grew hg4, z4.trans hg4, Nat.le_trans z5 hg4.size⟩
      clear hg4
      by_cases hr0 : r < 0
      · have HY1 : Hid (riseL n m p I (k + 1) = riseL n m p I k ++ [q - x]) := Lib.hid (by rw [riseL_yes (hr.1 hr0), HEQ.out, HEX.out])
        clear hr
        go_wp2_with (at_builtin; refine wpList_append_int rfl (.tmp 26) (.tmp 33) 25 rfl Tryd.underlying25 Tryd.infoI rfl rfl (by simp) H4.out.1 (by rw [← HLN.out]; omega) H4.out.2.2.2.2 ?_; intro g5 c5' w5 hO5 hW5 hS5; rw [← HLN.out] at hO5 ⊢)
        have H5 : Hid (ln + 1 = (riseL n m p I (k + 1)).length ∧ IntsO 3 w2.heap.size w5.heap.size w5 (.slice (some ⟨g5, 0, none⟩) (ln + 1) c5') (riseL n m p I (k + 1)) ∧ IntsO 3 w.heap.size w1.heap.size w5 (.slice (some ⟨g1, 0, none⟩) N c1) p ∧ IntsO 3 w1.heap.size w2.heap.size w5 (.slice (some ⟨g2, 0, none⟩) N c2) ws ∧ Grew w w5 ∧ w2.heap.size ≤ w5.heap.size) := by
          obtain ⟨z1, z2, z3, z4, z5⟩ := H4.out
          obtain ⟨_, _, _, y1, y2⟩ := H2.out
          refine Lib.hid ⟨by rw [HY1.out, List.length_append, HLN.out]; rfl, by rw [HY1.out]; exact hO5, z2.within hW5 (.inl (by omega)), z3.within hW5 (.inl (Nat.le_refl _)), hW5.grew z4 (by omega), by omega⟩
        clear hO5 hW5
        go_wp2
        go_roundg (gk - 1)
        case measure => omega
        case rel => exact ⟨_, ln + 1, c5', k + 1, rfl, by go_num, by omega, by omega, by omega, H5.out⟩
      · have H5 : Hid (ln = (riseL n m p I (k + 1)).length ∧ IntsO 3 w2.heap.size w4.heap.size w4 (.slice a5 ln c5) (riseL n m p I (k + 1)) ∧ IntsO 3 w.heap.size w1.heap.size w4 (.slice (some ⟨g1, 0, none⟩) N c1) p ∧ IntsO 3 w1.heap.size w2.heap.size w4 (.slice (some ⟨g2, 0, none⟩) N c2) ws ∧ Grew w w4 ∧ w2.heap.size ≤ w4.heap.size) := by
          rw [riseL_no (by
            cases ha : ahead p k I with
            | false => rfl
            | true => exact absurd (hr.2 ha) hr0)]
          exact Lib.hid ⟨HZ.out.1, H4.out⟩
        clear hr H4 HZ
        go_wp2
        go_roundg (gk - 1)
        case measure => omega
        case rel => exact ⟨a5, ln, c5, k + 1, rfl, by go_num, by omega, by omega, hln, H5.out⟩
    · obtain rfl : k = N := by omega
      obtain ⟨xs, exs⟩ : ∃ xs, riseL n m p I k = xs := ⟨_, rfl⟩
      rw [exs] at HZ HKN
      have H6 : Hid (IntsV wr (.slice a5 ln c5) xs ∧ ln = xs.length ∧ Grew w wr) := Lib.hid ⟨HZ.out.2.1.toV, HZ.out.1, HZ.out.2.2.2.2.1⟩
      clear HZ exs
      by_cases hl0 : ln = 0
      · have HR : Hid (R = -1) := Lib.hid (by rw [HKN.out, if_pos (by rw [← H6.out.2.1]; exact hl0)])
        subst hl0
        go_wp2
        go_ret
        exact ⟨ret_int HR.out.symm, H6.out.2.2⟩
      · have HR : Hid (R = minU xs (xs.length - 1)) := Lib.hid (by rw [HKN.out, if_neg (by rw [← H6.out.2.1]; exact hl0)])
        have hbe : ((ln : Int) == 0) = false := beq_eq_false_iff_ne.2 (by omega)
        have HM := Lib.hid (slicesMin_any (.slice a5 ln c5) xs wr H6.out.1 (by rw [← H6.out.2.1]; omega) (by rw [← H6.out.2.1]; omega))
        go_wp2_with (fail)
        refine HM.out.mono ?_
        rintro e w6 ⟨rfl, rfl⟩
        go_wp2
        go_ret
        exact ⟨ret_int HR.out.symm, H6.out.2.2⟩

set_option maxRecDepth 100000 in
set_option maxHeartbeats 2000000 in
theorem KeepsOf_any (v : Value) (h : List (List Int)) (w : World) (hv : RowsV w v h) (hS : Steps w) :
    Calls Tryd.prog 33 #[v] w (OwnI w (keepsL h)) := by
  have HK := ValidGrid_any v h w hv
  cases hg : vGrid h with
  | false =>
    rw [hg] at HK
    have HK2 := Lib.hid HK
    rw [keepsL_no hg]
    obtain ⟨a, b, o, c, rfl, _, _, _⟩ := hv.shape
    clear hv hS HK hg
    go_enter Tryd.func33, Tryd.ntmps33
    go_wp2_with (fail)
    refine HK2.out.mono ?_
    rintro e w1 ⟨rfl, rfl⟩
    go_wp2
    go_ret
    exact ownI_nil (Grew.refl _)
  | true =>
    rw [hg] at HK
    have HK2 := Lib.hid HK
    obtain ⟨n, en⟩ : ∃ n, h.length = n := ⟨_, rfl⟩
    obtain ⟨m, em⟩ : ∃ m, (h.getD 0 []).length = m := ⟨_, rfl⟩
    have HPI := Lib.hid (PitsOf_any v h w hv hS)
    have HME := Lib.hid (pitsL_mem hg)
    have HKO := Lib.hid fun (I : Nat) W (hW : Grew w W) hI => keepOf_any v h n m (n * m) I W (hv.grew hW) (hS.grew hW) hg en em rfl hI
    obtain ⟨P, eP⟩ : ∃ P, pitsL h = P := ⟨_, rfl⟩
    have hPl : P.length ≤ 1000000 := by rw [← eP]; exact pitsL_le h
    have HR : Hid (keepsL h = P.map fun i => keepN n m h.flatten i.toNat) := Lib.hid (by rw [keepsL, eP, en, em])
    rw [eP, en, em] at HME
    rw [eP] at HPI
    obtain ⟨p, ep⟩ : ∃ p, h.flatten = p := ⟨_, rfl⟩
    rw [ep] at HKO HR
    obtain ⟨R, eR⟩ : ∃ R, keepsL h = R := ⟨_, rfl⟩
    rw [eR] at HR ⊢
    obtain ⟨a, b, o, c, rfl, ⟨hlc, hcb⟩, _, _⟩ := hv.shape
    clear hv hS HK hg en em eP ep eR
    go_enter Tryd.func33, Tryd.ntmps33
    go_wp2_with (fail)
    refine HK2.out.mono ?_
    rintro e w1 ⟨rfl, rfl⟩
    go_wp2_with (fail)
    refine HPI.out.mono ?_
    rintro e w2 ho2
    obtain ⟨a2, c2, rfl, hO2, hg2⟩ := ho2.shape
    obtain ⟨Q, eQ⟩ : ∃ Q, P.length = Q := ⟨_, rfl⟩
    have HQ := Lib.hid eQ
    rw [eQ] at hO2 hPl ⊢
    have hQ63 : Q ≤ 9223372036854775807 := by omega
    have H2 := Lib.hid (And.intro hO2 hg2)
    clear hO2 hg2 ho2 eQ HPI
    go_wp2
    go_loopg [3, 12] Q (fun gk v i wi => ∃ a5 ln c5, v = .slice a5 ln c5 ∧ i = .int .i64 ((ln : Nat) : Int) ∧ ln ≤ Q ∧ Q ≤ gk + ln ∧
      Hid (IntsO 3 w2.heap.size wi.heap.size wi v ((P.take ln).map fun i => keepN n m p i.toNat) ∧ IntsO 3 w.heap.size w2.heap.size wi (.slice a2 Q c2) P ∧ Grew w wi ∧ w2.heap.size ≤ wi.heap.size))
    case atStart => exact ⟨none, 0, 0, rfl, rfl, Nat.zero_le _, Nat.le_refl _, ⟨World.ownsRow_nil _ _ _ _, fun g e => by simp [Value.ownBlock] at e⟩, H2.out.1, H2.out.2, Nat.le_refl _⟩
    case round =>
      obtain ⟨a5, ln, c5, rfl, rfl, hk1, hk2, HZ⟩ := hrel
      by_cases hlt : ln < Q
      · obtain ⟨a6, b6, o6, c7, e6, _, ha6, HC6⟩ := HZ.out.2.1.toV.shape
        rw [HQ.out] at e6 ha6
        obtain ⟨rfl, rfl⟩ : a2 = a6 ∧ c2 = c7 := by simpa using e6
        obtain rfl := ha6 (by omega)
        have hlc := HC6.out ln (by rw [HQ.out]; exact hlt)
        have hmem : P.getD ln 0 ∈ P := by rw [List.getD_eq_getElem?_getD, List.getElem?_eq_getElem (by rw [HQ.out]; exact hlt)]; exact List.getElem_mem _
        obtain ⟨I, eI, hI⟩ := HME.out _ hmem
        have HEI := Lib.hid eI
        rw [eI] at hlc
        have HKI := Lib.hid (HKO.out I wr HZ.out.2.2.1 hI)
        obtain ⟨y, ey⟩ : ∃ y, keepN n m p I = y := ⟨_, rfl⟩
        rw [ey] at HKI
        have HEY := Lib.hid ey
        clear e6 ha6 HC6 hmem eI ey
        go_wp2_with (fail)
        refine HKI.out.mono ?_
        rintro e w4 ⟨rfl, hg4⟩
        have hlen : ((P.take ln).map fun i => keepN n m p i.toNat).length = ln := by rw [List.length_map, List.length_take, HQ.out]; omega
        have HLEN := Lib.hid hlen
        have H4 : Hid (IntsO 3 w2.heap.size w4.heap.size w4 (.slice a5 ln c5) ((P.take ln).map fun i => keepN n m p i.toNat) ∧ IntsO 3 w.heap.size w2.heap.size w4 (.slice (some ⟨b6, o6, none⟩) Q c2) P ∧ Grew w w4 ∧ w2.heap.size ≤ w4.heap.size) := by
          obtain ⟨z1, z2, z3, z4⟩ := HZ.out
          exact Lib.hid ⟨(z1.grew hg4).wide (Nat.le_refl _) hg4.size, z2.grew hg4, z3.trans hg4, Nat.le_trans z4 hg4.size⟩
        clear hg4 hlen
        go_wp2_with (at_builtin; refine wpList_append_int rfl (.tmp 16) (.tmp 20) 25 rfl Tryd.underlying25 Tryd.infoI rfl rfl (by simp) H4.out.1 (by rw [HLEN.out]; omega) H4.out.2.2.2 ?_; intro g5 c5' w5 hO5 hW5 hS5; rw [HLEN.out] at hO5 ⊢)
        have H5 : Hid (IntsO 3 w2.heap.size w5.heap.size w5 (.slice (some ⟨g5, 0, none⟩) (ln + 1) c5') ((P.take (ln + 1)).map fun i => keepN n m p i.toNat) ∧ IntsO 3 w.heap.size w2.heap.size w5 (.slice (some ⟨b6, o6, none⟩) Q c2) P ∧ Grew w w5 ∧ w2.heap.size ≤ w5.heap.size) := by
          obtain ⟨z1, z2, z3, z4⟩ := H4.out
          have := H2.out.2.size
          refine Lib.hid ⟨?_, z2.within hW5 (.inl (Nat.le_refl _)), hW5.grew z3 (by omega), by omega⟩
          rw [map_take_next _ 0 (by rw [HQ.out]; exact hlt), HEI.out, Int.toNat_natCast, HEY.out]
          exact hO5
        clear hO5 hW5
        go_wp2
        go_roundg (gk - 1)
        case measure => omega
        case rel => exact ⟨_, ln + 1, c5', rfl, by go_num, by omega, by omega, H5.out⟩
      · obtain rfl : ln = Q := by omega
        have H6 : Hid (IntsO 3 w.heap.size wr.heap.size wr (.slice a5 ln c5) R ∧ ln = R.length ∧ Grew w wr) := by
          obtain ⟨z1, z2, z3, z4⟩ := HZ.out
          rw [List.take_of_length_le (by rw [HQ.out]; exact Nat.le_refl _), ← HR.out] at z1
          exact Lib.hid ⟨z1.wide H2.out.2.size (Nat.le_refl _), by rw [HR.out, List.length_map, HQ.out], z3⟩
        clear HZ
        go_wp2
        go_ret
        refine ⟨a5, c5, ret_slice H6.out.2.1, ?_, H6.out.2.2⟩
        rw [← H6.out.2.1]
        exact H6.out.1
end Go.Proofs.YtdjjimnfhfdjdaaDoor
