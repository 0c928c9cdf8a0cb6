/- The law FnPyramidOf returns true. -/
import Derived.Test.YtkeeonjbkfgeeaaPyr
import Derived.Test.YtkeeonjbkfgeeaaLawSumsOf
namespace Go.Proofs.Ytkeeonjbkfgeeaa
open Go.RowKit

theorem pyrLv_sum {n m : Nat} {f : Nat → Nat → Int} (h : Outer n m f) (k : Nat) : lsum (pyrLv f n m k).flatten = allT f n m := by
  have e := lsum_flatten (pyrLv f n m k) (hlfN k m) (fun r hr => by unfold pyrLv at hr ⊢; rw [tabR_len] at hr; exact tabR_rowlen _ _ _ _ hr)
  rw [e, ← pyrF_all h k]
  have hl : (pyrLv f n m k).length = hlfN k n := tabR_len _ _ _
  rw [hl]
  unfold preS allT
  refine sumTo_congr fun i _ => sumTo_congr fun j _ => ?_
  have := cellS_tab (pyrF_outer h k)
  unfold pyrLv
  rw [this]
theorem flat_rows : ∀ (X : List (List Int)) (m : Nat), (∀ r, r < X.length → (X.getD r []).length = m) → X.flatten.length = X.length * m
  | [], _, _ => by simp
  | x :: xs, m, hl => by
    have h0' : x.length = m := by simpa using hl 0 (by simp)
    rw [List.flatten_cons, List.length_append, flat_rows xs m (fun r hr => by simpa using hl (r + 1) (by simpa using hr)), List.length_cons, Nat.succ_mul, h0']
    omega
theorem flat_bd {X : List (List Int)} {B : Int} (h : ∀ r, r < X.length → ∀ j, j < (X.getD r []).length → -B ≤ (X.getD r []).getD j 0 ∧ (X.getD r []).getD j 0 ≤ B) (i : Nat) (hi : i < X.flatten.length) : -B ≤ X.flatten.getD i 0 ∧ X.flatten.getD i 0 ≤ B := by
  have hm : X.flatten.getD i 0 ∈ X.flatten := by
    rw [List.getD_eq_getElem?_getD, List.getElem?_eq_getElem hi]
    exact List.getElem_mem hi
  obtain ⟨row, hrow, hx⟩ := List.mem_flatten.1 hm
  obtain ⟨r, hr, rfl⟩ := List.getElem_of_mem hrow
  obtain ⟨j, hj, ej⟩ := List.getElem_of_mem hx
  have := h r hr j (by simpa [hr] using hj)
  have e2 : (X.getD r []).getD j 0 = X.flatten.getD i 0 := by rw [← ej]; simp [hr, hj]
  rwa [e2] at this
/-- laws.total of laws.rowOf of a table. -/
theorem tab_total (n m : Nat) (f : Nat → Nat → Int) (hn5 : n ≤ 5) (hm5 : m ≤ 5) (hB : ∀ a b, 0 ≤ f a b ∧ f a b ≤ 1000) (T : Int) (hT : lsum (tabR n m f).flatten = T) (v : Value) (W : World) (hv : IntsV W v (tabR n m f).flatten) :
    Calls Try.prog 16 #[v] W fun e w' => e = .returned (.int .i64 T) ∧ W = w' := by
  have hl : (tabR n m f).flatten.length = n * m := by
    have := flat_rows (tabR n m f) m (fun r hr => by rw [tabR_len] at hr; exact tabR_rowlen _ _ _ _ hr)
    rwa [tabR_len] at this
  have h25 : n * m ≤ 25 := Nat.mul_le_mul hn5 hm5
  have := totalOf_any v _ W hv (by omega) (fun i hi => flat_bd (fun r hr j hj => by
    rw [tabR_len] at hr
    rw [tabR_rowlen _ _ _ _ hr] at hj
    rw [tabR_at _ _ _ _ _ hr hj]
    have := hB r j
    omega) i hi)
  rw [show sumTo (fun i => (tabR n m f).flatten.getD i 0) (tabR n m f).flatten.length = T from hT] at this
  exact this

set_option maxRecDepth 100000 in
set_option maxHeartbeats 8000000 in
theorem FnPyramidOf_any (v : Value) (bs : List Int) (w : World) (hv : NumsV .u8 w v bs) (hb : ∀ i, i < bs.length → 0 ≤ bs.getD i 0 ∧ bs.getD i 0 ≤ 255) :
    Calls Try.prog 6 #[v] w fun e w' => e = .returned (.bool true) ∧ Grew w w' := by
  have HD := Lib.hid (DrawPyramidOf_any v bs w hv hb)
  obtain ⟨a, b', o, c, rfl, ⟨hlc, hcb⟩, _, _⟩ := hv.shape
  clear hv hb
  by_cases hbig : 1048576 < bs.length
  · go_enter Try.func6, Try.ntmps6
    go_wp2
    go_ret
    exact ⟨rfl, Grew.refl _⟩
  · go_enter Try.func6, Try.ntmps6
    go_wp2_with (fail)
    refine HD.out.mono ?_
    rintro e w1 ⟨v1, H, rfl, hO, hd, hg1⟩
    have HDD := Lib.hid (drawn_rows hd)
    have HV := Lib.hid (And.intro hO.toV hg1)
    obtain ⟨a3, c3, rfl⟩ := hO.sh
    obtain ⟨R, eR⟩ : ∃ R, pyrX H = R := ⟨_, rfl⟩
    have HR := Lib.hid eR
    clear hO hd hg1 HD eR
    go_wp2_with (fail)
    refine (PyramidOf_any _ H _ HV.out.1).mono ?_
    rw [HR.out]
    rintro e w2 ⟨v2, rfl, hO2, hg2⟩
    have H2 := Lib.hid (And.intro hO2 hg2)
    obtain ⟨a2, c2, rfl⟩ := hO2.sh
    clear hO2 hg2
    go_wp2_with (fail)
    refine (SPyramidOf_any _ H _ (HV.out.1.grew H2.out.2)).mono ?_
    rw [HR.out]
    rintro e w3 ⟨v3, rfl, hO3, hg3⟩
    have H3 := Lib.hid (And.intro hO3.toV hg3)
    have H23 := Lib.hid (H2.out.1.grew hg3)
    obtain ⟨a4, c4, rfl⟩ := hO3.sh
    clear hO3 hg3
    go_wp2_with (fail)
    refine (equalSteps_any _ _ R R _ H23.out.toV H3.out.1).mono ?_
    rw [decide_eq_true (rfl : R = R)]
    rintro e w4 ⟨rfl, hq⟩
    have HG4 := Lib.hid (H2.out.2.trans (H3.out.2.trans (quiet_grew hq)))
    have H24 := Lib.hid (H23.out.grew (quiet_grew hq))
    clear hq
    by_cases hS : R.length = 0
    · have hS' : ((R.length : Int) == 0) = true := by simp [hS]
      clear hS
      go_wp2_with (fail)
      refine (SPyramidOf_any _ H _ (HV.out.1.grew HG4.out)).mono ?_
      rw [HR.out]
      rintro e w5 ⟨v5, rfl, hO5, hg5⟩
      have H5 := Lib.hid (And.intro hO5.toV hg5)
      have H25 := Lib.hid (H24.out.grew hg5)
      obtain ⟨a5, c5, rfl⟩ := hO5.sh
      clear hO5 hg5
      go_wp2_with (fail)
      refine (equalSteps_any _ _ R R _ H25.out.toV H5.out.1).mono ?_
      rw [decide_eq_true (rfl : R = R)]
      rintro e w6 ⟨rfl, hq⟩
      have HG6 := Lib.hid (H5.out.2.trans (quiet_grew hq))
      clear hq
      go_wp2
      go_ret
      exact ⟨rfl, HV.out.2.trans (HG4.out.trans HG6.out)⟩
    · have hvg : vGrid H = true := by
        cases hx : vGrid H with
        | true => rfl
        | false =>
          exfalso
          apply hS
          rw [← HR.out]
          unfold pyrX
          rw [hx]
          rfl
      have G := Grid.of hvg
      obtain ⟨m, em⟩ : ∃ m, (H.getD 0 []).length = m := ⟨_, rfl⟩
      obtain ⟨n, en⟩ : ∃ n, H.length = n := ⟨_, rfl⟩
      rw [em] at G
      have hRe : R = pyrL H m := by
        rw [← HR.out]
        unfold pyrX
        rw [if_pos hvg, em]
      have hn1 := G.n1
      have hn5 := G.n5
      have hm1 := G.m1
      have hm5 := G.m5
      have hout := cellS_outer G.len
      have hbd := pyrF_bd (cellS_bd G)
      have hD3 := deps_le H.length m
      have hRl : R.length = deps H.length m + 1 := by rw [hRe]; exact pyrL_len _ _
      have hRa : ∀ k, k ≤ deps H.length m → R.getD k [] = pyrLv (cellS H) H.length m k := fun k hk => by rw [hRe]; exact pyrL_at _ _ _ hk
      have hz : pyrLv (cellS H) H.length m 0 = H := pyrLv_zero G.len
      have hends := (deps_iff (deps H.length m) H.length m ⟨hn1, hn5⟩ ⟨hm1, hm5⟩ hD3).2 (Nat.le_refl _)
      have hps : ∀ k, hlfN k H.length ≤ 5 ∧ hlfN k m ≤ 5 ∧ 1 ≤ hlfN k H.length ∧ 1 ≤ hlfN k m := fun k => ⟨hlfN_le k _ hn5, hlfN_le k _ hm5, hlfN_pos k _ hn1, hlfN_pos k _ hm1⟩
      obtain ⟨D, eD⟩ : ∃ D, deps H.length m = D := ⟨_, rfl⟩
      rw [eD] at hD3 hRl hRa hends
      obtain ⟨T, eT⟩ : ∃ T, allT (cellS H) H.length m = T := ⟨_, rfl⟩
      have HTK : Hid (∀ k, k ≤ D → ∀ (v : Value) (W : World), IntsV W v (pyrLv (cellS H) H.length m k).flatten → Calls Try.prog 16 #[v] W fun e w' => e = .returned (.int .i64 T) ∧ W = w') := Lib.hid fun k hk v W hv =>
        tab_total (hlfN k H.length) (hlfN k m) (pyrF (cellS H) k) (hps k).1 (hps k).2.1 (fun a b => by have := hbd k (by omega) a b; omega) T (by rw [← eT]; exact pyrLv_sum hout k) v W hv
      have HTH : Hid (∀ (v : Value) (W : World), IntsV W v H.flatten → Calls Try.prog 16 #[v] W fun e w' => e = .returned (.int .i64 T) ∧ W = w') := Lib.hid fun v W hv => HTK.out 0 (Nat.zero_le _) v W (by rw [hz]; exact hv)
      have HRK : Hid (∀ k, k ≤ D → ∀ (v : Value) (W : World), RowsV W v (pyrLv (cellS H) H.length m k) → Calls Try.prog 17 #[v] W (FlatPost W (pyrLv (cellS H) H.length m k).flatten)) := Lib.hid fun k hk v W hv => rowOf_any v _ W hv (by unfold pyrLv; rw [tabR_len]; have := hps k; omega) (fun r hr => by unfold pyrLv at hr ⊢; rw [tabR_len] at hr; rw [tabR_rowlen _ _ _ _ hr]; have := hps k; omega)
      have HRH : Hid (∀ W, Grew w4 W → Calls Try.prog 17 #[.slice a3 H.length c3] W (FlatPost W H.flatten)) := Lib.hid fun W hW => rowOf_any _ H W (HV.out.1.grew (HG4.out.trans hW)) HDD.out.1 HDD.out.2
      obtain ⟨gO, cO, eO, _⟩ := H24.out.pos (by omega)
      simp only [Value.slice.injEq, true_and] at eO
      obtain ⟨rfl, rfl⟩ := eO
      have HAT : Hid (∀ k, k ≤ D → ∃ u, w4.cell? ⟨gO, k, none⟩ = some u ∧ RowsV w4 u (pyrLv (cellS H) H.length m k)) := Lib.hid fun k hk => by
        obtain ⟨u, h1, h2⟩ := H24.out.at rfl (j := k) (by omega)
        rw [hRa k hk] at h2
        exact ⟨u, h1, h2.toV⟩
      have HZ := Lib.hid hz
      have HEN := Lib.hid hends
      have HPO := Lib.hid hps
      obtain ⟨L, eL⟩ : ∃ L, R.length = L := ⟨_, rfl⟩
      rw [eL] at hRl hS ⊢
      have hL1 : (0 : Int) < L := by omega
      have hL1' : 0 < L := by omega
      have hLD : D < L := by omega
      have hLDi : (D : Int) < L := by omega
      have hL4 : L ≤ 4 := by omega
      have hDL : ∀ k, k < L → k ≤ D := fun k hk => by omega
      have HDL := Lib.hid hDL
      have hS' : ((L : Int) == 0) = false := beq_eq_false_iff_ne.2 (by omega)
      have hLw : IntKind.i64.wrap ((L : Int) - 1) = (D : Int) := by rw [IntWalk.i64_in _ (by omega)]; omega
      have HLW := Lib.hid hLw
      clear hvg G em en hRe hout hbd hRa hz hends hps eD eT hS hRl eL hDL hLw HR
      go_wp2
      go_loopw [5] (fun i wr => ∃ k : Nat, k ≤ L ∧ i = .int .i64 k ∧ Hid (Grew w4 wr)) (fun i _ => L - (intOf i).toNat)
      case atStart => exact ⟨0, Nat.zero_le _, rfl, Grew.refl _⟩
      case round =>
        obtain ⟨k, hk, rfl, HJ⟩ := hrel
        by_cases hlt : k < L
        · have hkD := HDL.out k hlt
          obtain ⟨u, hcu', hu'⟩ := HAT.out k hkD
          have hcu := HJ.out.cell hcu'
          have HRO := Lib.hid (HRK.out k hkD u wr (hu'.grew HJ.out))
          have HTT := Lib.hid (HTK.out k hkD)
          obtain ⟨FL, eFL⟩ : ∃ FL, (pyrLv (cellS H) H.length m k).flatten = FL := ⟨_, rfl⟩
          obtain ⟨FH, eFH⟩ : ∃ FH, H.flatten = FH := ⟨_, rfl⟩
          have HRH2 := Lib.hid HRH.out
          have HTH2 := Lib.hid HTH.out
          rw [eFH] at HRH2 HTH2
          rw [eFL] at HRO HTT
          obtain ⟨a7, b7, o7, c7, rfl, _, _, _⟩ := hu'.shape
          have hki : (k : Int) < L := by omega
          have htt : (T != T) = false := by simp
          clear hcu' hu' eFL eFH hkD
          go_wp2_with (fail)
          (with_reducible refine HRO.out.mono ?_)
          rintro e w5 ⟨g5, c5, rfl, hO5, hg5⟩
          have H5 := Lib.hid (And.intro hO5.toV (HJ.out.trans hg5))
          clear hO5 hg5
          go_wp2_with (fail)
          (with_reducible refine (HTT.out _ _ H5.out.1).mono ?_)
          rintro e w6 ⟨rfl, rfl⟩
          go_wp2_with (fail)
          (with_reducible refine (HRH2.out _ H5.out.2).mono ?_)
          rintro e w7 ⟨g7, c7, rfl, hO7, hg7⟩
          have H7 := Lib.hid (And.intro hO7.toV (H5.out.2.trans hg7))
          clear hO7 hg7
          go_wp2_with (fail)
          refine (HTH2.out _ _ H7.out.1).mono ?_
          rintro e w8 ⟨rfl, rfl⟩
          go_wp2
          go_roundw
          case rel => exact ⟨k + 1, by omega, by go_num, H7.out.2⟩
          case measure => simp [intOf]; omega
        · obtain rfl : k = L := by omega
          have hLw := HLW.out
          obtain ⟨u0, hc0', hu0⟩ := HAT.out 0 (Nat.zero_le _)
          obtain ⟨uD, hcD', huD⟩ := HAT.out D (Nat.le_refl _)
          rw [HZ.out] at hu0
          unfold pyrLv at huD
          rw [HEN.out.1, HEN.out.2] at huD
          obtain ⟨b8, o8, c8, rfl, _, HC8⟩ := tab_cells huD (Nat.le_refl _) (Nat.le_refl _)
          obtain ⟨g9, o9, c9, hc9', _, _, _⟩ := HC8.out 0 (Nat.lt_succ_self _)
          rw [Nat.add_zero] at hc9'
          have hc0 := HJ.out.cell hc0'
          have hcD := HJ.out.cell hcD'
          have HC9 := Lib.hid (HJ.out.cell hc9')
          have HEQ := Lib.hid (equalRows_any u0 _ H H wr (hu0.grew HJ.out) (HV.out.1.grew (HG4.out.trans HJ.out)))
          rw [decide_eq_true (rfl : H = H)] at HEQ
          obtain ⟨a7, b7, o7, c7, rfl, _, _, _⟩ := hu0.shape
          have hlast : (1 : Int) == 1 := by decide
          clear hc0' hcD' hc9' hu0 huD HC8
          go_wp2_with (fail)
          refine HEQ.out.mono ?_
          rintro e w5 ⟨rfl, hq⟩
          have hc9 := (quiet_grew hq).cell HC9.out
          have HG5 := Lib.hid (HJ.out.trans (quiet_grew hq))
          clear hq hLw
          go_wp2
          go_ret
          exact ⟨ret_bool (by simp), HV.out.2.trans (HG4.out.trans HG5.out)⟩
end Go.Proofs.Ytkeeonjbkfgeeaa
