/- The contracts of impl.waterOn, PondAt and LevelFor. -/
import Derived.Test.YtkhgcfchaogccaaDoorPondI
namespace Go.Proofs.YtkhgcfchaogccaaDoor
open Go.RowKit

theorem flat_bd {h : List (List Int)} (hg : vGrid h = true) (i : Nat) (hi : i < h.length * (h.getD 0 []).length) : 0 ≤ h.flatten.getD i 0 ∧ h.flatten.getD i 0 ≤ 12 := by
  have G := Grid.of hg
  rw [flat_at G i hi]
  exact G.num _ (div_lt_of h.length _ i hi) _ (Nat.mod_lt _ G.m1)
set_option maxRecDepth 100000 in
set_option maxHeartbeats 1000000 in
theorem waterOn_any (v va : Value) (h : List (List Int)) (N : Nat) (L : List Int) (t : Int) (w : World) (hv : RowsV w v h) (hg : vGrid h = true) (eN : h.length * (h.getD 0 []).length = N) (hL : IntsV w va L) (hl : L.length ≤ 25) (hm : ∀ i, i < L.length → 0 ≤ L.getD i 0 ∧ L.getD i 0 < N) (ht : 0 ≤ t ∧ t ≤ 12) :
    Calls Tryd.prog 29 #[v, va, .int .i64 t] w fun e w' => e = .returned (.int .i64 (sumTo (fun j => t - h.flatten.getD (L.getD j 0).toNat 0) L.length)) ∧ Grew w w' := by
  have G := Grid.of hg
  have HK : Hid (∀ W, Grew w W → Calls Tryd.prog 43 #[v] W (FlatPost W h.flatten)) := fun W hW =>
    slicesConcat_any v h W (hv.grew hW) G.n1 (Nat.le_trans G.n5 (by decide)) (fun r hr => by have := G.len r hr; have := G.m1; have := G.m5; omega)
  have hpl := flat_grid_len G
  rw [eN] at hpl
  have hfb := flat_bd hg
  rw [eN] at hfb
  have HB := Lib.hid hfb
  obtain ⟨p, ep⟩ : ∃ p, h.flatten = p := ⟨_, rfl⟩
  rw [ep] at HK hpl HB ⊢
  have HPL := Lib.hid hpl
  have HSU : Hid (∀ B g1 c1 w1, Grew w w1 → w1.cell? ⟨w.heap.size, 0, none⟩ = some (.int .i64 t) → w1.cell? ⟨B, 0, none⟩ = some (.slice (some ⟨g1, 0, none⟩) p.length c1) → IntsO 3 w.heap.size w1.heap.size w1 (.slice (some ⟨g1, 0, none⟩) p.length c1) p →
      Calls Tryd.prog 48 #[.func (.func 49) #[] #[.pointer (some ⟨w.heap.size, 0, none⟩), .pointer (some ⟨B, 0, none⟩)], va] w1
        fun e w' => e = .returned (.int .i64 (sumTo (fun j => t - p.getD (L.getD j 0).toNat 0) L.length)) ∧ ∃ q, w' = w1.drewN q) := fun B g1 c1 w1 hg1 hc0 hcB hO => by
    refine sumOf_any 49 #[.pointer (some ⟨w.heap.size, 0, none⟩), .pointer (some ⟨B, 0, none⟩)] (enters_of Tryd.func49 (by kernel_rfl) rfl) (fun x => 0 ≤ x ∧ x < N) (fun x => t - p.getD x.toNat 0) va L w1 (hL.grew hg1) (by omega) (fun x W hW hx => ?_) hm (fun i hi => ?_)
    · obtain ⟨I, rfl⟩ := Int.eq_ofNat_of_zero_le hx.1
      have hI : I < p.length := by rw [hpl]; omega
      exact waterClo_any B w.heap.size g1 c1 p.length I p t W (hW.cell hc0) (hW.cell hcB) hI ((hO.grew hW).at rfl hI).1 (HB.out I (by rw [← hpl]; exact hI)) ht
    · have := hm i hi
      have := HB.out (L.getD i 0).toNat (by omega)
      show -1000 ≤ t - _ ∧ t - _ ≤ 1000
      omega
  obtain ⟨a, b, o, c, rfl, _, _, _⟩ := hv.shape
  obtain ⟨aa, ba, oa, ca, rfl, _, _, _⟩ := hL.shape
  obtain ⟨R, eR⟩ : ∃ R, sumTo (fun j => t - p.getD (L.getD j 0).toNat 0) L.length = R := ⟨_, rfl⟩
  rw [eR] at HSU ⊢
  clear hv hg G ep eN hpl hL hm eR hfb
  have hmf : ∀ (fn : Fn) (first cap : Array Value) (w : World), (Instr.makeFunc fn first cap).run Tryd.prog w = .ok (.func fn first cap) w := fun _ _ _ _ => rfl
  go_enter Tryd.func29, Tryd.ntmps29
  go_wp2_with (fail)
  refine (HK.out _ ((Grew.refl _).alloc _)).mono ?_
  rintro e w1 ⟨g1, c1, rfl, hO1, hg1⟩
  have hc0 : w1.cell? ⟨w.heap.size, 0, none⟩ = some (.int .i64 t) := hg1.cell (by simp)
  have H1 : Hid (IntsO 3 w.heap.size (w1.alloc (.cells #[.slice (some ⟨g1, 0, none⟩) p.length c1] 28)).heap.size (w1.alloc (.cells #[.slice (some ⟨g1, 0, none⟩) p.length c1] 28)) (.slice (some ⟨g1, 0, none⟩) p.length c1) p ∧ Grew w (w1.alloc (.cells #[.slice (some ⟨g1, 0, none⟩) p.length c1] 28)) ∧ (w1.alloc (.cells #[.slice (some ⟨g1, 0, none⟩) p.length c1] 28)).cell? ⟨w.heap.size, 0, none⟩ = some (.int .i64 t) ∧ (w1.alloc (.cells #[.slice (some ⟨g1, 0, none⟩) p.length c1] 28)).cell? ⟨w1.heap.size, 0, none⟩ = some (.slice (some ⟨g1, 0, none⟩) p.length c1)) :=
    ⟨(hO1.grew ((Grew.refl w1).alloc _)).wide (by simp) (by simp), (((Grew.refl _).alloc _).trans hg1).alloc _, ((Grew.refl w1).alloc _).cell hc0, by simp⟩
  clear hO1 hg1 hc0
  go_wp2_with (fail)
  refine (HSU.out w1.heap.size g1 c1 _ H1.out.2.1 H1.out.2.2.1 H1.out.2.2.2 H1.out.1).mono ?_
  rintro e w2 ⟨rfl, hq⟩
  have HQ := Lib.hid (H1.out.2.1.trans (quiet_grew hq))
  clear hq
  go_wp2
  go_ret
  exact ⟨rfl, HQ.out⟩

theorem pondL_in (n m : Nat) (p : List Int) (lv : Int) (i : Nat) : (pondL n m p lv i).length ≤ n * m ∧ ∀ j, j < (pondL n m p lv i).length → 0 ≤ (pondL n m p lv i).getD j 0 ∧ (pondL n m p lv i).getD j 0 < ((n * m : Nat) : Int) := by
  refine ⟨whereL_len _ _, fun j hj => ?_⟩
  have hm : (pondL n m p lv i).getD j 0 ∈ pondL n m p lv i := by rw [List.getD_eq_getElem?_getD, List.getElem?_eq_getElem hj]; exact List.getElem_mem hj
  obtain ⟨k, hk, _, e⟩ := (whereL_mem _ _ _).1 hm
  rw [e]
  omega
/-- pondUpTo, and waterOn what it gave. -/
theorem pond_two (v : Value) (h : List (List Int)) (n m I : Nat) (t : Int) (w : World) (hv : RowsV w v h) (hg : vGrid h = true) (en : h.length = n) (em : (h.getD 0 []).length = m) (ht : 0 ≤ t ∧ t ≤ 12) (a : Option Addr) (c : Nat) (hL : IntsV w (.slice a (pondL n m h.flatten t I).length c) (pondL n m h.flatten t I)) :
    Calls Tryd.prog 29 #[v, .slice a (pondL n m h.flatten t I).length c, .int .i64 t] w fun e w' => e = .returned (.int .i64 (pondW n m h.flatten t I)) ∧ Grew w w' := by
  have G := Grid.of hg
  have hn5 := G.n5
  have hm5 := G.m5
  rw [en] at hn5
  rw [em] at hm5
  have hN25 : n * m ≤ 25 := Nat.mul_le_mul hn5 hm5
  obtain ⟨h1, h2⟩ := pondL_in n m h.flatten t I
  have := waterOn_any v _ h (n * m) _ t w hv hg (by rw [en, em]) hL (by omega) h2 ht
  rw [pondL_sum] at this
  exact this

set_option maxRecDepth 100000 in
set_option maxHeartbeats 1000000 in
theorem PondAt_any (v : Value) (h : List (List Int)) (i lv : Int) (w : World) (hv : RowsV w v h) (hS : Steps w) :
    Calls Tryd.prog 11 #[v, .int .i64 i, .int .i64 lv] w fun e w' => e = .returned (.tuple #[.int .i64 (pondAX h i lv), .int .i64 (pondBX h i lv)]) ∧ Grew w w' := by
  have HK := Lib.hid (validCell_any v h i w hv)
  have HV := Lib.hid (And.intro hv hS)
  obtain ⟨a, b, o, c, rfl, _, _, _⟩ := hv.shape
  clear hv hS
  unfold pondAX pondBX pondOk
  cases hc : vCell h i with
  | false =>
    rw [hc] at HK
    clear hc
    go_enter Tryd.func11, Tryd.ntmps11
    go_wp2_with (fail)
    refine HK.out.mono ?_
    rintro e w' ⟨rfl, rfl⟩
    go_wp2
    go_ret2
    exact ⟨rfl, Grew.refl _⟩
  | true =>
    rw [hc] at HK
    obtain ⟨hg, h0, hI, _⟩ := vCell_yes hc
    obtain ⟨I, rfl⟩ := Int.eq_ofNat_of_zero_le h0
    rw [Int.toNat_natCast] at hI ⊢
    by_cases hl : 0 ≤ lv ∧ lv ≤ 12
    · have e1 : (true && inR lv 0 12) = true := by simp [inR]; omega
      rw [if_pos e1, if_pos e1]
      have HU := Lib.hid fun W hW => pondUpTo_any _ h h.length (h.getD 0 []).length I lv W (HV.out.1.grew hW) hg (HV.out.2.grew hW) rfl rfl hI
      have HW := Lib.hid fun W hW (a : Option Addr) (c : Nat) => pond_two _ h h.length (h.getD 0 []).length I lv W (HV.out.1.grew hW) hg rfl rfl hl a c
      have hlen := pondL_len h.length (h.getD 0 []).length h.flatten lv I
      obtain ⟨L, eL⟩ : ∃ L, pondL h.length (h.getD 0 []).length h.flatten lv I = L := ⟨_, rfl⟩
      obtain ⟨A, eA⟩ : ∃ A, pondC h.length (h.getD 0 []).length h.flatten lv I = A := ⟨_, rfl⟩
      obtain ⟨R, eR⟩ : ∃ R, pondW h.length (h.getD 0 []).length h.flatten lv I = R := ⟨_, rfl⟩
      rw [eL] at HU HW hlen
      rw [eA] at hlen ⊢
      rw [eR] at HW ⊢
      have HLN := Lib.hid hlen
      have l1 := hl.1
      have l2 := hl.2
      clear hc hg h0 hI e1 eL eA eR hlen hl
      go_enter Tryd.func11, Tryd.ntmps11
      go_wp2_with (fail)
      refine HK.out.mono ?_
      rintro e w' ⟨rfl, rfl⟩
      go_wp2_with (fail)
      refine (HU.out _ (Grew.refl _)).mono ?_
      rintro e w2 ⟨a2, c2, rfl, hL2, hg2⟩
      have H2 := Lib.hid (And.intro hL2 hg2)
      clear hL2 hg2
      go_wp2_with (fail)
      refine (HW.out _ H2.out.2 a2 c2 H2.out.1).mono ?_
      rintro e w3 ⟨rfl, hg3⟩
      have H3 := Lib.hid (H2.out.2.trans hg3)
      clear hg3
      go_wp2
      go_ret2
      refine ⟨?_, H3.out⟩
      try rw [HLN.out]
      rfl
    · have e1 : ¬ (true && inR lv 0 12) = true := by simp [inR]; omega
      rw [if_neg e1, if_neg e1]
      clear hc hg h0 hI e1
      by_cases l1 : lv < 0
      · clear hl
        go_enter Tryd.func11, Tryd.ntmps11
        go_wp2_with (fail)
        refine HK.out.mono ?_
        rintro e w' ⟨rfl, rfl⟩
        go_wp2
        go_ret2
        exact ⟨rfl, Grew.refl _⟩
      · have l2 : 12 < lv := by omega
        have l1' : 0 ≤ lv := by omega
        clear hl
        go_enter Tryd.func11, Tryd.ntmps11
        go_wp2_with (fail)
        refine HK.out.mono ?_
        rintro e w' ⟨rfl, rfl⟩
        go_wp2
        go_ret2
        exact ⟨rfl, Grew.refl _⟩

set_option maxRecDepth 100000 in
set_option maxHeartbeats 1000000 in
theorem LevelFor_any (v : Value) (h : List (List Int)) (i nn : Int) (w : World) (hv : RowsV w v h) (hS : Steps w) :
    Calls Tryd.prog 15 #[v, .int .i64 i, .int .i64 nn] w fun e w' => e = .returned (.int .i64 (levelX h i nn)) ∧ Grew w w' := by
  have HK := Lib.hid (validCell_any v h i w hv)
  have HV := Lib.hid (And.intro hv hS)
  obtain ⟨a, b, o, c, rfl, _, _, _⟩ := hv.shape
  clear hv hS
  unfold levelX
  cases hc : vCell h i with
  | false =>
    rw [hc] at HK
    clear hc
    go_enter Tryd.func15, Tryd.ntmps15
    go_wp2_with (fail)
    refine HK.out.mono ?_
    rintro e w' ⟨rfl, rfl⟩
    go_wp2
    go_ret
    exact ⟨rfl, Grew.refl _⟩
  | true =>
    rw [hc] at HK
    obtain ⟨hg, h0, hI, _⟩ := vCell_yes hc
    obtain ⟨I, rfl⟩ := Int.eq_ofNat_of_zero_le h0
    rw [Int.toNat_natCast] at hI ⊢
    by_cases hl : 0 ≤ nn
    · have e1 : (true && decide (0 ≤ nn)) = true := by simpa using hl
      rw [if_pos e1]
      have hbd : 0 ≤ h.flatten.getD I 0 := (flat_bd hg I hI).1
      have HU := Lib.hid fun W (t : Int) hW => pondUpTo_any _ h h.length (h.getD 0 []).length I t W (HV.out.1.grew hW) hg (HV.out.2.grew hW) rfl rfl hI
      have HW := Lib.hid fun W (t : Int) hW (ht : 0 ≤ t ∧ t ≤ 12) (a : Option Addr) (c : Nat) => pond_two _ h h.length (h.getD 0 []).length I t W (HV.out.1.grew hW) hg rfl rfl ht a c
      have hz := pondW_zero (n := h.length) (m := (h.getD 0 []).length) (p := h.flatten) (i := I) hbd
      obtain ⟨Lf, eL⟩ : ∃ Lf : Int → List Int, ∀ t, pondL h.length (h.getD 0 []).length h.flatten t I = Lf t := ⟨_, fun _ => rfl⟩
      obtain ⟨Wf, eW⟩ : ∃ Wf : Int → Int, ∀ t, pondW h.length (h.getD 0 []).length h.flatten t I = Wf t := ⟨_, fun _ => rfl⟩
      simp only [eL] at HU HW
      simp only [eW] at HW hz ⊢
      have HZ := Lib.hid hz
      clear hc hg h0 hI e1 eL eW hbd hz
      go_enter Tryd.func15, Tryd.ntmps15
      go_wp2_with (fail)
      refine HK.out.mono ?_
      rintro e w' ⟨rfl, rfl⟩
      go_wp2
      go_loopw [7] (fun lv wr => ∃ l : Nat, lv = .int .i64 l ∧ l ≤ 12 ∧ Hid ((∀ k : Nat, l < k → k ≤ 12 → nn < Wf k) ∧ Grew w wr)) (fun lv _ => (intOf lv).toNat)
      case atStart => exact ⟨12, rfl, Nat.le_refl _, fun k h1 h2 => by omega, Grew.refl _⟩
      case round =>
        obtain ⟨l, rfl, hl12, HI⟩ := hrel
        have HU1 := Lib.hid (HU.out wr (l : Int) HI.out.2)
        obtain ⟨L, eL⟩ : ∃ L, Lf (l : Int) = L := ⟨_, rfl⟩
        obtain ⟨R, eR⟩ : ∃ R, Wf (l : Int) = R := ⟨_, rfl⟩
        rw [eL] at HU1
        have HER := Lib.hid eR
        have HW1 : Hid (∀ W (a : Option Addr) (c : Nat), Grew w W → IntsV W (.slice a L.length c) L → Calls Tryd.prog 29 #[_, .slice a L.length c, .int .i64 l] W fun e w' => e = .returned (.int .i64 R) ∧ Grew W w') := fun W a c hW hL => by
          have := HW.out W (l : Int) hW (by omega) a c (by rw [eL]; exact hL)
          rw [eL, eR] at this
          exact this
        clear eL eR
        go_wp2_with (fail)
        refine HU1.out.mono ?_
        rintro e w2 ⟨a2, c2, rfl, hL2, hg2⟩
        have H2 := Lib.hid (And.intro hL2 (HI.out.2.trans hg2))
        clear hL2 hg2
        go_wp2_with (fail)
        refine (HW1.out _ a2 c2 H2.out.2 H2.out.1).mono ?_
        rintro e w3 ⟨rfl, hg3⟩
        have H3 := Lib.hid (H2.out.2.trans hg3)
        clear hg3
        by_cases hgt : nn < R
        · have hl1 : 1 ≤ l := by
            rcases Nat.eq_zero_or_pos l with h | h
            · subst h
              have h1 : Wf 0 = R := HER.out
              have h2 : Wf 0 = 0 := HZ.out
              omega
            · exact h
          obtain ⟨q, eq⟩ : ∃ q, q + 1 = l := ⟨l - 1, by omega⟩
          have w1' : IntKind.i64.wrap ((l : Int) - 1) = (q : Int) := by rw [wrap_p _ (by omega) (by omega)]; omega
          have HQ : Hid ((∀ k : Nat, q < k → k ≤ 12 → nn < Wf k) ∧ Grew w w3) := ⟨fun k h1 h2 => by
            by_cases e : k = l
            · rw [e, HER.out]; exact hgt
            · exact HI.out.1 k (by omega) h2, H3.out⟩
          have HEQ := Lib.hid eq
          clear eq hl1
          go_wp2
          go_roundw
          case rel => exact ⟨q, rfl, by have := HEQ.out; omega, HQ.out⟩
          case measure => have := HEQ.out; simp [intOf]; omega
        · have hgt' : R ≤ nn := by omega
          go_wp2
          go_ret
          refine ⟨ret_int ?_, H3.out⟩
          rw [topT_eq (fun l => Wf (l : Int)) nn 12 l hl12 (by show Wf (l : Int) ≤ nn; rw [HER.out]; exact hgt') HI.out.1 (by have := HZ.out; show Wf ((0 : Nat) : Int) ≤ nn; have e : Wf ((0 : Nat) : Int) = 0 := this; omega)]
    · have e1 : ¬ (true && decide (0 ≤ nn)) = true := by simpa using hl
      have hl' : nn < 0 := by omega
      rw [if_neg e1]
      clear hc hg h0 hI e1 hl
      go_enter Tryd.func15, Tryd.ntmps15
      go_wp2_with (fail)
      refine HK.out.mono ?_
      rintro e w' ⟨rfl, rfl⟩
      go_wp2
      go_ret
      exact ⟨rfl, Grew.refl _⟩
end Go.Proofs.YtkhgcfchaogccaaDoor
