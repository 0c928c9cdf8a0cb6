/- The contract of impl.reachesEdge. -/
import Derived.Test.YtgecghngfonejaaDoorShapes2
import Derived.Test.YtgecghngfonejaaDoorPieces2
namespace Go.Proofs.YtgecghngfonejaaDoor
open Go.RowKit

set_option maxRecDepth 100000 in
set_option maxHeartbeats 1000000 in
theorem reachClo_any (B g c N I K B2 : Nat) (L : Int) (p : List Int) (W : World) (hB : W.cell? ⟨B, 0, none⟩ = some (.slice (some ⟨g, 0, none⟩) N c)) (hL : W.cell? ⟨B2, 0, none⟩ = some (.int .i64 L)) (hI : I < N) (hK : K < N)
    (h1 : W.cell? ⟨g, I, none⟩ = some (.int .i64 (p.getD I 0))) (h2 : W.cell? ⟨g, K, none⟩ = some (.int .i64 (p.getD K 0))) :
    Calls Tryd.prog 103 #[.int .i64 I, .int .i64 K, .pointer (some ⟨B, 0, none⟩), .pointer (some ⟨B2, 0, none⟩)] W fun e w' => e = .returned (.bool (joinH p L I K)) ∧ ∃ q, w' = W.drewN q := by
  obtain ⟨x, ex⟩ : ∃ x, p.getD I 0 = x := ⟨_, rfl⟩
  obtain ⟨y, ey⟩ : ∃ y, p.getD K 0 = y := ⟨_, rfl⟩
  have HS : Hid (joinH p L I K = (decide (x ≤ L) && decide (y ≤ L))) := Lib.hid (by rw [joinH, ex, ey])
  rw [ex] at h1
  rw [ey] at h2
  have hI' : (I : Int) < (N : Int) := by omega
  have hK' : (K : Int) < (N : Int) := by omega
  clear ex ey
  by_cases hxy : x < y
  · have HS2 : Hid (joinH p L I K = decide (y ≤ L)) := Lib.hid (by
      rw [HS.out]
      by_cases h : y ≤ L
      · have h3 : x ≤ L := by omega
        simp [h, h3]
      · simp [h])
    clear HS
    go_enter Tryd.func103, Tryd.ntmps103
    go_wp2
    go_quiet (fail)
    go_wp2
    go_ret
    exact ⟨ret_bool HS2.out.symm, _, rfl⟩
  · have HS2 : Hid (joinH p L I K = decide (x ≤ L)) := Lib.hid (by
      rw [HS.out]
      by_cases h : x ≤ L
      · have h3 : y ≤ L := by omega
        simp [h, h3]
      · simp [h])
    clear HS
    go_enter Tryd.func103, Tryd.ntmps103
    go_wp2
    go_quiet (fail)
    go_wp2
    go_ret
    exact ⟨ret_bool HS2.out.symm, _, rfl⟩

set_option maxRecDepth 100000 in
set_option maxHeartbeats 2000000 in
theorem reachesEdge_any (v : Value) (h : List (List Int)) (n m N I : Nat) (L : Int) (w : World) (hv : RowsV w v h) (hg : vGrid h = true) (hS : Steps w) (en : h.length = n) (em : (h.getD 0 []).length = m) (eN : n * m = N) (hI : I < N) (hp : h.flatten.getD I 0 ≤ L) :
    Calls Tryd.prog 77 #[v, .int .i64 I, .int .i64 L] w fun e w' => ∃ b : Bool, e = .returned (.bool b) ∧ (b = true ↔ Esc n m h.flatten L I) ∧ Grew w w' := by
  have G := Grid.of hg
  have hn5 := G.n5
  have hn1 := G.n1
  have hm5 := G.m5
  have hm1 := G.m1
  rw [en] at hn5 hn1
  rw [em] at hm5 hm1
  have hN25 : N ≤ 25 := by rw [← eN]; exact Nat.mul_le_mul hn5 hm5
  have HK := Lib.hid fun W (hW : Grew w W) => slicesConcat_any v h W (hv.grew hW) G.n1 (Nat.le_trans G.n5 (by decide)) (fun r hr => by have := G.len r hr; have := G.m1; have := G.m5; omega)
  have hpl := flat_grid_len G
  rw [en, em, eN] at hpl
  have HA : Hid (∀ (K : Nat) (W : World), Grew w W → K < N → Calls Tryd.prog 70 #[v, .int .i64 K] W fun e w' => e = .returned (.bool (edgeL n m K)) ∧ Grew W w') :=
    Lib.hid fun K W hW hK => by
      have := atEdge_any v h K W (hv.grew hW) hg (by rw [en, em, eN]; exact hK) (hS.grew hW)
      rw [en, em] at this
      exact this
  obtain ⟨p, ep⟩ : ∃ p, h.flatten = p := ⟨_, rfl⟩
  rw [ep] at HK hpl hp ⊢
  have HE := Lib.hid fun fs (F : Flats n m (joinH p L) fs) => esc_iff hn5 hm5 F (i := I) (by rw [eN]; exact hI) hp
  have HP : Hid (∀ (B g c : Nat) (w1 : World), Grew w w1 → B < w1.heap.size → w.heap.size < w1.heap.size → w1.cell? ⟨B, 0, none⟩ = some (.slice (some ⟨g, 0, none⟩) N c) → w1.cell? ⟨w.heap.size, 0, none⟩ = some (.int .i64 L) → IntsO 3 w.heap.size w1.heap.size w1 (.slice (some ⟨g, 0, none⟩) N c) p →
      Calls Tryd.prog 61 #[v, .func (.func 62) #[] #[], .func (.func 103) #[] #[.pointer (some ⟨B, 0, none⟩), .pointer (some ⟨w.heap.size, 0, none⟩)]] w1 (FlatsPost n m (joinH p L) w)) := by
    refine Lib.hid fun B g c w1 hg1 hB hB2 hcB hcL hO => ?_
    refine (firstsOfPieces_any v h n m (joinH p L) (joinH_symm p L) 103 #[.pointer (some ⟨B, 0, none⟩), .pointer (some ⟨w.heap.size, 0, none⟩)] (enters_of Tryd.func103 (by kernel_rfl) rfl) w1 (hv.grew hg1) hg (hS.grew hg1) en em ?_).mono fun e w' hh => hh.from hg1
    intro J K W hW hJ hK
    rw [eN] at hJ hK
    have hOW := hO.grew hW
    exact reachClo_any B g c N J K w.heap.size L p W (hW.cell hcB) (hW.cell hcL) hJ hK (hOW.at rfl (by omega)).1 (hOW.at rfl (by omega)).1
  have HNM := Lib.hid eN
  have HFL : Hid (∀ fs, Flats n m (joinH p L) fs → fs.length = N) := Lib.hid fun fs F => by rw [F.len, eN]
  obtain ⟨a, b, o, c, rfl, _, _, _⟩ := hv.shape
  clear hv hg hS G en em ep eN hp hn5 hn1 hm5 hm1
  go_enter Tryd.func77, Tryd.ntmps77
  go_wp2_with (fail)
  refine (HK.out _ ((Grew.refl w).alloc _)).mono ?_
  rintro e w1 ⟨g1, c1, rfl, hO1, hg1⟩
  rw [hpl] at hO1 ⊢
  have hcL : w1.cell? ⟨w.heap.size, 0, none⟩ = some (.int .i64 L) := hg1.cell (by simp)
  have hs1 : w.heap.size < w1.heap.size := Nat.lt_of_lt_of_le (by simp) hg1.size
  have H1 : Hid (IntsO 3 w.heap.size (w1.alloc (.cells #[.slice (some ⟨g1, 0, none⟩) N c1] 26)).heap.size (w1.alloc (.cells #[.slice (some ⟨g1, 0, none⟩) N c1] 26)) (.slice (some ⟨g1, 0, none⟩) N c1) p ∧ Grew w (w1.alloc (.cells #[.slice (some ⟨g1, 0, none⟩) N c1] 26)) ∧ w.heap.size < (w1.alloc (.cells #[.slice (some ⟨g1, 0, none⟩) N c1] 26)).heap.size ∧ (w1.alloc (.cells #[.slice (some ⟨g1, 0, none⟩) N c1] 26)).cell? ⟨w.heap.size, 0, none⟩ = some (.int .i64 L)) :=
    Lib.hid ⟨(hO1.grew ((Grew.refl w1).alloc _)).wide (by simp) (by simp), (((Grew.refl w).alloc _).trans hg1).alloc _, by simp; omega, ((Grew.refl w1).alloc _).cell hcL⟩
  clear hO1 hg1 hpl hcL hs1
  go_wp2_with (fail)
  refine (HP.out w1.heap.size g1 c1 _ H1.out.2.1 (by simp) H1.out.2.2.1 (by simp) H1.out.2.2.2 H1.out.1).mono ?_
  rintro e w2 ⟨g2, c2, fs, rfl, hO2, hF2, hg2⟩
  have HFS := Lib.hid (HE.out fs hF2)
  have hfl := HFL.out fs hF2
  rw [HNM.out] at hO2 ⊢
  have H2 := Lib.hid (And.intro hO2 hg2)
  have HFN := Lib.hid hfl
  clear hO2 hF2 hg2 H1 HK HP HE HFL hfl
  go_wp2
  go_loopw [18] (fun i wr => ∃ K : Nat, K ≤ N ∧ i = .int .i64 (K : Int) ∧ Hid (IntsO 3 w.heap.size w2.heap.size wr (.slice (some ⟨g2, 0, none⟩) N c2) fs ∧ Grew w wr ∧ ∀ k, k < K → fs.getD k 0 = fs.getD I 0 → edgeL n m k = false)) (fun i _ => N - (intOf i).toNat)
  case atStart => exact ⟨0, Nat.zero_le _, rfl, H2.out.1, H2.out.2, fun _ hk => absurd hk (Nat.not_lt_zero _)⟩
  case round =>
    obtain ⟨K, hK1, rfl, HX⟩ := hrel
    by_cases hK : K < N
    · obtain ⟨hcK, _⟩ := HX.out.1.at rfl (i := K) (by rw [HFN.out]; exact hK)
      obtain ⟨hcI, _⟩ := HX.out.1.at rfl (i := I) (by rw [HFN.out]; exact hI)
      have HAK := HA.out K wr HX.out.2.1 hK
      have hIi : (I : Int) < (N : Int) := by omega
      by_cases hxy : fs.getD K 0 = fs.getD I 0
      · rw [hxy] at hcK
        obtain ⟨y, ey⟩ : ∃ y, fs.getD I 0 = y := ⟨_, rfl⟩
        rw [ey] at hcI hcK
        have HXY := Lib.hid hxy
        clear hxy ey
        cases he : edgeL n m K with
        | true =>
          rw [he] at HAK
          have HAK2 := Lib.hid HAK
          have HE3 := Lib.hid he
          clear HAK he
          go_wp2_with (fail)
          refine HAK2.out.mono ?_
          rintro e w3 ⟨rfl, hg3⟩
          have HF : Hid (Esc n m p L I ∧ Grew w w3) := Lib.hid ⟨HFS.out.2 ⟨K, by rw [HNM.out]; exact hK, HXY.out, HE3.out⟩, HX.out.2.1.trans hg3⟩
          clear hg3 HX
          go_wp2
          go_ret
          exact ⟨true, rfl, ⟨fun _ => HF.out.1, fun _ => rfl⟩, HF.out.2⟩
        | false =>
          rw [he] at HAK
          have HAK2 := Lib.hid HAK
          have HE3 := Lib.hid he
          clear HAK he
          go_wp2_with (fail)
          refine HAK2.out.mono ?_
          rintro e w3 ⟨rfl, hg3⟩
          have HF : Hid (IntsO 3 w.heap.size w2.heap.size w3 (.slice (some ⟨g2, 0, none⟩) N c2) fs ∧ Grew w w3 ∧ ∀ k, k < K + 1 → fs.getD k 0 = fs.getD I 0 → edgeL n m k = false) :=
            Lib.hid ⟨HX.out.1.grew hg3, HX.out.2.1.trans hg3, fun k hk e => by
              by_cases ek : k = K
              · subst ek; exact HE3.out
              · exact HX.out.2.2 k (by omega) e⟩
          clear hg3 HX
          go_wp2
          go_roundw
          case rel => exact ⟨K + 1, by omega, by go_num, HF.out⟩
          case measure => simp [intOf]; omega
      · obtain ⟨x, ex⟩ : ∃ x, fs.getD K 0 = x := ⟨_, rfl⟩
        obtain ⟨y, ey⟩ : ∃ y, fs.getD I 0 = y := ⟨_, rfl⟩
        rw [ex] at hcK
        rw [ey] at hcI
        have hne : ¬ x = y := by rw [← ex, ← ey]; exact hxy
        have hneb : (x == y) = false := beq_eq_false_iff_ne.2 hne
        have HF : Hid (IntsO 3 w.heap.size w2.heap.size wr (.slice (some ⟨g2, 0, none⟩) N c2) fs ∧ Grew w wr ∧ ∀ k, k < K + 1 → fs.getD k 0 = fs.getD I 0 → edgeL n m k = false) :=
          Lib.hid ⟨HX.out.1, HX.out.2.1, fun k hk e => by
            by_cases ek : k = K
            · subst ek; exact absurd e hxy
            · exact HX.out.2.2 k (by omega) e⟩
        clear hxy ex ey HX HAK
        go_wp2
        go_roundw
        case rel => exact ⟨K + 1, by omega, by go_num, HF.out⟩
        case measure => simp [intOf]; omega
    · obtain rfl : K = N := by omega
      have HN : ¬ Esc n m p L I := by
        intro h
        obtain ⟨k, h1, h2, h3⟩ := HFS.out.1 h
        rw [HX.out.2.2 k (by rw [← HNM.out]; exact h1) h2] at h3
        cases h3
      have HF : Hid (¬ Esc n m p L I ∧ Grew w wr) := Lib.hid ⟨HN, HX.out.2.1⟩
      clear HN
      clear HX
      go_wp2
      go_ret
      exact ⟨false, rfl, ⟨(fun h => by cases h), fun h => absurd h HF.out.1⟩, HF.out.2⟩
end Go.Proofs.YtgecghngfonejaaDoor
