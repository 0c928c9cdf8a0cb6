/- The contracts of slices.Contains, impl.pondUpTo, waterOn, PondAt and LevelFor. -/
import Derived.Test.YtkhgcfchaogccaaDoorPondM
import Derived.Test.YtkhgcfchaogccaaDoorPiecesW
import Derived.Test.YtkhgcfchaogccaaDoorSums
import Derived.Test.YtkhgcfchaogccaaDoorSGrid
namespace Go.Proofs.YtkhgcfchaogccaaDoor
open Go.RowKit

theorem IntsO.shS {E lo hi : Nat} {w : World} {v : Value} {xs : List Int} (h : IntsO E lo hi w v xs) : ∃ a c, v = .slice a xs.length c := by
  rcases h.shape with ⟨rfl, rfl⟩ | ⟨g, c, rfl, _⟩
  · exact ⟨_, _, rfl⟩
  · exact ⟨_, _, rfl⟩
theorem wrap_p (x : Int) (h1 : -1000000000 ≤ x) (h2 : x ≤ 1000000000) : IntKind.i64.wrap x = x := IntWalk.i64_in _ (by omega)
set_option maxRecDepth 100000 in
set_option maxHeartbeats 1000000 in
theorem slicesIndex_any (v : Value) (xs : List Int) (x : Int) (w : World) (hv : IntsV w v xs) (hl : xs.length ≤ 1000) :
    Calls Tryd.prog 63 #[v, .int .i64 x] w fun e w' => ∃ r : Int, e = .returned (.int .i64 r) ∧ (0 ≤ r ↔ x ∈ xs) ∧ w = w' := by
  obtain ⟨a, b, o, c, rfl, ⟨hlc, hcb⟩, ha, HC⟩ := hv.shape
  have HA := Lib.hid ha
  clear hv ha
  go_enter Tryd.func63, Tryd.ntmps63
  go_wp2
  go_loopw [8] (fun i wr => ∃ k : Nat, i = .int .i64 k ∧ k ≤ xs.length ∧ Hid ((∀ j, j < k → xs.getD j 0 ≠ x) ∧ w = wr)) (fun i _ => xs.length - (intOf i).toNat)
  case atStart => exact ⟨0, rfl, Nat.zero_le _, fun j hj => absurd hj (Nat.not_lt_zero _), rfl⟩
  case round =>
    obtain ⟨k, rfl, hk, HI⟩ := hrel
    by_cases hlt : k < xs.length
    · obtain rfl := HA.out (by omega)
      have hc := HC.out k hlt
      rw [HI.out.2] at hc
      obtain ⟨y, ey⟩ : ∃ y, xs.getD k 0 = y := ⟨_, rfl⟩
      rw [ey] at hc
      have HY := Lib.hid ey
      have r1 : (k : Int) < xs.length := by omega
      have r2 : (0 : Int) ≤ k := by omega
      have w1' : IntKind.i64.wrap ((k : Int) + 1) = (k : Int) + 1 := wrap_p _ (by omega) (by omega)
      clear ey
      by_cases hxy : x = y
      · subst hxy
        have HM : Hid (x ∈ xs) := Lib.hid (by rw [← HY.out, List.getD_eq_getElem?_getD, List.getElem?_eq_getElem hlt]; exact List.getElem_mem hlt)
        go_wp2
        go_ret
        exact ⟨k, rfl, ⟨fun _ => HM.out, fun _ => by omega⟩, HI.out.2⟩
      · have hb : (x == y) = false := beq_eq_false_iff_ne.2 hxy
        have HQ : Hid ((∀ j, j < k + 1 → xs.getD j 0 ≠ x) ∧ w = wr) := ⟨fun j hj => by
          by_cases e : j = k
          · rw [e, HY.out]; exact fun h => hxy h.symm
          · exact HI.out.1 j (by omega), HI.out.2⟩
        go_wp2
        go_roundw
        case rel => exact ⟨k + 1, by go_num, by omega, HQ.out⟩
        case measure => simp [intOf]; omega
    · obtain rfl : k = xs.length := by omega
      go_wp2
      go_ret
      refine ⟨-1, rfl, ⟨fun h => absurd h (by omega), fun hm => ?_⟩, HI.out.2⟩
      obtain ⟨j, hj, e⟩ := List.getElem_of_mem hm
      exact absurd (by simp [hj, e]) (HI.out.1 j hj)
set_option maxRecDepth 100000 in
set_option maxHeartbeats 1000000 in
theorem slicesContains_any (v : Value) (xs : List Int) (x : Int) (w : World) (hv : IntsV w v xs) (hl : xs.length ≤ 1000) :
    Calls Tryd.prog 47 #[v, .int .i64 x] w fun e w' => e = .returned (.bool (decide (x ∈ xs))) ∧ w = w' := by
  have HI := Lib.hid (slicesIndex_any v xs x w hv hl)
  obtain ⟨a, b, o, c, rfl, _, _, _⟩ := hv.shape
  clear hv
  go_enter Tryd.func47, Tryd.ntmps47
  go_wp2_with (fail)
  refine HI.out.mono ?_
  rintro e w1 ⟨r, rfl, hr, rfl⟩
  have HR := Lib.hid hr
  clear hr
  go_wp2
  go_ret
  refine ⟨ret_bool ?_, rfl⟩
  rw [Bool.eq_iff_iff, decide_eq_true_eq]
  first | exact HR.out | (rw [decide_eq_true_eq]; exact HR.out)

set_option maxRecDepth 100000 in
set_option maxHeartbeats 1000000 in
theorem lowClo_any (B B2 g c N I : Nat) (p : List Int) (t : Int) (W : World) (hB : W.cell? ⟨B, 0, none⟩ = some (.slice (some ⟨g, 0, none⟩) N c)) (hB2 : W.cell? ⟨B2, 0, none⟩ = some (.int .i64 t)) (hI : I < N)
    (h1 : W.cell? ⟨g, I, none⟩ = some (.int .i64 (p.getD I 0))) :
    Calls Tryd.prog 46 #[.int .i64 I, .pointer (some ⟨B, 0, none⟩), .pointer (some ⟨B2, 0, none⟩)] W fun e w' => e = .returned (.bool (lowB p t I)) ∧ ∃ q, w' = W.drewN q := by
  obtain ⟨x, ex⟩ : ∃ x, p.getD I 0 = x := ⟨_, rfl⟩
  have HS : Hid (lowB p t I = decide (x < t)) := Lib.hid (by rw [lowB, ex])
  rw [ex] at h1
  have hI' : (I : Int) < (N : Int) := by omega
  clear ex
  go_enter Tryd.func46, Tryd.ntmps46
  go_wp2
  go_quiet (fail)
  go_wp2
  go_ret
  exact ⟨ret_bool HS.out.symm, _, rfl⟩
set_option maxRecDepth 100000 in
set_option maxHeartbeats 1000000 in
theorem waterClo_any (B B2 g c N I : Nat) (p : List Int) (t : Int) (W : World) (hB2 : W.cell? ⟨B2, 0, none⟩ = some (.int .i64 t)) (hB : W.cell? ⟨B, 0, none⟩ = some (.slice (some ⟨g, 0, none⟩) N c)) (hI : I < N)
    (h1 : W.cell? ⟨g, I, none⟩ = some (.int .i64 (p.getD I 0))) (hb : 0 ≤ p.getD I 0 ∧ p.getD I 0 ≤ 12) (ht : 0 ≤ t ∧ t ≤ 12) :
    Calls Tryd.prog 49 #[.int .i64 I, .pointer (some ⟨B2, 0, none⟩), .pointer (some ⟨B, 0, none⟩)] W fun e w' => e = .returned (.int .i64 (t - p.getD I 0)) ∧ ∃ q, w' = W.drewN q := by
  obtain ⟨x, ex⟩ : ∃ x, p.getD I 0 = x := ⟨_, rfl⟩
  rw [ex] at h1 hb ⊢
  have hI' : (I : Int) < (N : Int) := by omega
  have w1' : IntKind.i64.wrap (t - x) = t - x := wrap_p _ (by omega) (by omega)
  clear ex
  go_enter Tryd.func49, Tryd.ntmps49
  go_wp2
  go_quiet (fail)
  go_wp2
  go_ret
  exact ⟨rfl, _, rfl⟩

/-- The pond, as a slice. -/
def PondPost (L : List Int) (w : World) (e : Ending) (w' : World) : Prop := ∃ a c, e = .returned (.slice a L.length c) ∧ IntsV w' (.slice a L.length c) L ∧ Grew w w'
set_option maxRecDepth 100000 in
set_option maxHeartbeats 4000000 in
theorem pondUpTo_any (v : Value) (h : List (List Int)) (n m I : Nat) (t : Int) (w : World) (hv : RowsV w v h) (hg : vGrid h = true) (hS : Steps w) (en : h.length = n) (em : (h.getD 0 []).length = m) (hI : I < n * m) :
    Calls Tryd.prog 28 #[v, .int .i64 I, .int .i64 t] w (PondPost (pondL n m h.flatten t I) w) := by
  have G := Grid.of hg
  have hn5 := G.n5
  have hm5 := G.m5
  rw [en] at hn5
  rw [em] at hm5
  have hN25 : n * m ≤ 25 := Nat.mul_le_mul hn5 hm5
  have HK : Hid (∀ W, Grew w W → Calls Tryd.prog 43 #[v] W (FlatPost W h.flatten)) := fun W hW =>
    slicesConcat_any v h W (hv.grew hW) G.n1 (Nat.le_trans G.n5 (by decide)) (fun r hr => by have := G.len r hr; have := G.m1; have := G.m5; omega)
  have hpl := flat_grid_len G
  rw [en, em] at hpl
  obtain ⟨p, ep⟩ : ∃ p, h.flatten = p := ⟨_, rfl⟩
  rw [ep] at HK hpl ⊢
  have HV := Lib.hid (And.intro hv (And.intro hg (And.intro hS (And.intro en em))))
  have HNM := Lib.hid (And.intro hn5 (And.intro hm5 hI))
  have HPL := Lib.hid hpl
  have HT0 : Hid (∀ B g1 c1 w1, Grew w w1 → w1.cell? ⟨w.heap.size, 0, none⟩ = some (.int .i64 t) → w1.cell? ⟨B, 0, none⟩ = some (.slice (some ⟨g1, 0, none⟩) p.length c1) → IntsO 3 w.heap.size w1.heap.size w1 (.slice (some ⟨g1, 0, none⟩) p.length c1) p →
      Calls Tryd.prog 44 #[v, .func (.func 45) #[] #[], .func (.func 46) #[] #[.pointer (some ⟨B, 0, none⟩), .pointer (some ⟨w.heap.size, 0, none⟩)]] w1
        fun e w' => ∃ v' f, e = .returned v' ∧ RowsO 28 3 w1.heap.size w'.heap.size w' v' (piecesT f (whereL (n * m) (lowB p t))) ∧ Flats n m (bothB (lowB p t)) f ∧ Grew w1 w') := fun B g1 c1 w1 hg1 hc0 hcB hO => by
    refine piecesOf_any v h n m (lowB p t) 46 #[.pointer (some ⟨B, 0, none⟩), .pointer (some ⟨w.heap.size, 0, none⟩)] (enters_of Tryd.func46 (by kernel_rfl) rfl) w1 (HV.out.1.grew hg1) HV.out.2.1 (HV.out.2.2.1.grew hg1) HV.out.2.2.2.1 HV.out.2.2.2.2 (fun I W hW hI => ?_)
    have hI' : I < p.length := by rw [HPL.out]; exact hI
    exact lowClo_any B w.heap.size g1 c1 p.length I p t W (hW.cell hcB) (hW.cell hc0) hI' ((hO.grew hW).at rfl hI').1
  obtain ⟨a, b, o, c, rfl, _, _, _⟩ := hv.shape
  clear hv hg hS G ep en em hpl hn5 hm5 hI
  have hmf : ∀ (fn : Fn) (first cap : Array Value) (w : World), (Instr.makeFunc fn first cap).run Tryd.prog w = .ok (.func fn first cap) w := fun _ _ _ _ => rfl
  go_enter Tryd.func28, Tryd.ntmps28
  go_wp2_with (fail)
  refine (HK.out _ ((Grew.refl _).alloc _)).mono ?_
  rintro e w1 ⟨g1, c1, rfl, hO1, hg1⟩
  have hc0 : w1.cell? ⟨w.heap.size, 0, none⟩ = some (.int .i64 t) := hg1.cell (by simp)
  have H1 : Hid (IntsO 3 w.heap.size (w1.alloc (.cells #[.slice (some ⟨g1, 0, none⟩) p.length c1] 28)).heap.size (w1.alloc (.cells #[.slice (some ⟨g1, 0, none⟩) p.length c1] 28)) (.slice (some ⟨g1, 0, none⟩) p.length c1) p ∧ Grew w (w1.alloc (.cells #[.slice (some ⟨g1, 0, none⟩) p.length c1] 28)) ∧ (w1.alloc (.cells #[.slice (some ⟨g1, 0, none⟩) p.length c1] 28)).cell? ⟨w.heap.size, 0, none⟩ = some (.int .i64 t) ∧ (w1.alloc (.cells #[.slice (some ⟨g1, 0, none⟩) p.length c1] 28)).cell? ⟨w1.heap.size, 0, none⟩ = some (.slice (some ⟨g1, 0, none⟩) p.length c1)) :=
    ⟨(hO1.grew ((Grew.refl w1).alloc _)).wide (by simp) (by simp), (((Grew.refl _).alloc _).trans hg1).alloc _, ((Grew.refl w1).alloc _).cell hc0, by simp⟩
  clear hO1 hg1 hc0
  go_wp2_with (fail)
  refine (HT0.out w1.heap.size g1 c1 _ H1.out.2.1 H1.out.2.2.1 H1.out.2.2.2 H1.out.1).mono ?_
  rintro e w2 ⟨v2, f, rfl, hR2, hF2, hg2⟩
  obtain ⟨a2, c2, rfl⟩ := hR2.sh
  have hpcs : ∀ j, j < (piecesT f (whereL (n * m) (lowB p t))).length → ((piecesT f (whereL (n * m) (lowB p t))).getD j []).length ≤ 25 := fun j hj => by
    have hl := whereL_len (n * m) (lowB p t)
    have h1 := (pieces_small f (whereL (n * m) (lowB p t)) _ (Nat.le_refl _)).2
    rw [List.take_of_length_le (Nat.le_refl _)] at h1
    have := h1 j hj
    omega
  have hpl2 : (piecesT f (whereL (n * m) (lowB p t))).length ≤ 25 := by
    have hl := whereL_len (n * m) (lowB p t)
    have h1 := (pieces_small f (whereL (n * m) (lowB p t)) _ (Nat.le_refl _)).1
    rw [List.take_of_length_le (Nat.le_refl _)] at h1
    omega
  have hat : ∀ j, j < (piecesT f (whereL (n * m) (lowB p t))).length → (I : Int) ∈ (piecesT f (whereL (n * m) (lowB p t))).getD j [] → (piecesT f (whereL (n * m) (lowB p t))).getD j [] = pondL n m p t I := fun j hj hm => by
    obtain ⟨h1, h2⟩ := piece_at HNM.out.1 HNM.out.2.1 hF2 hj hm
    rw [h2, pondL_eq h1, hF2.eq HNM.out.1 HNM.out.2.1]
  have hno : (∀ j, j < (piecesT f (whereL (n * m) (lowB p t))).length → ¬ (I : Int) ∈ (piecesT f (whereL (n * m) (lowB p t))).getD j []) → pondL n m p t I = [] := fun hn => by
    refine pondL_none ?_
    cases hB : lowB p t I with
    | false => rfl
    | true =>
      obtain ⟨j, hj, hm⟩ := piece_some HNM.out.1 HNM.out.2.1 hF2 HNM.out.2.2 hB
      exact absurd hm (hn j hj)
  obtain ⟨ps, eps⟩ : ∃ ps, piecesT f (whereL (n * m) (lowB p t)) = ps := ⟨_, rfl⟩
  rw [eps] at hR2 hpcs hpl2 hat hno ⊢
  have H2 := Lib.hid (And.intro hR2 (H1.out.2.1.trans hg2))
  have HP := Lib.hid (And.intro hpcs (And.intro hat hno))
  clear hR2 hF2 hg2 hpcs hat hno eps H1 HT0
  go_wp2
  go_loopw [16] (fun iv wr => ∃ k : Nat, iv = .int .i64 k ∧ k ≤ ps.length ∧ Hid ((∀ j, j < k → ¬ (I : Int) ∈ ps.getD j []) ∧ w2 = wr)) (fun iv _ => ps.length - (intOf iv).toNat)
  case atStart => exact ⟨0, rfl, Nat.zero_le _, fun j hj => absurd hj (Nat.not_lt_zero _), rfl⟩
  case round =>
    obtain ⟨k, rfl, hk, HI⟩ := hrel
    by_cases hlt : k < ps.length
    · obtain ⟨gp, cp, ep, _⟩ := H2.out.1.pos (by omega)
      simp only [Value.slice.injEq] at ep
      obtain ⟨rfl, -, rfl⟩ := ep
      obtain ⟨u, hcu, hu⟩ := H2.out.1.at rfl hlt
      obtain ⟨au, cu, rfl⟩ := hu.shS
      rw [HI.out.2] at hcu hu
      have hul : (ps.getD k []).length ≤ 1000 := by have := HP.out.1 k hlt; omega
      have HCT := Lib.hid (slicesContains_any _ _ (I : Int) wr hu.toV hul)
      have HU := Lib.hid hu.toV
      obtain ⟨row, erow⟩ : ∃ row, ps.getD k [] = row := ⟨_, rfl⟩
      rw [erow] at hcu HCT HU
      have HROW := Lib.hid erow
      have r1 : (k : Int) < ps.length := by omega
      have r2 : (0 : Int) ≤ k := by omega
      have w1' : IntKind.i64.wrap ((k : Int) + 1) = (k : Int) + 1 := wrap_p _ (by omega) (by omega)
      clear erow hu hul
      by_cases hm : (I : Int) ∈ row
      · have HRE : Hid (row = pondL n m p t I) := Lib.hid (by rw [← HROW.out]; exact HP.out.2.1 k hlt (by rw [HROW.out]; exact hm))
        rw [decide_eq_true hm] at HCT
        clear hm
        go_wp2_with (fail)
        refine HCT.out.mono ?_
        rintro e w4 ⟨rfl, rfl⟩
        go_wp2
        go_ret
        rw [← HRE.out]
        exact ⟨_, _, rfl, HU.out, by rw [← HI.out.2]; exact H2.out.2⟩
      · rw [decide_eq_false hm] at HCT
        have HQ : Hid ((∀ j, j < k + 1 → ¬ (I : Int) ∈ ps.getD j []) ∧ w2 = wr) := ⟨fun j hj => by
          by_cases e : j = k
          · rw [e, HROW.out]; exact hm
          · exact HI.out.1 j (by omega), HI.out.2⟩
        clear hm
        go_wp2_with (fail)
        refine HCT.out.mono ?_
        rintro e w4 ⟨rfl, rfl⟩
        go_wp2
        go_roundw
        case rel => exact ⟨k + 1, by go_num, by omega, HQ.out⟩
        case measure => simp [intOf]; omega
    · obtain rfl : k = ps.length := by omega
      have HN := Lib.hid (HP.out.2.2 HI.out.1)
      go_wp2
      go_ret
      rw [HN.out]
      exact ⟨none, 0, rfl, NumsV.nil _ _ _ _ (by omega), by rw [← HI.out.2]; exact H2.out.2⟩
end Go.Proofs.YtkhgcfchaogccaaDoor
