/- FnStandsOf: for every input the law returns true, and the input reads as it did, where the table of steps reads as the program's text lays it; tied to that text. Its conditions: that one listed variable, tied. -/
import Derived.Test.YtdjjimnfhfdjdaaDoorQueueF
import Derived.Test.YtdjjimnfhfdjdaaDoorKeepG
import Derived.Lib.MinMax
import Derived.Test.YtdjjimnfhfdjdaaDoorFilledFrom
import Derived.Test.YtdjjimnfhfdjdaaDoorTurns
import Derived.Test.YtdjjimnfhfdjdaaDoorClone
import Derived.Test.YtdjjimnfhfdjdaaDoorBeside
import Derived.Test.YtdjjimnfhfdjdaaDoorSKeeps
import Derived.Test.YtdjjimnfhfdjdaaDoorLawPeaksOf
import Derived.Test.YtdjjimnfhfdjdaaDoorUnder
import Derived.Test.YtdjjimnfhfdjdaaDoorCameRows
import Derived.Test.YtdjjimnfhfdjdaaDoorTied
import Derived.Test.YtdjjimnfhfdjdaaDoorWords
import Derived.Test.YtdjjimnfhfdjdaaDoorTie
import Derived.Test.YtdjjimnfhfdjdaaDoorCards
import Derived.SevenTiedAt
/- The contracts of cmp.Or[int], slices.Min and impl.byRising. -/
namespace Go.Proofs.YtdjjimnfhfdjdaaDoor
open Go.RowKit

set_option maxRecDepth 100000 in
set_option maxHeartbeats 1000000 in
theorem cmpOr_any (v : Value) (x y : Int) (w : World) (hv : IntsV w v [x, y]) : Calls Tryd.prog 86 #[v] w fun e w' => e = .returned (.int .i64 (if x = 0 then y else x)) ∧ Grew w w' := by
  obtain ⟨a, b, o, c, rfl, ⟨hlc, hcb⟩, ha, HC⟩ := NumsV.shape hv
  obtain rfl := ha (by simp)
  have h0 := HC.out 0 (by simp)
  have h1 := HC.out 1 (by simp)
  simp only [List.getD_cons_zero, List.getD_cons_succ, Nat.add_zero, List.length_cons, List.length_nil] at h0 h1 hlc ⊢
  clear hv ha HC
  by_cases hx : x = 0
  · by_cases hy : y = 0
    · subst hx
      subst hy
      go_enter Tryd.func86, Tryd.ntmps86
      go_wp2
      go_loopw [8] (fun i wr => ∃ T : Nat, T ≤ 2 ∧ i = .int .i64 (T : Int) ∧ wr = w) (fun i _ => 2 - (intOf i).toNat)
      case atStart => exact ⟨0, by omega, rfl, rfl⟩
      case round =>
        obtain ⟨T, hT, rfl, rfl⟩ := hrel
        rcases T with _ | _ | T
        · go_wp2
          go_roundw
          case rel => exact ⟨1, by omega, by go_num, by trivial⟩
          case measure => simp [intOf]
        · go_wp2
          go_roundw
          case rel => exact ⟨2, by omega, by go_num, by trivial⟩
          case measure => simp [intOf]
        · obtain rfl : T = 0 := by omega
          go_wp2
          go_ret
          exact ⟨rfl, Grew.refl _⟩
    · subst hx
      go_enter Tryd.func86, Tryd.ntmps86
      go_wp2
      go_loopw [8] (fun i wr => ∃ T : Nat, T ≤ 1 ∧ i = .int .i64 (T : Int) ∧ wr = w) (fun i _ => 2 - (intOf i).toNat)
      case atStart => exact ⟨0, by omega, rfl, rfl⟩
      case round =>
        obtain ⟨T, hT, rfl, rfl⟩ := hrel
        rcases T with _ | T
        · go_wp2
          go_roundw
          case rel => exact ⟨1, by omega, by go_num, by trivial⟩
          case measure => simp [intOf]
        · obtain rfl : T = 0 := by omega
          have hb : (y != 0) = true := by simpa using hy
          go_wp2
          go_ret
          exact ⟨rfl, Grew.refl _⟩
  · rw [if_neg hx]
    have hb : (x != 0) = true := by simpa using hx
    go_enter Tryd.func86, Tryd.ntmps86
    go_wp2
    go_loopw [8] (fun i wr => i = .int .i64 0 ∧ wr = w) (fun i _ => 2 - (intOf i).toNat)
    case atStart => exact ⟨rfl, rfl⟩
    case round =>
      obtain ⟨rfl, rfl⟩ := hrel
      go_wp2
      go_ret
      exact ⟨rfl, Grew.refl _⟩

set_option maxRecDepth 100000 in
set_option maxHeartbeats 1000000 in
theorem slicesMin_any (v : Value) (xs : List Int) (w : World) (hv : IntsV w v xs) (h0 : 0 < xs.length) (hl : xs.length ≤ 1000) : Calls Tryd.prog 75 #[v] w fun e w' => e = .returned (.int .i64 (minU xs (xs.length - 1))) ∧ w = w' := by
  obtain ⟨a, b, o, c, rfl, ⟨hlc, hcb⟩, ha, HC⟩ := NumsV.shape hv
  obtain rfl := ha h0
  obtain ⟨n, en⟩ : ∃ n, xs.length = n := ⟨_, rfl⟩
  rw [en] at h0 hl hlc ⊢
  have HC' : Hid (∀ k, k < n → w.cell? ⟨b, o + k, none⟩ = some (.int .i64 (xs.getD k 0))) := Lib.hid fun k hk => HC.out k (by omega)
  have hc0 := HC'.out 0 h0
  rw [Nat.add_zero] at hc0
  obtain ⟨x0, ex0⟩ : ∃ x0, xs.getD 0 0 = x0 := ⟨_, rfl⟩
  have HX0 := Lib.hid ex0
  rw [ex0] at hc0
  clear hv ha HC en ex0
  go_enter Tryd.func75, Tryd.ntmps75
  go_wp2
  go_loopw [3, 4] (fun mv i wr => ∃ k : Nat, k < n ∧ i = .int .i64 ((k + 1 : Nat) : Int) ∧ (∃ y, mv = .int .i64 y ∧ Hid (y = minU xs k)) ∧ wr = w) (fun _ i _ => n - (intOf i).toNat)
  case atStart => exact ⟨0, h0, rfl, ⟨_, rfl, Lib.hid HX0.out.symm⟩, rfl⟩
  case round =>
    obtain ⟨k, hk, rfl, ⟨y, rfl, hy⟩, rfl⟩ := hrel
    by_cases hlt : k + 1 < n
    · have hck := HC'.out (k + 1) hlt
      obtain ⟨x, ex⟩ : ∃ x, xs.getD (k + 1) 0 = x := ⟨_, rfl⟩
      rw [ex] at hck
      have HX := Lib.hid ex
      clear ex
      go_wp2
      go_roundw
      case rel => exact ⟨k + 1, hlt, by go_num, ⟨_, rfl, Lib.hid (by rw [minU, HX.out, ← hy.out])⟩, by trivial⟩
      case measure => simp [intOf]; omega
    · obtain rfl : n = k + 1 := by omega
      go_wp2
      go_ret
      exact ⟨ret_int (by rw [Nat.add_sub_cancel]; exact hy.out), rfl⟩

theorem cmpI_neg {x y : Int} : cmpI x y < 0 ↔ x < y := by
  unfold cmpI
  split
  · omega
  · split <;> omega
theorem cmpI_zero {x y : Int} : cmpI x y = 0 ↔ x = y := by
  unfold cmpI
  split
  · omega
  · split <;> omega
set_option maxRecDepth 100000 in
set_option maxHeartbeats 8000000 in
theorem byRising_any (g c N a b : Nat) (p : List Int) (w : World) (hv : IntsV w (.slice (some ⟨g, 0, none⟩) N c) p) (hN : p.length = N) (ha : a < N) (hb : b < N) :
    Calls Tryd.prog 74 #[.slice (some ⟨g, 0, none⟩) N c, .int .i64 a, .int .i64 b] w fun e w' => (∃ r, e = .returned (.int .i64 r) ∧ (r < 0 ↔ ahead p a b = true)) ∧ Grew w w' := by
  have hca := NumsV.at hv a (by omega)
  have hcb := NumsV.at hv b (by omega)
  obtain ⟨x, ex⟩ : ∃ x, p.getD a 0 = x := ⟨_, rfl⟩
  obtain ⟨y, ey⟩ : ∃ y, p.getD b 0 = y := ⟨_, rfl⟩
  rw [ex] at hca
  rw [ey] at hcb
  have HA : Hid ((if cmpI x y = 0 then cmpI (a : Int) (b : Int) else cmpI x y) < 0 ↔ ahead p a b = true) := Lib.hid (by
    rw [ahead_iff, ex, ey]
    split
    · rename_i h
      rw [cmpI_zero] at h
      rw [cmpI_neg]
      omega
    · rename_i h
      rw [cmpI_zero] at h
      rw [cmpI_neg]
      omega)
  obtain ⟨C, eC⟩ : ∃ C : Int → Int → Int, ∀ u v, C u v = cmpI u v := ⟨cmpI, fun _ _ => rfl⟩
  have HCM : Hid (∀ u v W, Calls Tryd.prog 87 #[.int .i64 u, .int .i64 v] W fun e w' => e = .returned (.int .i64 (C u v)) ∧ W = w') := Lib.hid fun u v W => by rw [eC]; exact compare_any u v W
  rw [← eC, ← eC] at HA
  have HOR := Lib.hid fun v W h => cmpOr_any v (C x y) (C (a : Int) (b : Int)) W h
  have hai : (a : Int) < (N : Int) := by omega
  have hbi : (b : Int) < (N : Int) := by omega
  clear ex ey eC hv hN
  go_enter Tryd.func74, Tryd.ntmps74
  have HIV : Hid (∀ W, Grew w W → IntsV ((W.alloc (.cells #[.int .i64 (C x y), .int .i64 (C (a : Int) (b : Int))] 3))) (.slice (some ⟨W.heap.size, 0, none⟩) 2 2) [C x y, C (a : Int) (b : Int)]) := Lib.hid fun W _ => (IntsO.lit 3 W.heap.size W [C x y, C (a : Int) (b : Int)] #[.int .i64 (C x y), .int .i64 (C (a : Int) (b : Int))] rfl (Nat.le_refl _) (show 2 ≤ maxLen by decide)).toV
  have HAL : Hid (∀ W, Grew w W → W.cell? ⟨g, a, none⟩ = some (.int .i64 x) ∧ W.cell? ⟨g, b, none⟩ = some (.int .i64 y)) := Lib.hid fun W hW => ⟨hW.cell hca, hW.cell hcb⟩
  obtain ⟨r, er⟩ : ∃ r, (if C x y = 0 then C (a : Int) (b : Int) else C x y) = r := ⟨_, rfl⟩
  rw [er] at HA HOR
  clear er
  go_wp2_with (fail)
  go_region_held3 (fun W => W.cell? ⟨g, a, none⟩ = some (.int .i64 x) ∧ W.cell? ⟨g, b, none⟩ = some (.int .i64 y))
    (first
      | exact ⟨hca, hcb⟩
      | assumption
      | exact HAL.out _ (((Grew.refl w).alloc _).drew)
      | exact HAL.out _ ((((Grew.refl w).alloc _).drew).trans hgo))
    (first
      | (go_at_call 87; refine (HCM.out _ _ _).mono ?_; rintro e w1 ⟨rfl, rfl⟩)
      | (go_at_call 86; refine (HOR.out _ _ (NumsV.grew (HIV.out _ (Grew.refl w)) (Grew.refl _).drew)).mono ?_; rintro e w3 ⟨rfl, hgo⟩))
  have HG := Lib.hid ((((Grew.refl w).alloc _).drew).trans hgo)
  clear hgo
  go_wp2
  go_ret
  exact ⟨⟨r, rfl, HA.out⟩, HG.out⟩
end Go.Proofs.YtdjjimnfhfdjdaaDoor
/- The contracts of impl.keepOf and impl.KeepsOf. -/
namespace Go.Proofs.YtdjjimnfhfdjdaaDoor
open Go.RowKit

set_option maxRecDepth 100000 in
set_option maxHeartbeats 4000000 in
theorem keepOf_any (v : Value) (h : List (List Int)) (n m N I : Nat) (w : World) (hv : RowsV w v h) (hS : Steps w) (hg : vGrid h = true) (en : h.length = n) (em : (h.getD 0 []).length = m) (eN : n * m = N) (hI : I < N) :
    Calls Tryd.prog 51 #[v, .int .i64 I] w fun e w' => e = .returned (.int .i64 (keepN n m h.flatten I)) ∧ Grew w w' := by
  have G := Grid.of hg
  have HK := Lib.hid fun W (hW : Grew w W) => slicesConcat_any v h W (hv.grew hW) G.n1 (Nat.le_trans G.n5 (by decide)) (fun r hr => by have := G.len r hr; have := G.m1; have := G.m5; omega)
  have HF := Lib.hid fun vo W (hW : Grew w W) (ho : IntsV W vo [(I : Int)]) => filledFrom_any v vo h [(I : Int)] n m N W (hv.grew hW) ho (hS.grew hW) hg en em eN (by simp) (fun x hx => by
    rw [List.mem_singleton] at hx
    omega) (by simp)
  have hpl := flat_grid_len G
  have hn5 := G.n5
  have hm5 := G.m5
  rw [en] at hn5
  rw [em] at hm5
  have hpn : ∀ i, i < n * m → 0 ≤ h.flatten.getD i 0 ∧ h.flatten.getD i 0 ≤ 12 := fun i hi => grid_num G i (by rw [en, em]; exact hi)
  rw [en, em, eN] at hpl
  obtain ⟨p, ep⟩ : ∃ p, h.flatten = p := ⟨_, rfl⟩
  rw [ep] at HK HF hpl hpn ⊢
  have HKN : Hid (keepN n m p I = if (riseL n m p I N).length = 0 then -1 else minU (riseL n m p I N) ((riseL n m p I N).length - 1)) := Lib.hid (by
    rw [keepN, bestU_min hn5 hm5 hpn (by omega) (n * m) (Nat.le_refl _), eN])
  have HLV : Hid (∀ ws, LevelO n m (inO [(I : Int)]) p ws → ∀ k, ws.getD k 0 = passN n m p I k) := Lib.hid fun ws W k => by
    refine passN_of hn5 hm5 hpn (by omega) ?_ k
    have e : inO [(I : Int)] = oneO I := by
      funext x
      simp [inO, oneO]
      omega
    rwa [e] at W
  have HPB : Hid (∀ k, k < N → 0 ≤ passN n m p I k ∧ passN n m p I k ≤ 12) := Lib.hid fun k hk => passN_top hn5 hm5 hpn (by omega) (by omega)
  have HPN : Hid (∀ i, i < N → 0 ≤ p.getD i 0 ∧ p.getD i 0 ≤ 12) := Lib.hid fun i hi => hpn i (by omega)
  have HPL := Lib.hid hpl
  have HRI : Hid (∀ (g c k : Nat) W, IntsV W (.slice (some ⟨g, 0, none⟩) N c) p → k < N → Calls Tryd.prog 74 #[.slice (some ⟨g, 0, none⟩) N c, .int .i64 k, .int .i64 I] W fun e w' => (∃ r, e = .returned (.int .i64 r) ∧ (r < 0 ↔ ahead p k I = true)) ∧ Grew W w') := Lib.hid fun g c k W h1 h2 => byRising_any g c N k I p W h1 hpl h2 hI
  obtain ⟨R, eR⟩ : ∃ R, keepN n m p I = R := ⟨_, rfl⟩
  rw [eR] at HKN ⊢
  have hN25 : N ≤ 25 := by rw [← eN]; exact Nat.mul_le_mul hn5 hm5
  have hIi : (I : Int) < (N : Int) := by omega
  obtain ⟨x, ex⟩ : ∃ x, p.getD I 0 = x := ⟨_, rfl⟩
  have hx : 0 ≤ x ∧ x ≤ 12 := by rw [← ex]; exact HPN.out I hI
  have HEX := Lib.hid ex
  obtain ⟨a, b, o, c, rfl, ⟨hlc, hcb⟩, _, _⟩ := hv.shape
  clear hv hS hg G en em ep eN hpl hpn hn5 hm5 eR ex
  go_enter Tryd.func51, Tryd.ntmps51
  go_wp2_with (fail)
  refine (HK.out _ (Grew.refl _)).mono ?_
  rintro e w1 ⟨g1, c1, rfl, hO1, hg1⟩
  rw [HPL.out] at hO1 ⊢
  have hlit := (IntsO.lit 3 w1.heap.size w1 [(I : Int)] #[.int .i64 I] rfl (Nat.le_refl _) (show 1 ≤ maxLen by decide)).toV
  have HL := Lib.hid (HF.out _ _ (hg1.alloc _) hlit)
  have H1 := Lib.hid (And.intro hO1 hg1)
  clear hO1 hg1 hlit HF HK
  go_wp2_with (fail)
  refine HL.out.mono ?_
  rintro e w2 ⟨ws, hwl, hLv, a2, c2, rfl, hO2, hg2⟩
  rw [hwl] at hO2 ⊢
  have HPA : Hid (∀ k, ws.getD k 0 = passN n m p I k) := Lib.hid (HLV.out ws hLv)
  obtain ⟨g2, c2', e2, hb2, _⟩ := hO2.pos (by rw [hwl]; omega)
  rw [hwl] at e2
  obtain ⟨rfl, rfl⟩ : a2 = some ⟨g2, 0, none⟩ ∧ c2 = c2' := by simpa using e2
  have hg12 : Grew w1 w2 := ((Grew.refl w1).alloc _).trans hg2
  have H2 : Hid (IntsO 3 w.heap.size w1.heap.size w2 (.slice (some ⟨g1, 0, none⟩) N c1) p ∧ IntsO 3 w1.heap.size w2.heap.size w2 (.slice (some ⟨g2, 0, none⟩) N c2) ws ∧ Grew w w2 ∧ w1.heap.size ≤ w2.heap.size ∧ w.heap.size ≤ w1.heap.size) :=
    Lib.hid ⟨H1.out.1.grew hg12, hO2.wide (by simp) (Nat.le_refl _), H1.out.2.trans hg12, hg12.size, H1.out.2.size⟩
  have HWL := Lib.hid hwl
  clear hO2 hg2 hg12 H1 HL hLv hwl e2 hb2
  go_wp2
  go_loopg [6, 16] N (fun gk v i wi => ∃ a5 ln c5 k, v = .slice a5 ln c5 ∧ i = .int .i64 ((k : Nat) : Int) ∧ k ≤ N ∧ N ≤ gk + k ∧ ln ≤ 25 ∧
    Hid (ln = (riseL n m p I k).length ∧ IntsO 3 w2.heap.size wi.heap.size wi v (riseL n m p I k) ∧ IntsO 3 w.heap.size w1.heap.size wi (.slice (some ⟨g1, 0, none⟩) N c1) p ∧ IntsO 3 w1.heap.size w2.heap.size wi (.slice (some ⟨g2, 0, none⟩) N c2) ws ∧ Grew w wi ∧ w2.heap.size ≤ wi.heap.size))
  case atStart => exact ⟨none, 0, 0, 0, rfl, rfl, Nat.zero_le _, Nat.le_refl _, by omega, rfl, ⟨World.ownsRow_nil _ _ _ _, fun g e => by simp [Value.ownBlock] at e⟩, H2.out.1, H2.out.2.1, H2.out.2.2.1, Nat.le_refl _⟩
  case round =>
    obtain ⟨a5, ln, c5, k, rfl, rfl, hk1, hk2, hln, HZ⟩ := hrel
    by_cases hlt : k < N
    · have hcw := (HZ.out.2.2.2.1.at rfl (i := k) (by rw [HWL.out]; exact hlt)).1
      rw [HPA.out k] at hcw
      have hpb := HPB.out k hlt
      obtain ⟨q, eq⟩ : ∃ q, passN n m p I k = q := ⟨_, rfl⟩
      have HEQ := Lib.hid eq
      rw [eq] at hcw hpb
      have HRK := Lib.hid (HRI.out g1 c1 k wr HZ.out.2.2.1.toV hlt)
      have HLE := Lib.hid (riseL_le n m p I k)
      have HLN := Lib.hid HZ.out.1
      have hln2 : ln ≤ k := by rw [HZ.out.1]; exact riseL_le n m p I k
      clear eq
      go_wp2_with (fail)
      refine HRK.out.mono ?_
      rintro e w4 ⟨⟨r, rfl, hr⟩, hg4⟩
      have hcI := hg4.cell (HZ.out.2.2.1.at rfl (i := I) (by rw [HPL.out]; exact hI)).1
      rw [HEX.out] at hcI
      have H4 : Hid (IntsO 3 w2.heap.size w4.heap.size w4 (.slice a5 ln c5) (riseL n m p I k) ∧ IntsO 3 w.heap.size w1.heap.size w4 (.slice (some ⟨g1, 0, none⟩) N c1) p ∧ IntsO 3 w1.heap.size w2.heap.size w4 (.slice (some ⟨g2, 0, none⟩) N c2) ws ∧ Grew w w4 ∧ w2.heap.size ≤ w4.heap.size) := by
        obtain ⟨_, z1, z2, z3, z4, z5⟩ := HZ.out
        exact Lib.hid ⟨(z1.grew hg4).wide (Nat.le_refl _) hg4.size, z2.grew hg4, z3.grew hg4, z4.trans hg4, Nat.le_trans z5 hg4.size⟩
      clear hg4
      by_cases hr0 : r < 0
      · have HY1 : Hid (riseL n m p I (k + 1) = riseL n m p I k ++ [q - x]) := Lib.hid (by rw [riseL_yes (hr.1 hr0), HEQ.out, HEX.out])
        clear hr
        go_wp2_with (at_builtin; refine wpList_append_int rfl (.tmp 26) (.tmp 33) 25 rfl Tryd.underlying25 Tryd.infoI rfl rfl (by simp) H4.out.1 (by rw [← HLN.out]; omega) H4.out.2.2.2.2 ?_; intro g5 c5' w5 hO5 hW5 hS5; rw [← HLN.out] at hO5 ⊢)
        have H5 : Hid (ln + 1 = (riseL n m p I (k + 1)).length ∧ IntsO 3 w2.heap.size w5.heap.size w5 (.slice (some ⟨g5, 0, none⟩) (ln + 1) c5') (riseL n m p I (k + 1)) ∧ IntsO 3 w.heap.size w1.heap.size w5 (.slice (some ⟨g1, 0, none⟩) N c1) p ∧ IntsO 3 w1.heap.size w2.heap.size w5 (.slice (some ⟨g2, 0, none⟩) N c2) ws ∧ Grew w w5 ∧ w2.heap.size ≤ w5.heap.size) := by
          obtain ⟨z1, z2, z3, z4, z5⟩ := H4.out
          obtain ⟨_, _, _, y1, y2⟩ := H2.out
          refine Lib.hid ⟨by rw [HY1.out, List.length_append, HLN.out]; rfl, by rw [HY1.out]; exact hO5, z2.within hW5 (.inl (by omega)), z3.within hW5 (.inl (Nat.le_refl _)), hW5.grew z4 (by omega), by omega⟩
        clear hO5 hW5
        go_wp2
        go_roundg (gk - 1)
        case measure => omega
        case rel => exact ⟨_, ln + 1, c5', k + 1, rfl, by go_num, by omega, by omega, by omega, H5.out⟩
      · have H5 : Hid (ln = (riseL n m p I (k + 1)).length ∧ IntsO 3 w2.heap.size w4.heap.size w4 (.slice a5 ln c5) (riseL n m p I (k + 1)) ∧ IntsO 3 w.heap.size w1.heap.size w4 (.slice (some ⟨g1, 0, none⟩) N c1) p ∧ IntsO 3 w1.heap.size w2.heap.size w4 (.slice (some ⟨g2, 0, none⟩) N c2) ws ∧ Grew w w4 ∧ w2.heap.size ≤ w4.heap.size) := by
          rw [riseL_no (by
            cases ha : ahead p k I with
            | false => rfl
            | true => exact absurd (hr.2 ha) hr0)]
          exact Lib.hid ⟨HZ.out.1, H4.out⟩
        clear hr H4 HZ
        go_wp2
        go_roundg (gk - 1)
        case measure => omega
        case rel => exact ⟨a5, ln, c5, k + 1, rfl, by go_num, by omega, by omega, hln, H5.out⟩
    · obtain rfl : k = N := by omega
      obtain ⟨xs, exs⟩ : ∃ xs, riseL n m p I k = xs := ⟨_, rfl⟩
      rw [exs] at HZ HKN
      have H6 : Hid (IntsV wr (.slice a5 ln c5) xs ∧ ln = xs.length ∧ Grew w wr) := Lib.hid ⟨HZ.out.2.1.toV, HZ.out.1, HZ.out.2.2.2.2.1⟩
      clear HZ exs
      by_cases hl0 : ln = 0
      · have HR : Hid (R = -1) := Lib.hid (by rw [HKN.out, if_pos (by rw [← H6.out.2.1]; exact hl0)])
        subst hl0
        go_wp2
        go_ret
        exact ⟨ret_int HR.out.symm, H6.out.2.2⟩
      · have HR : Hid (R = minU xs (xs.length - 1)) := Lib.hid (by rw [HKN.out, if_neg (by rw [← H6.out.2.1]; exact hl0)])
        have hbe : ((ln : Int) == 0) = false := beq_eq_false_iff_ne.2 (by omega)
        have HM := Lib.hid (slicesMin_any (.slice a5 ln c5) xs wr H6.out.1 (by rw [← H6.out.2.1]; omega) (by rw [← H6.out.2.1]; omega))
        go_wp2_with (fail)
        refine HM.out.mono ?_
        rintro e w6 ⟨rfl, rfl⟩
        go_wp2
        go_ret
        exact ⟨ret_int HR.out.symm, H6.out.2.2⟩

set_option maxRecDepth 100000 in
set_option maxHeartbeats 2000000 in
theorem KeepsOf_any (v : Value) (h : List (List Int)) (w : World) (hv : RowsV w v h) (hS : Steps w) :
    Calls Tryd.prog 33 #[v] w (OwnI w (keepsL h)) := by
  have HK := ValidGrid_any v h w hv
  cases hg : vGrid h with
  | false =>
    rw [hg] at HK
    have HK2 := Lib.hid HK
    rw [keepsL_no hg]
    obtain ⟨a, b, o, c, rfl, _, _, _⟩ := hv.shape
    clear hv hS HK hg
    go_enter Tryd.func33, Tryd.ntmps33
    go_wp2_with (fail)
    refine HK2.out.mono ?_
    rintro e w1 ⟨rfl, rfl⟩
    go_wp2
    go_ret
    exact ownI_nil (Grew.refl _)
  | true =>
    rw [hg] at HK
    have HK2 := Lib.hid HK
    obtain ⟨n, en⟩ : ∃ n, h.length = n := ⟨_, rfl⟩
    obtain ⟨m, em⟩ : ∃ m, (h.getD 0 []).length = m := ⟨_, rfl⟩
    have HPI := Lib.hid (PitsOf_any v h w hv hS)
    have HME := Lib.hid (pitsL_mem hg)
    have HKO := Lib.hid fun (I : Nat) W (hW : Grew w W) hI => keepOf_any v h n m (n * m) I W (hv.grew hW) (hS.grew hW) hg en em rfl hI
    obtain ⟨P, eP⟩ : ∃ P, pitsL h = P := ⟨_, rfl⟩
    have hPl : P.length ≤ 1000000 := by rw [← eP]; exact pitsL_le h
    have HR : Hid (keepsL h = P.map fun i => keepN n m h.flatten i.toNat) := Lib.hid (by rw [keepsL, eP, en, em])
    rw [eP, en, em] at HME
    rw [eP] at HPI
    obtain ⟨p, ep⟩ : ∃ p, h.flatten = p := ⟨_, rfl⟩
    rw [ep] at HKO HR
    obtain ⟨R, eR⟩ : ∃ R, keepsL h = R := ⟨_, rfl⟩
    rw [eR] at HR ⊢
    obtain ⟨a, b, o, c, rfl, ⟨hlc, hcb⟩, _, _⟩ := hv.shape
    clear hv hS HK hg en em eP ep eR
    go_enter Tryd.func33, Tryd.ntmps33
    go_wp2_with (fail)
    refine HK2.out.mono ?_
    rintro e w1 ⟨rfl, rfl⟩
    go_wp2_with (fail)
    refine HPI.out.mono ?_
    rintro e w2 ho2
    obtain ⟨a2, c2, rfl, hO2, hg2⟩ := ho2.shape
    obtain ⟨Q, eQ⟩ : ∃ Q, P.length = Q := ⟨_, rfl⟩
    have HQ := Lib.hid eQ
    rw [eQ] at hO2 hPl ⊢
    have hQ63 : Q ≤ 9223372036854775807 := by omega
    have H2 := Lib.hid (And.intro hO2 hg2)
    clear hO2 hg2 ho2 eQ HPI
    go_wp2
    go_loopg [3, 12] Q (fun gk v i wi => ∃ a5 ln c5, v = .slice a5 ln c5 ∧ i = .int .i64 ((ln : Nat) : Int) ∧ ln ≤ Q ∧ Q ≤ gk + ln ∧
      Hid (IntsO 3 w2.heap.size wi.heap.size wi v ((P.take ln).map fun i => keepN n m p i.toNat) ∧ IntsO 3 w.heap.size w2.heap.size wi (.slice a2 Q c2) P ∧ Grew w wi ∧ w2.heap.size ≤ wi.heap.size))
    case atStart => exact ⟨none, 0, 0, rfl, rfl, Nat.zero_le _, Nat.le_refl _, ⟨World.ownsRow_nil _ _ _ _, fun g e => by simp [Value.ownBlock] at e⟩, H2.out.1, H2.out.2, Nat.le_refl _⟩
    case round =>
      obtain ⟨a5, ln, c5, rfl, rfl, hk1, hk2, HZ⟩ := hrel
      by_cases hlt : ln < Q
      · obtain ⟨a6, b6, o6, c7, e6, _, ha6, HC6⟩ := HZ.out.2.1.toV.shape
        rw [HQ.out] at e6 ha6
        obtain ⟨rfl, rfl⟩ : a2 = a6 ∧ c2 = c7 := by simpa using e6
        obtain rfl := ha6 (by omega)
        have hlc := HC6.out ln (by rw [HQ.out]; exact hlt)
        have hmem : P.getD ln 0 ∈ P := by rw [List.getD_eq_getElem?_getD, List.getElem?_eq_getElem (by rw [HQ.out]; exact hlt)]; exact List.getElem_mem _
        obtain ⟨I, eI, hI⟩ := HME.out _ hmem
        have HEI := Lib.hid eI
        rw [eI] at hlc
        have HKI := Lib.hid (HKO.out I wr HZ.out.2.2.1 hI)
        obtain ⟨y, ey⟩ : ∃ y, keepN n m p I = y := ⟨_, rfl⟩
        rw [ey] at HKI
        have HEY := Lib.hid ey
        clear e6 ha6 HC6 hmem eI ey
        go_wp2_with (fail)
        refine HKI.out.mono ?_
        rintro e w4 ⟨rfl, hg4⟩
        have hlen : ((P.take ln).map fun i => keepN n m p i.toNat).length = ln := by rw [List.length_map, List.length_take, HQ.out]; omega
        have HLEN := Lib.hid hlen
        have H4 : Hid (IntsO 3 w2.heap.size w4.heap.size w4 (.slice a5 ln c5) ((P.take ln).map fun i => keepN n m p i.toNat) ∧ IntsO 3 w.heap.size w2.heap.size w4 (.slice (some ⟨b6, o6, none⟩) Q c2) P ∧ Grew w w4 ∧ w2.heap.size ≤ w4.heap.size) := by
          obtain ⟨z1, z2, z3, z4⟩ := HZ.out
          exact Lib.hid ⟨(z1.grew hg4).wide (Nat.le_refl _) hg4.size, z2.grew hg4, z3.trans hg4, Nat.le_trans z4 hg4.size⟩
        clear hg4 hlen
        go_wp2_with (at_builtin; refine wpList_append_int rfl (.tmp 16) (.tmp 20) 25 rfl Tryd.underlying25 Tryd.infoI rfl rfl (by simp) H4.out.1 (by rw [HLEN.out]; omega) H4.out.2.2.2 ?_; intro g5 c5' w5 hO5 hW5 hS5; rw [HLEN.out] at hO5 ⊢)
        have H5 : Hid (IntsO 3 w2.heap.size w5.heap.size w5 (.slice (some ⟨g5, 0, none⟩) (ln + 1) c5') ((P.take (ln + 1)).map fun i => keepN n m p i.toNat) ∧ IntsO 3 w.heap.size w2.heap.size w5 (.slice (some ⟨b6, o6, none⟩) Q c2) P ∧ Grew w w5 ∧ w2.heap.size ≤ w5.heap.size) := by
          obtain ⟨z1, z2, z3, z4⟩ := H4.out
          have := H2.out.2.size
          refine Lib.hid ⟨?_, z2.within hW5 (.inl (Nat.le_refl _)), hW5.grew z3 (by omega), by omega⟩
          rw [map_take_next _ 0 (by rw [HQ.out]; exact hlt), HEI.out, Int.toNat_natCast, HEY.out]
          exact hO5
        clear hO5 hW5
        go_wp2
        go_roundg (gk - 1)
        case measure => omega
        case rel => exact ⟨_, ln + 1, c5', rfl, by go_num, by omega, by omega, H5.out⟩
      · obtain rfl : ln = Q := by omega
        have H6 : Hid (IntsO 3 w.heap.size wr.heap.size wr (.slice a5 ln c5) R ∧ ln = R.length ∧ Grew w wr) := by
          obtain ⟨z1, z2, z3, z4⟩ := HZ.out
          rw [List.take_of_length_le (by rw [HQ.out]; exact Nat.le_refl _), ← HR.out] at z1
          exact Lib.hid ⟨z1.wide H2.out.2.size (Nat.le_refl _), by rw [HR.out, List.length_map, HQ.out], z3⟩
        clear HZ
        go_wp2
        go_ret
        refine ⟨a5, c5, ret_slice H6.out.2.1, ?_, H6.out.2.2⟩
        rw [← H6.out.2.1]
        exact H6.out.1
end Go.Proofs.YtdjjimnfhfdjdaaDoor
/- The contracts of spec.upside and impl.upsideDown. -/
namespace Go.Proofs.YtdjjimnfhfdjdaaDoor
open Go.RowKit

set_option maxRecDepth 100000 in
set_option maxHeartbeats 2000000 in
theorem upside_any (v : Value) (h : List (List Int)) (w : World) (hv : RowsV w v h) (hg : vGrid h = true) :
    Calls Tryd.prog 56 #[v] w (NewRows w (underL h)) := by
  have G := Grid.of hg
  obtain ⟨m, em⟩ : ∃ m, (h.getD 0 []).length = m := ⟨_, rfl⟩
  rw [em] at G
  have HG := Lib.hid G
  have b1 := G.n1
  have b5 := G.n5
  have c1 := G.m1
  have c5 := G.m5
  obtain ⟨a, b, o, c, rfl, ⟨hlc, hcb⟩, ha, HC⟩ := hv.shape
  obtain rfl := ha b1
  clear hv hg ha em G
  go_enter Tryd.func56, Tryd.ntmps56
  go_wp2_with (fail)
  have H0 : Hid (RowsO 25 3 w.heap.size (w.alloc (.cells #[] 25)).heap.size (w.alloc (.cells #[] 25)) (.slice (some ⟨w.heap.size, 0, none⟩) 0 0) [] ∧ Grew w (w.alloc (.cells #[] 25))) :=
    ⟨by simpa using RowsO.lit0 25 3 w.heap.size w (Nat.le_refl _), (Grew.refl w).alloc _⟩
  go_loopg [3, 4] h.length (fun gk v i wr => ∃ H g c', v = .slice (some ⟨g, 0, none⟩) (List.length H) c' ∧ i = .int .i64 ((List.length H : Nat) : Int) ∧ List.length H ≤ h.length ∧ h.length ≤ gk + List.length H ∧
    Hid (RowsO 25 3 w.heap.size wr.heap.size wr v H ∧ H = (h.take (List.length H)).map (fun row => row.map fun x => 12 - x) ∧ Grew w wr))
  case atStart => exact ⟨[], _, _, rfl, rfl, Nat.zero_le _, Nat.le_refl _, H0.out.1, rfl, H0.out.2⟩
  case round =>
    obtain ⟨H, g, c', rfl, rfl, hH1, hH2, HI⟩ := hrel
    clear H0
    by_cases hlt : H.length < h.length
    · obtain ⟨wo, rfl⟩ : ∃ wo : World, wo = wr := ⟨_, rfl⟩
      obtain ⟨gn, rfl⟩ : ∃ gn : Nat, gn = gk := ⟨_, rfl⟩
      have hsw := HI.out.2.2.size
      obtain ⟨u, hck, hu⟩ := HC.out H.length hlt
      have hrl := HG.out.len H.length hlt
      obtain ⟨row, er⟩ : ∃ row, h.getD H.length [] = row := ⟨_, rfl⟩
      have hnum := HG.out.num H.length hlt
      rw [er] at hu hrl hnum
      obtain ⟨a1, b1', o1, c1', rfl, ⟨hlc1, hcb1⟩, ha1, HC1⟩ := hu.shape
      obtain rfl := ha1 (by omega)
      have HCK := Lib.hid (HI.out.2.2.cell hck)
      have HER := Lib.hid (And.intro er (And.intro hrl hnum))
      have hrm : row.length ≤ 5 ∧ 1 ≤ row.length := by omega
      clear hck hu ha1 er hrl hnum
      go_wp2_with (fail)
      have H0 : Hid (IntsO 3 wo.heap.size (wo.alloc (.cells #[] 3)).heap.size (wo.alloc (.cells #[] 3)) (.slice (some ⟨wo.heap.size, 0, none⟩) 0 0) [] ∧ Grew wo (wo.alloc (.cells #[] 3))) :=
        ⟨by simpa using IntsO.lit 3 wo.heap.size wo [] #[] rfl (Nat.le_refl _) (by decide), (Grew.refl wo).alloc _⟩
      go_loopg [5, 6] row.length (fun gk v i wi => ∃ xs g' c', v = .slice (some ⟨g', 0, none⟩) (List.length xs) c' ∧ i = .int .i64 ((List.length xs : Nat) : Int) ∧ List.length xs ≤ row.length ∧ row.length ≤ gk + List.length xs ∧
        Hid (IntsO 3 wo.heap.size wi.heap.size wi v xs ∧ xs = (row.take (List.length xs)).map (fun x => 12 - x) ∧ Grew wo wi))
      case atStart => exact ⟨[], _, _, rfl, rfl, Nat.zero_le _, Nat.le_refl _, H0.out.1, rfl, H0.out.2⟩
      case round =>
        obtain ⟨xs, g', c2, rfl, rfl, hx1, hx2, HX⟩ := hrel
        clear H0
        have hck' := HX.out.2.2.cell HCK.out
        by_cases hltx : xs.length < row.length
        · have hel := HX.out.2.2.cell (HI.out.2.2.cell (HC1.out xs.length hltx))
          obtain ⟨y, ey⟩ : ∃ y, row.getD xs.length 0 = y := ⟨_, rfl⟩
          have hy := HER.out.2.2 xs.length (by have := HER.out.2.1; omega)
          rw [ey] at hel hy
          have HEY := Lib.hid ey
          clear ey
          go_wp2_with (at_builtin; refine wpList_append_int rfl (.tmp 24) (.tmp 33) 25 rfl Tryd.underlying25 Tryd.infoI rfl rfl rfl HX.out.1 (by omega) HX.out.2.2.size ?_; intro g5 c5 w5 hO5 hW5 hS5)
          have HF := Lib.hid (And.intro hO5 hW5)
          clear hO5 hW5
          go_wp2
          go_roundg (gk - 1)
          case measure => omega
          case rel => exact ⟨xs ++ [12 - y], g5, c5, by simp, by simp, by simp; omega, by simp; omega, HF.out.1, snoc_map 0 HX.out.2.1 hltx (by rw [HEY.out]), HF.out.2.grew HX.out.2.2 (Nat.le_refl _)⟩
        · go_wp2_with (at_builtin; refine wpList_append_row rfl (.tmp 35) (.tmp 37) 23 rfl (by decide) Tryd.underlying23 Tryd.infoIs rfl rfl rfl (HI.out.1.grew HX.out.2.2) HX.out.1 (by omega) (by have := HX.out.2.2.size; omega) hsw ?_; intro g5 c5 w5 hO5 hW5 hS5)
          have HF := Lib.hid (And.intro hO5 hW5)
          clear hO5 hW5
          go_wp2
          go_roundg (gn - 1)
          case measure => omega
          case rel => exact ⟨H ++ [xs], g5, c5, by simp, by simp, by simp; omega, by simp; omega, HF.out.1, snoc_map [] HI.out.2.1 hlt (by rw [HER.out.1, HX.out.2.1, List.take_of_length_le (by omega)]), HF.out.2.grew (HI.out.2.2.trans HX.out.2.2) (Nat.le_refl _)⟩
    · go_wp2
      go_ret
      refine ⟨_, rfl, ?_, HI.out.2.2⟩
      have := HI.out.2.1
      rw [List.take_of_length_le (by omega)] at this
      rw [underL, ← this]
      exact HI.out.1

/-- The first c turned upside down. -/
def partU (row : List Int) (c : Nat) : List Int := (List.range row.length).map fun i => if i < c then 12 - row.getD i 0 else row.getD i 0
theorem partU_len (row : List Int) (c : Nat) : (partU row c).length = row.length := by simp [partU]
theorem partU_at (row : List Int) (c i : Nat) (h : i < row.length) : (partU row c).getD i 0 = if i < c then 12 - row.getD i 0 else row.getD i 0 := by simp [partU, h]
theorem ext_getD' {f g : List Int} (hl : f.length = g.length) (h : ∀ i, i < f.length → f.getD i 0 = g.getD i 0) : f = g := by
  apply List.ext_getElem hl
  intro i h1 h2
  have := h i h1
  simpa [h1, h2] using this
theorem partU_zero (row : List Int) : partU row 0 = row := ext_getD' (partU_len _ _) fun i hi => by rw [partU_len] at hi; rw [partU_at _ _ _ hi, if_neg (Nat.not_lt_zero _)]
theorem partU_all (row : List Int) : partU row row.length = row.map fun x => 12 - x := ext_getD' (by rw [partU_len, List.length_map]) fun i hi => by
  rw [partU_len] at hi
  rw [partU_at _ _ _ hi, if_pos hi, getD_map' _ _ _ _ _ hi]
theorem partU_step (row : List Int) (c : Nat) (h : c < row.length) : (partU row c).set c (12 - row.getD c 0) = partU row (c + 1) := ext_getD' (by rw [List.length_set, partU_len, partU_len]) fun i hi => by
  rw [List.length_set, partU_len] at hi
  rw [partU_at _ _ _ hi, List.getD_eq_getElem?_getD]
  by_cases e : i = c
  · subst e
    rw [if_pos (by omega), List.getElem?_set_self (by rw [partU_len]; exact hi)]
    rfl
  · rw [List.getElem?_set_ne (fun e2 => e e2.symm), ← List.getD_eq_getElem?_getD, partU_at _ _ _ hi]
    by_cases h2 : i < c
    · rw [if_pos h2, if_pos (by omega)]
    · rw [if_neg h2, if_neg (by omega)]

set_option maxRecDepth 100000 in
set_option maxHeartbeats 2000000 in
theorem upsideDown_any (v : Value) (h : List (List Int)) (w : World) (hv : RowsV w v h) (hg : vGrid h = true) :
    Calls Tryd.prog 55 #[v] w (NewRows w (underL h)) := by
  have G := Grid.of hg
  obtain ⟨m, em⟩ : ∃ m, (h.getD 0 []).length = m := ⟨_, rfl⟩
  rw [em] at G
  have HG := Lib.hid G
  have b1 := G.n1
  have b5 := G.n5
  have c1 := G.m1
  have c5 := G.m5
  obtain ⟨a, b, o, c, rfl, ⟨hlc, hcb⟩, ha, HC⟩ := hv.shape
  obtain rfl := ha b1
  clear hv hg ha em G
  go_enter Tryd.func55, Tryd.ntmps55
  go_wp2
  go_loopg [3, 11] h.length (fun gk v i wr => ∃ H a' ln c', v = .slice a' ln c' ∧ i = .int .i64 ((ln : Nat) : Int) ∧ ln ≤ h.length ∧ h.length ≤ gk + ln ∧ ln = List.length H ∧
    Hid (RowsO 25 3 w.heap.size wr.heap.size wr v H ∧ H = (h.take (List.length H)).map (fun row => row.map fun x => 12 - x) ∧ Grew w wr))
  case atStart => exact ⟨[], none, 0, 0, rfl, rfl, Nat.zero_le _, Nat.le_refl _, rfl, RowsO.nil _ _ _ _ _, rfl, Grew.refl _⟩
  case round =>
    obtain ⟨H, a', ln, c', rfl, rfl, hH1, hH2, hHl, HI⟩ := hrel
    have HHL := Lib.hid hHl
    clear hHl
    by_cases hlt : ln < h.length
    · obtain ⟨wo, rfl⟩ : ∃ wo : World, wo = wr := ⟨_, rfl⟩
      obtain ⟨gn, rfl⟩ : ∃ gn : Nat, gn = gk := ⟨_, rfl⟩
      have hsw := HI.out.2.2.size
      obtain ⟨u, hck, hu⟩ := HC.out ln hlt
      have hrl := HG.out.len ln hlt
      obtain ⟨row, er⟩ : ∃ row, h.getD ln [] = row := ⟨_, rfl⟩
      have hnum := HG.out.num ln hlt
      rw [er] at hu hrl hnum
      obtain ⟨a1, b1', o1, c1', rfl, ⟨hlc1, hcb1⟩, ha1, HC1⟩ := hu.shape
      obtain rfl := ha1 (by omega)
      have hcr := HI.out.2.2.cell hck
      have HER := Lib.hid (And.intro er (And.intro hrl hnum))
      have hrm : row.length ≤ 5 ∧ 1 ≤ row.length := by omega
      have HCL := Lib.hid (slicesClone_any b1' o1 c1' row wo (fun i hi => HI.out.2.2.cell (HC1.out i hi)) hrm.2 (by omega))
      clear hck hu ha1 er hrl hnum HC1
      go_wp2_with (fail)
      refine HCL.out.mono ?_
      rintro e w2 ⟨g2, c2, rfl, hO2, hg2⟩
      have H2 : Hid (RowsO 25 3 w.heap.size wo.heap.size w2 (.slice a' ln c') H ∧ IntsO 3 wo.heap.size w2.heap.size w2 (.slice (some ⟨g2, 0, none⟩) row.length c2) row ∧ Grew w w2 ∧ wo.heap.size ≤ w2.heap.size) := Lib.hid ⟨HI.out.1.grew hg2, hO2, HI.out.2.2.trans hg2, hg2.size⟩
      clear hO2 hg2 HCL
      go_wp2
      go_loopg [19] row.length (fun gj i wi => ∃ k : Nat, i = .int .i64 (k : Int) ∧ k ≤ row.length ∧ row.length ≤ gj + k ∧
        Hid (RowsO 25 3 w.heap.size wo.heap.size wi (.slice a' ln c') H ∧ IntsO 3 wo.heap.size w2.heap.size wi (.slice (some ⟨g2, 0, none⟩) row.length c2) (partU row k) ∧ Grew w wi ∧ w2.heap.size ≤ wi.heap.size))
      case atStart => exact ⟨0, rfl, Nat.zero_le _, Nat.le_refl _, H2.out.1, by rw [partU_zero]; exact H2.out.2.1, H2.out.2.2.1, Nat.le_refl _⟩
      case round =>
        obtain ⟨k, rfl, hk1, hk2, HX⟩ := hrel
        by_cases hlk : k < row.length
        · obtain ⟨hcx, hfx⟩ := HX.out.2.1.at rfl (i := k) (by rw [partU_len]; exact hlk)
          rw [partU_at _ _ _ hlk, if_neg (Nat.lt_irrefl _)] at hcx
          have hy := HER.out.2.2 k (by have := HER.out.2.1; omega)
          have hst := partU_step row k hlk
          obtain ⟨y, ey⟩ : ∃ y, row.getD k 0 = y := ⟨_, rfl⟩
          rw [ey] at hcx hy hst
          have hgb := HX.out.2.1.blk
          have HF : Hid (RowsO 25 3 w.heap.size wo.heap.size (wr.setCell ⟨g2, k, none⟩ (.int .i64 (12 - y))) (.slice a' ln c') H ∧ IntsO 3 wo.heap.size w2.heap.size (wr.setCell ⟨g2, k, none⟩ (.int .i64 (12 - y))) (.slice (some ⟨g2, 0, none⟩) row.length c2) (partU row (k + 1)) ∧ Grew w (wr.setCell ⟨g2, k, none⟩ (.int .i64 (12 - y))) ∧ w2.heap.size ≤ (wr.setCell ⟨g2, k, none⟩ (.int .i64 (12 - y))).heap.size) := by
            have hwi : Within wo.heap.size w2.heap.size wr (wr.setCell ⟨g2, k, none⟩ (.int .i64 (12 - y))) := (Within.refl _ _ _).setCell (p := ⟨g2, k, none⟩) hgb.1 hgb.2 _
            refine Lib.hid ⟨HX.out.1.within hwi (.inl (Nat.le_refl _)), ?_, Within.grew HX.out.2.2.1 hwi hsw, by simpa using HX.out.2.2.2⟩
            rw [← hst]
            exact HX.out.2.1.set rfl k (12 - y)
          clear hst ey HX
          go_wp2
          go_roundg (gk - 1)
          case measure => omega
          case rel => exact ⟨k + 1, by go_num, by omega, by omega, HF.out⟩
        · obtain rfl : k = row.length := by omega
          have hlen : H.length = ln := HHL.out.symm
          have HLEN := Lib.hid hlen
          have HX2 : Hid (RowsO 25 3 w.heap.size wo.heap.size wr (.slice a' ln c') H ∧ IntsO 3 wo.heap.size w2.heap.size wr (.slice (some ⟨g2, 0, none⟩) row.length c2) (row.map fun x => 12 - x) ∧ Grew w wr ∧ w2.heap.size ≤ wr.heap.size) := by
            have := HX.out
            rw [partU_all] at this
            exact Lib.hid this
          have HSZ := Lib.hid H2.out.2.2.2
          clear HX hlen
          go_wp2_with (at_builtin; refine wpList_append_row rfl (.tmp 30) (.tmp 32) 23 rfl (by decide) Tryd.underlying23 Tryd.infoIs rfl rfl rfl HX2.out.1 (HX2.out.2.1.wide (Nat.le_refl _) HX2.out.2.2.2) (by rw [HLEN.out]; omega) (by have := HX2.out.2.2.1.size; omega) hsw ?_; intro g5 c5 w5 hO5 hW5 hS5; rw [HLEN.out] at hO5 ⊢)
          have HF := Lib.hid (And.intro hO5 hW5)
          clear hO5 hW5
          go_wp2
          go_roundg (gn - 1)
          case measure => omega
          case rel =>
            refine ⟨H ++ [row.map fun x => 12 - x], _, ln + 1, c5, rfl, by go_num, by omega, by omega, by simp [HLEN.out], HF.out.1, ?_, HF.out.2.grew HX2.out.2.2.1 (Nat.le_refl _)⟩
            exact snoc_map [] HI.out.2.1 (by rw [HLEN.out]; exact hlt) (by rw [HLEN.out, HER.out.1])
    · go_wp2
      go_ret
      refine ⟨_, rfl, ?_, HI.out.2.2⟩
      have := HI.out.2.1
      rw [List.take_of_length_le (by rw [← HHL.out]; omega)] at this
      rw [underL, ← this]
      exact HI.out.1
end Go.Proofs.YtdjjimnfhfdjdaaDoor
/- The contracts of impl.StandsOf and spec.StandsOf. -/
namespace Go.Proofs.YtdjjimnfhfdjdaaDoor
open Go.RowKit

noncomputable def standsL (h : List (List Int)) : List Int := if vGrid h then keepsL (underL h) else []
theorem standsL_le (h : List (List Int)) : (standsL h).length ≤ 1000000 := by
  unfold standsL
  split
  · exact keepsL_le _
  · simp

set_option maxRecDepth 100000 in
set_option maxHeartbeats 2000000 in
theorem StandsOf_any (v : Value) (h : List (List Int)) (w : World) (hv : RowsV w v h) (hS : Steps w) :
    Calls Tryd.prog 36 #[v] w (OwnI w (standsL h)) := by
  have HK := ValidGrid_any v h w hv
  rw [standsL]
  cases hg : vGrid h with
  | false =>
    rw [hg] at HK
    have HK2 := Lib.hid HK
    rw [if_neg (by simp)]
    obtain ⟨a, b, o, c, rfl, _, _, _⟩ := hv.shape
    clear hv HK hg hS
    go_enter Tryd.func36, Tryd.ntmps36
    go_wp2_with (fail)
    refine HK2.out.mono ?_
    rintro e w1 ⟨rfl, rfl⟩
    have HG := Lib.hid (Grew.refl w)
    go_wp2
    go_ret
    exact ownI_nil HG.out
  | true =>
    rw [hg] at HK
    have HK2 := Lib.hid HK
    rw [if_pos rfl]
    have HU := Lib.hid fun W (hW : Grew w W) => upsideDown_any v h W (hv.grew hW) hg
    have HP := Lib.hid (fun v W (hW : Grew w W) a => KeepsOf_any v (underL h) W a (hS.grew hW))
    obtain ⟨R, eR⟩ : ∃ R, keepsL (underL h) = R := ⟨_, rfl⟩
    obtain ⟨U, eU⟩ : ∃ U, underL h = U := ⟨_, rfl⟩
    rw [eR] at HP ⊢
    rw [eU] at HU HP
    obtain ⟨a, b, o, c, rfl, _, _, _⟩ := hv.shape
    clear hv HK hg eR eU hS
    go_enter Tryd.func36, Tryd.ntmps36
    go_wp2_with (fail)
    refine HK2.out.mono ?_
    rintro e w1 ⟨rfl, rfl⟩
    have HG := Lib.hid (Grew.refl w)
    go_wp2_with (fail)
    refine (HU.out _ HG.out).mono ?_
    rintro e w2 ⟨v2, rfl, hO2, hg2⟩
    obtain ⟨a2, c2, rfl⟩ := hO2.sh
    have H2 := Lib.hid (And.intro hO2.toV (HG.out.trans hg2))
    clear hO2 hg2
    go_wp2_with (fail)
    refine (HP.out _ _ H2.out.2 H2.out.1).mono ?_
    rintro e w3 ho
    obtain ⟨a1, c1, rfl, hO, hG⟩ := ho.shape
    have H1 := Lib.hid (And.intro (hO.wide H2.out.2.size (Nat.le_refl _)) (H2.out.2.trans hG))
    clear ho hO hG
    go_wp2
    go_ret
    exact ⟨a1, c1, rfl, H1.out⟩

set_option maxRecDepth 100000 in
set_option maxHeartbeats 2000000 in
theorem SStandsOf_any (v : Value) (h : List (List Int)) (w : World) (hv : RowsV w v h) :
    Calls Tryd.prog 37 #[v] w (OwnI w (standsL h)) := by
  have HK := sValidGrid_any v h w hv
  rw [standsL]
  cases hg : vGrid h with
  | false =>
    rw [hg] at HK
    have HK2 := Lib.hid HK
    rw [if_neg (by simp)]
    obtain ⟨a, b, o, c, rfl, _, _, _⟩ := hv.shape
    clear hv HK hg
    go_enter Tryd.func37, Tryd.ntmps37
    go_wp2_with (fail)
    refine HK2.out.mono ?_
    rintro e w1 ⟨rfl, hG⟩
    have HG := Lib.hid hG
    clear hG
    go_wp2
    go_ret
    exact ownI_nil HG.out
  | true =>
    rw [hg] at HK
    have HK2 := Lib.hid HK
    rw [if_pos rfl]
    have HU := Lib.hid fun W (hW : Grew w W) => upside_any v h W (hv.grew hW) hg
    have HP := Lib.hid (fun v W (_ : Grew w W) a => SKeepsOf_any v (underL h) W a)
    obtain ⟨R, eR⟩ : ∃ R, keepsL (underL h) = R := ⟨_, rfl⟩
    obtain ⟨U, eU⟩ : ∃ U, underL h = U := ⟨_, rfl⟩
    rw [eR] at HP ⊢
    rw [eU] at HU HP
    obtain ⟨a, b, o, c, rfl, _, _, _⟩ := hv.shape
    clear hv HK hg eR eU
    go_enter Tryd.func37, Tryd.ntmps37
    go_wp2_with (fail)
    refine HK2.out.mono ?_
    rintro e w1 ⟨rfl, hG⟩
    have HG := Lib.hid hG
    clear hG
    go_wp2_with (fail)
    refine (HU.out _ HG.out).mono ?_
    rintro e w2 ⟨v2, rfl, hO2, hg2⟩
    obtain ⟨a2, c2, rfl⟩ := hO2.sh
    have H2 := Lib.hid (And.intro hO2.toV (HG.out.trans hg2))
    clear hO2 hg2
    go_wp2_with (fail)
    refine (HP.out _ _ H2.out.2 H2.out.1).mono ?_
    rintro e w3 ho
    obtain ⟨a1, c1, rfl, hO, hG⟩ := ho.shape
    have H1 := Lib.hid (And.intro (hO.wide H2.out.2.size (Nat.le_refl _)) (H2.out.2.trans hG))
    clear ho hO hG
    go_wp2
    go_ret
    exact ⟨a1, c1, rfl, H1.out⟩
end Go.Proofs.YtdjjimnfhfdjdaaDoor
/- The law FnStandsOf returns true. -/
namespace Go.Proofs.YtdjjimnfhfdjdaaDoor
open Go.RowKit

set_option maxRecDepth 100000 in
set_option maxHeartbeats 4000000 in
theorem FnStandsOf_any (v : Value) (bs : List Int) (w : World) (hv : NumsV .u8 w v bs) (hb : ∀ i, i < bs.length → 0 ≤ bs.getD i 0 ∧ bs.getD i 0 ≤ 255) (hS : Steps w) :
    Calls Tryd.prog 8 #[v] w fun e w' => e = .returned (.bool true) ∧ Grew w w' := by
  have HD := Lib.hid (DrawStandsOf_any v bs w hv hb)
  have HS := Lib.hid hS
  obtain ⟨a, b, o, c, rfl, ⟨hlc, hcb⟩, _, _⟩ := hv.shape
  clear hv hb hS
  by_cases hbig : 1048576 < bs.length
  · go_enter Tryd.func8, Tryd.ntmps8
    go_wp2
    go_ret
    exact ⟨rfl, Grew.refl _⟩
  · go_enter Tryd.func8, Tryd.ntmps8
    go_wp2_with (fail)
    refine HD.out.mono ?_
    rintro e w1 ⟨v1, H, rfl, hO, hd, hg1⟩
    have HV := Lib.hid (And.intro hO.toV hg1)
    obtain ⟨a1, c1, rfl⟩ := hO.sh
    obtain ⟨M, eM⟩ : ∃ M, standsL H = M := ⟨_, rfl⟩
    have HM := Lib.hid eM
    clear hO hd hg1 HD
    go_wp2_with (fail)
    refine (StandsOf_any _ H _ HV.out.1 (HS.out.grew HV.out.2)).mono ?_
    rw [eM]
    rintro e w2 ho2
    obtain ⟨a2, c2, rfl, hO2, hg2⟩ := ho2.shape
    have H2 := Lib.hid (And.intro hO2.toV hg2)
    clear hO2 hg2 ho2
    go_wp2_with (fail)
    refine (SStandsOf_any _ H _ (HV.out.1.grew H2.out.2)).mono ?_
    rw [eM]
    rintro e w3 ho3
    obtain ⟨a3, c3, rfl, hO3, hg3⟩ := ho3.shape
    have H3 : Hid (IntsV w3 (.slice a2 M.length c2) M ∧ IntsV w3 (.slice a3 M.length c3) M ∧ RowsV w3 (.slice a1 H.length c1) H ∧ Grew w w3) :=
      Lib.hid ⟨H2.out.1.grew hg3, hO3.toV, HV.out.1.grew (H2.out.2.trans hg3), HV.out.2.trans (H2.out.2.trans hg3)⟩
    clear hO3 hg3 ho3 H2 HV eM
    go_wp2_with (fail)
    refine (equalInts_any _ _ M M _ H3.out.1 H3.out.2.1).mono ?_
    rw [decide_eq_true (rfl : M = M)]
    rintro e w4 ⟨rfl, hq4⟩
    have hg4 := quiet_grew hq4
    have H4 : Hid (IntsV w4 (.slice a2 M.length c2) M ∧ RowsV w4 (.slice a1 H.length c1) H ∧ Grew w w4) :=
      Lib.hid ⟨H3.out.1.grew hg4, H3.out.2.2.1.grew hg4, H3.out.2.2.2.trans hg4⟩
    clear hq4 hg4 H3
    have HVG := Lib.hid (ValidGrid_any _ H _ H4.out.2.1)
    cases hvg : vGrid H with
    | false =>
      have HVG2 := HVG.out
      rw [hvg] at HVG2
      have HVG3 := Lib.hid HVG2
      clear hvg HVG2 HVG
      go_wp2_with (fail)
      refine HVG3.out.mono ?_
      rintro e w5 ⟨rfl, rfl⟩
      go_wp2_with (fail)
      refine (SStandsOf_any _ H _ H4.out.2.1).mono ?_
      rw [HM.out]
      rintro e w5 ho5
      obtain ⟨a5, c5, rfl, hO5, hg5⟩ := ho5.shape
      have H5 := Lib.hid (And.intro hO5.toV hg5)
      clear hO5 hg5 ho5
      go_wp2_with (fail)
      refine (equalInts_any _ _ M M _ (H4.out.1.grew H5.out.2) H5.out.1).mono ?_
      rw [decide_eq_true (rfl : M = M)]
      rintro e w6 ⟨rfl, hq6⟩
      have H6 := Lib.hid (quiet_grew hq6)
      clear hq6
      go_wp2
      go_ret
      exact ⟨rfl, H4.out.2.2.trans (H5.out.2.trans H6.out)⟩
    | true =>
      have HVG2 := HVG.out
      rw [hvg] at HVG2
      have HVG3 := Lib.hid HVG2
      have hMk : M = keepsL (underL H) := by rw [← HM.out, standsL, if_pos hvg]
      have hMl : M.length = (peaksL H).length := by rw [hMk, keepsL, List.length_map, pits_under hvg]
      have HUN := Lib.hid fun W (hW : Grew w4 W) => under_any _ H W (H4.out.2.1.grew hW) hvg
      have HKE : Hid (∀ v W, RowsV W v (underL H) → Grew w4 W → Calls Tryd.prog 33 #[v] W (OwnI W M)) := Lib.hid fun v W h hW => by
        have := KeepsOf_any v (underL H) W h (HS.out.grew (H4.out.2.2.trans hW))
        rwa [← hMk] at this
      have HPE := Lib.hid fun W (hW : Grew w4 W) => PeaksOf_any _ H W (H4.out.2.1.grew hW) (HS.out.grew (H4.out.2.2.trans hW))
      obtain ⟨U, eU⟩ : ∃ U, underL H = U := ⟨_, rfl⟩
      obtain ⟨P, eP⟩ : ∃ P, peaksL H = P := ⟨_, rfl⟩
      rw [eU] at HUN HKE
      rw [eP] at HPE hMl
      have HML := Lib.hid hMl
      have HMV := Lib.hid H4.out.1
      obtain ⟨ln, eln⟩ : ∃ ln, M.length = ln := ⟨_, rfl⟩
      have HEL := Lib.hid eln
      rw [eln] at HMV ⊢
      have hgg := Lib.hid H4.out.2.2
      clear hvg HVG HVG2 hMk hMl eU eP eln HM H4
      go_wp2_with (fail)
      refine HVG3.out.mono ?_
      rintro e w5 ⟨rfl, rfl⟩
      go_wp2_with (fail)
      refine (HUN.out _ (Grew.refl _)).mono ?_
      rintro e w6 ⟨v6, rfl, hO6, hg6⟩
      obtain ⟨a6, c6, rfl⟩ := hO6.sh
      have H6 := Lib.hid (And.intro hO6.toV hg6)
      clear hO6 hg6
      go_wp2_with (fail)
      refine (HKE.out _ _ H6.out.1 H6.out.2).mono ?_
      rintro e w7 ho7
      obtain ⟨a7, c7, rfl, hO7, hg7⟩ := ho7.shape
      rw [HEL.out] at hO7 ⊢
      have H7 : Hid (IntsV w7 (.slice a7 ln c7) M ∧ IntsV w7 (.slice a2 ln c2) M ∧ Grew w4 w7) := Lib.hid ⟨hO7.toV, NumsV.grew HMV.out (H6.out.2.trans hg7), H6.out.2.trans hg7⟩
      clear hO7 hg7 ho7
      go_wp2_with (fail)
      refine (equalInts_any _ _ M M _ H7.out.1 H7.out.2.1).mono ?_
      rw [decide_eq_true (rfl : M = M)]
      rintro e w8 ⟨rfl, hq8⟩
      have H8 := Lib.hid (H7.out.2.2.trans (quiet_grew hq8))
      clear hq8
      go_wp2_with (fail)
      refine (HPE.out _ H8.out).mono ?_
      rintro e w9 ho9
      obtain ⟨a9, c9, rfl, _, hg9⟩ := ho9.shape
      have hPl : P.length = ln := by rw [← HML.out]; exact HEL.out
      rw [hPl]
      have H9 := Lib.hid (hgg.out.trans (H8.out.trans hg9))
      clear hg9 ho9 hPl
      go_wp2
      go_ret
      exact ⟨ret_bool (by simp), H9.out⟩
end Go.Proofs.YtdjjimnfhfdjdaaDoor
namespace Go.Proofs.YtdjjimnfhfdjdaaDoor.pStandsOf
open Go.RowKit Go.ChangeShapes Go.WideShapes Go.ChangeAt

set_option maxRecDepth 100000 in
theorem lifted (os : Os) (started : os.Started) (H : Type) (enc : TypeId × Value → H) :
    ReturnsInHanded {} Tryd.checked os 8 .any (fun w args => (Rows.fnStandsOfSpec.pre enc Tryd.prog Tryd.f8 [] false w args ∧ laidMetH Tryd.prog laid1 w) ∧ sizedMet enc Tryd.prog Tryd.f8 (OpenSpec.ofChange Rows.fnStandsOfSpec) false w args)
      (Rows.fnStandsOfSpec.post enc Tryd.prog Tryd.f8 false true false false) := by
  refine returnsInHanded_of_change_and (C := Tryd.checked) (X := fun w _ => laidMetH Tryd.prog laid1 w) (fun _ _ _ hh h => h.of_heap hh) Tryd.own started (by kernel_rfl) Tryd.func8
    (ChangeSpec.witness_shaped (enc := enc) (C := Tryd.checked) (os := os) (X := fun w _ => laidMetH Tryd.prog laid1 w) false (World.doorLaid Tryd.prog 400 os) #[.slice none 0 0] 8 rfl (World.shaped_of_RefB (by kernel_rfl) (by kernel_rfl)) (by kernel_rfl) (by kernel_rfl) (by kernel_rfl) (door_met os _)) ?_
  intro W base args ds gs before hval0 hW _ _ hL _
  have hval : ∀ (j : Nat) t v, Tryd.f8.params[j]? = some t → args[j]? = some v → Value.okWide Tryd.prog W .any base t v := hval0
  have hW' := hW
  obtain ⟨p, q, hA0, hV, rfl, _, _⟩ := hW
  have hA : DataW.TrodAll enc Tryd.prog W 0 (fun _ => true) true Tryd.f8.params.toList args.toList ds p := hA0
  rw [Tryd.params8] at hA hval
  obtain ⟨v0, d0, rfl, rfl, h0⟩ := trodAll_one hA
  have hV' := hV
  obtain ⟨_, _, _, _, dv, _, rfl, _⟩ := trodVars_one hV
  obtain ⟨a0, len0, cap0, rfl⟩ := okWide_slice Tryd.underlying22 (hval 0 22 v0 rfl rfl)
  have k0 := h0
  have lt0 : ∀ x ∈ p, x.block < W.heap.size := by obtain ⟨m, hm⟩ := k0; exact DataW.trod_lt m _ _ _ hm
  obtain ⟨bs0, hn0, hb0⟩ := bytes_came h0
  have HS := steps_of_laid hL
  clear hA0 hval0
  refine (FnStandsOf_any _ bs0 W hn0 hb0 HS).mono fun e W' ⟨he, bel⟩ => ?_
  subst he
  exact ⟨_, rfl, _, _, _, [], _, q, hW', trodAll_mk1 (shut_bool Tryd.underlying4 _), (trodAll_mk1 (Below.trod Tryd.laidOut (by kernel_rfl) (of_decide_eq_true (by kernel_rfl)) k0 bel lt0)), Below.trodVars Tryd.laidOut bel (by kernel_rfl) hV', Below.frame bel _, fun h => by cases h⟩

theorem row_proved : Rows.FnStandsOfSaid :=
  OpenClaim.holds_of_wide 8 Tryd.f8 rfl rfl rfl rfl rfl rfl rfl ⟨rfl, rfl, rfl, rfl, rfl⟩ rfl rfl rfl rfl rfl (by kernel_rfl) Tryd.func8
    (show joinedFacts Tryd.prog 8 Tryd.f8 Rows.fnStandsOfSpec Rows.fnStandsOfRow = true by unfold joinedFacts; rw [Tryd.makeG, Tryd.liftsG, Tryd.enterG]; kernel_rfl)
    (of_decide_eq_true (by kernel_rfl)) (by unfold Func.isWrapper; first | (rw [if_pos (by decide +kernel)]; kernel_rfl) | (rw [if_neg (by decide +kernel)]; exact ⟨rfl, rfl⟩))
    (fun os started H enc _ => lifted os started H enc)

theorem proved : Rows.FnStandsOfCardSaid :=
  Claim7.holds_tied_plain_at .later [] [.data] true Rows.fnStandsOfCard.stood.harness Rows.fnStandsOfCard.stood.looks
    row_proved (fun _ h => by cases h) (by kernel_rfl) (fun _ h => by cases h) fnStandsOf_row_tie rfl ⟨rfl, rfl⟩ (show Tryd.prog.mainIs = some (Rows.fnStandsOfCard.stood.harness.1, Rows.fnStandsOfCard.stood.harness.2.toList) from Tryd.mainG) rfl
    (fun f fn hf hfn => by
      obtain rfl : f = 8 := Option.some.inj ((show Tryd.prog.funcNamed "loop.example/wateronheights/laws.FnStandsOf" = some 8 by kernel_rfl).symm.trans hf) |>.symm
      obtain rfl : fn = Tryd.f8 := (Option.some.inj (Tryd.func8.symm.trans hfn)).symm
      exact ⟨by kernel_rfl, fun j t ht => by
        rw [Tryd.params8] at ht
        have hm : t ∈ [22] := by simpa using Array.mem_of_getElem? ht
        have hall : ([22].all fun u => !Tryd.prog.wantsStandIn u) = true := by kernel_rfl
        exact (show Tryd.prog.wantsStandIn t = false by simpa using List.all_eq_true.1 hall t hm)⟩)
    (by kernel_rfl)
#print axioms proved
end Go.Proofs.YtdjjimnfhfdjdaaDoor.pStandsOf
