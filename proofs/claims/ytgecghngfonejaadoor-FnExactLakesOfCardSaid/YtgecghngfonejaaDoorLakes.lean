/- Lakes as lists; the contract of impl.LakesOf. -/
import Derived.Test.YtgecghngfonejaaDoorDepths
import Derived.Test.YtgecghngfonejaaDoorShapes2
namespace Go.Proofs.YtgecghngfonejaaDoor
open Go.RowKit

/-- Joined by water of one height. -/
def jLake (ds ws : List Int) (i k : Nat) : Bool := decide (0 < ds.getD i 0) && decide (0 < ds.getD k 0) && decide (ws.getD i 0 = ws.getD k 0)
theorem jLake_symm (ds ws : List Int) : Symm (jLake ds ws) := fun i k h => by
  simp only [jLake, Bool.and_eq_true, decide_eq_true_eq] at h ⊢
  exact ⟨⟨h.1.2, h.1.1⟩, h.2.symm⟩
/-- How many of the first k are i. -/
def cntL (fs : List Int) (N k : Nat) : List Int := (List.range N).map fun i : Nat => (((fs.take k).count (i : Int) : Nat) : Int)
theorem cntL_len (fs : List Int) (N k : Nat) : (cntL fs N k).length = N := by simp [cntL]
theorem cntL_at (fs : List Int) (N k i : Nat) (h : i < N) : (cntL fs N k).getD i 0 = (((fs.take k).count (i : Int) : Nat) : Int) := by simp [cntL, h]
theorem cntL_zero (fs : List Int) (N : Nat) : cntL fs N 0 = List.replicate N 0 := ext_getD (cntL_len _ _ _) (by simp) fun i hi => by rw [cntL_at _ _ _ _ hi]; simp [hi]
theorem cntL_step (fs : List Int) (N k f : Nat) (hk : k < fs.length) (hf : f < N) (e : fs.getD k 0 = (f : Int)) : (cntL fs N k).set f ((cntL fs N k).getD f 0 + 1) = cntL fs N (k + 1) :=
  ext_getD (by rw [List.length_set, cntL_len]) (cntL_len _ _ _) fun i hi => by
    rw [getD_set _ _ _ _ (by rw [cntL_len]; exact hf), cntL_at _ _ k _ hi, cntL_at _ _ k _ hf, cntL_at _ _ (k + 1) _ hi, List.take_succ_eq_append_getElem hk, List.count_append]
    have e2 : fs[k] = (f : Int) := by rw [← e]; simp [hk]
    rw [e2]
    by_cases h : i = f
    · subst h; rw [if_pos rfl]; simp
    · rw [if_neg h]
      have : ¬ (f : Int) = (i : Int) := by omega
      simp [this]
theorem cntL_le (fs : List Int) (N k i : Nat) (h : i < N) : 0 ≤ (cntL fs N k).getD i 0 ∧ (cntL fs N k).getD i 0 ≤ k := by
  rw [cntL_at _ _ _ _ h]
  have := List.count_le_length (a := (i : Int)) (l := fs.take k)
  rw [List.length_take] at this
  omega
/-- The lakes that begin within the first k cells. -/
def lakesTo (fs ds ws : List Int) (N : Nat) : Nat → List (List Int)
  | 0 => []
  | k + 1 => lakesTo fs ds ws N k ++ (if fs.getD k 0 = (k : Int) ∧ 0 < ds.getD k 0 then [[(k : Int), (cntL fs N N).getD k 0, ws.getD k 0]] else [])
theorem lakesTo_len (fs ds ws : List Int) (N k : Nat) : (lakesTo fs ds ws N k).length ≤ k := by
  induction k with
  | zero => exact Nat.le_refl _
  | succ k ih =>
    rw [lakesTo, List.length_append]
    split <;> simp only [List.length_cons, List.length_nil] <;> omega
noncomputable def lakesL (h : List (List Int)) : List (List Int) :=
  if vGrid h then lakesTo (flatsL h.length (h.getD 0 []).length (jLake (subL (levelL h.length (h.getD 0 []).length h.flatten) h.flatten) (levelL h.length (h.getD 0 []).length h.flatten))) (subL (levelL h.length (h.getD 0 []).length h.flatten) h.flatten) (levelL h.length (h.getD 0 []).length h.flatten) (h.length * (h.getD 0 []).length) (h.length * (h.getD 0 []).length) else []
theorem lakesL_no {h : List (List Int)} (hg : vGrid h = false) : lakesL h = [] := by unfold lakesL; rw [hg]; rfl
theorem lakesL_yes {h : List (List Int)} {n m : Nat} {ws fs : List Int} (hg : vGrid h = true) (en : h.length = n) (em : (h.getD 0 []).length = m) (W : Level n m h.flatten ws) (F : Flats n m (jLake (subL ws h.flatten) ws) fs) : lakesL h = lakesTo fs (subL ws h.flatten) ws (n * m) (n * m) := by
  have G := Grid.of hg
  unfold lakesL
  rw [if_pos hg, en, em, W.eq, F.eq (by rw [← en]; exact G.n5) (by rw [← em]; exact G.m5)]

set_option maxRecDepth 100000 in
set_option maxHeartbeats 1000000 in
theorem lakeClo_any (Bd Bw gd gw cd cw N I K : Nat) (ds ws : List Int) (W : World) (h1 : W.cell? ⟨Bd, 0, none⟩ = some (.slice (some ⟨gd, 0, none⟩) N cd)) (h2 : W.cell? ⟨Bw, 0, none⟩ = some (.slice (some ⟨gw, 0, none⟩) N cw)) (hI : I < N) (hK : K < N)
    (k1 : W.cell? ⟨gd, I, none⟩ = some (.int .i64 (ds.getD I 0))) (k2 : W.cell? ⟨gd, K, none⟩ = some (.int .i64 (ds.getD K 0))) (k3 : W.cell? ⟨gw, I, none⟩ = some (.int .i64 (ws.getD I 0))) (k4 : W.cell? ⟨gw, K, none⟩ = some (.int .i64 (ws.getD K 0))) :
    Calls Tryd.prog 63 #[.int .i64 I, .int .i64 K, .pointer (some ⟨Bd, 0, none⟩), .pointer (some ⟨Bw, 0, none⟩)] W fun e w' => e = .returned (.bool (jLake ds ws I K)) ∧ ∃ q, w' = W.drewN q := by
  obtain ⟨x, ex⟩ : ∃ x, ds.getD I 0 = x := ⟨_, rfl⟩
  obtain ⟨y, ey⟩ : ∃ y, ds.getD K 0 = y := ⟨_, rfl⟩
  obtain ⟨u, eu⟩ : ∃ u, ws.getD I 0 = u := ⟨_, rfl⟩
  obtain ⟨z, ez⟩ : ∃ z, ws.getD K 0 = z := ⟨_, rfl⟩
  have HS : Hid (jLake ds ws I K = (decide (0 < x) && decide (0 < y) && decide (u = z))) := Lib.hid (by rw [jLake, ex, ey, eu, ez])
  rw [ex] at k1
  rw [ey] at k2
  rw [eu] at k3
  rw [ez] at k4
  have hI' : (I : Int) < (N : Int) := by omega
  have hK' : (K : Int) < (N : Int) := by omega
  clear ex ey eu ez
  by_cases hx : 0 < x
  · have hd1 : decide (0 < x) = true := decide_eq_true hx
    by_cases hy : 0 < y
    · have hd2 : decide (0 < y) = true := decide_eq_true hy
      by_cases hu : u = z
      · have HS2 : Hid (jLake ds ws I K = true) := Lib.hid (by rw [HS.out, hd1, hd2, decide_eq_true hu]; rfl)
        subst hu
        clear HS
        go_enter Tryd.func63, Tryd.ntmps63
        go_wp2
        go_quiet (fail)
        go_wp2
        go_ret
        exact ⟨ret_bool HS2.out.symm, _, rfl⟩
      · have HS2 : Hid (jLake ds ws I K = false) := Lib.hid (by rw [HS.out, hd1, hd2, decide_eq_false hu]; rfl)
        have hd3 : (u == z) = false := beq_eq_false_iff_ne.2 hu
        clear HS
        go_enter Tryd.func63, Tryd.ntmps63
        go_wp2
        go_quiet (fail)
        go_wp2
        go_ret
        exact ⟨ret_bool HS2.out.symm, _, rfl⟩
    · have hd2 : decide (0 < y) = false := decide_eq_false hy
      have HS2 : Hid (jLake ds ws I K = false) := Lib.hid (by rw [HS.out, hd1, hd2]; rfl)
      clear HS
      go_enter Tryd.func63, Tryd.ntmps63
      go_wp2
      go_quiet (fail)
      go_wp2
      go_ret
      exact ⟨ret_bool HS2.out.symm, _, rfl⟩
  · have hd1 : decide (0 < x) = false := decide_eq_false hx
    have HS2 : Hid (jLake ds ws I K = false) := Lib.hid (by rw [HS.out, hd1]; rfl)
    clear HS
    go_enter Tryd.func63, Tryd.ntmps63
    go_wp2
    go_quiet (fail)
    go_wp2
    go_ret
    exact ⟨ret_bool HS2.out.symm, _, rfl⟩

/-- What impl.LakesOf is made of, after a world w. -/
structure LakeH (v : Value) (n m N : Nat) (ws ds : List Int) (w : World) : Prop where
  fill : ∀ W, Grew w W → Calls Tryd.prog 25 #[v] W (NewRows W (shapeL ws m n))
  deep : ∀ W, Grew w W → Calls Tryd.prog 19 #[v] W (NewRows W (shapeL ds m n))
  cat : ∀ xs u W, xs.length = N → RowsV W u (shapeL xs m n) → Calls Tryd.prog 56 #[u] W (FlatPost W xs)
  piece : ∀ (Bd Bw gd gw cd cw : Nat) (W : World), Grew w W → W.cell? ⟨Bd, 0, none⟩ = some (.slice (some ⟨gd, 0, none⟩) N cd) → W.cell? ⟨Bw, 0, none⟩ = some (.slice (some ⟨gw, 0, none⟩) N cw) →
    IntsV W (.slice (some ⟨gd, 0, none⟩) N cd) ds → IntsV W (.slice (some ⟨gw, 0, none⟩) N cw) ws →
    Calls Tryd.prog 61 #[v, .func (.func 62) #[] #[], .func (.func 63) #[] #[.pointer (some ⟨Bd, 0, none⟩), .pointer (some ⟨Bw, 0, none⟩)]] W (FlatsPostN n m N (jLake ds ws) W)
theorem lakeH {v : Value} {h : List (List Int)} {n m N : Nat} {ws : List Int} {w : World} (hv : RowsV w v h) (hg : vGrid h = true) (hS : Steps w) (en : h.length = n) (em : (h.getD 0 []).length = m) (eN : n * m = N) (W : Level n m h.flatten ws) : LakeH v n m N ws (subL ws h.flatten) w := by
  have G := Grid.of hg
  have hn5 := G.n5
  have hn1 := G.n1
  have hm5 := G.m5
  have hm1 := G.m1
  rw [en] at hn5 hn1
  rw [em] at hm5 hm1
  refine ⟨fun X hX => ?_, fun X hX => ?_, fun xs u X hl hu => ?_, fun Bd Bw gd gw cd cw X hX h1 h2 h3 h4 => ?_⟩
  · have := FillByQueue_any v h X (hv.grew hX) (hS.grew hX)
    rwa [fillL_yes hg en em W] at this
  · have := DepthsOf_any v h X (hv.grew hX) (hS.grew hX)
    rwa [depthL_yes hg en em W] at this
  · have hl' : xs.length = n * m := by rw [hl, eN]
    have := slicesConcat_any u (shapeL xs m n) X hu (by rw [shapeL_len]; exact hn1) (by rw [shapeL_len]; omega) (fun r hr => by rw [shapeL_len] at hr; rw [shapeL_row _ _ _ _ hl' hr]; omega)
    rwa [shapeL_flat _ _ _ hl'] at this
  · have hwl : ws.length = N := by rw [W.len, eN]
    have hdl : (subL ws h.flatten).length = N := by rw [subL_len]; exact hwl
    have := firstsOfPieces_any v h n m (jLake (subL ws h.flatten) ws) (jLake_symm _ _) 63 #[.pointer (some ⟨Bd, 0, none⟩), .pointer (some ⟨Bw, 0, none⟩)] (enters_of Tryd.func63 (by kernel_rfl) rfl) X (hv.grew hX) hg (hS.grew hX) en em (by
      intro I K Y hY hI hK
      rw [eN] at hI hK
      exact lakeClo_any Bd Bw gd gw cd cw N I K _ ws Y (hY.cell h1) (hY.cell h2) hI hK ((h3.grew hY).at I (by omega)) ((h3.grew hY).at K (by omega)) ((h4.grew hY).at I (by omega)) ((h4.grew hY).at K (by omega)))
    have e : FlatsPost n m (jLake (subL ws h.flatten) ws) X = FlatsPostN n m N (jLake (subL ws h.flatten) ws) X := by
      funext e w'; rw [FlatsPost, FlatsPostN, eN]
    rw [e] at this
    exact this

set_option maxRecDepth 100000 in
set_option maxHeartbeats 4000000 in
theorem LakesOf_any (v : Value) (h : List (List Int)) (w : World) (hv : RowsV w v h) (hS : Steps w) :
    Calls Tryd.prog 20 #[v] w (NewRows w (lakesL h)) := by
  have HK := ValidGrid_any v h w hv
  cases hg : vGrid h with
  | false =>
    rw [hg] at HK
    have HK2 := Lib.hid HK
    rw [lakesL_no hg]
    obtain ⟨a, b, o, c, rfl, _, _, _⟩ := hv.shape
    clear hv hS HK hg
    go_enter Tryd.func20, Tryd.ntmps20
    go_wp2_with (fail)
    refine HK2.out.mono ?_
    rintro e w1 ⟨rfl, rfl⟩
    go_wp2
    go_ret
    exact ⟨_, rfl, RowsO.nil _ _ _ _ _, Grew.refl _⟩
  | true =>
    rw [hg] at HK
    have HK2 := Lib.hid HK
    have G := Grid.of hg
    obtain ⟨n, en⟩ : ∃ n, h.length = n := ⟨_, rfl⟩
    obtain ⟨m, em⟩ : ∃ m, (h.getD 0 []).length = m := ⟨_, rfl⟩
    obtain ⟨N, eN⟩ : ∃ N, n * m = N := ⟨_, rfl⟩
    obtain ⟨ws, W⟩ : ∃ ws, Level n m h.flatten ws := ⟨_, by have := grid_level hg; rwa [en, em] at this⟩
    have HL := Lib.hid (lakeH hv hg hS en em eN W)
    have hwl : ws.length = N := by rw [W.len, eN]
    have hdl : (subL ws h.flatten).length = N := by rw [subL_len]; exact hwl
    have hY := fun fs (F : Flats n m (jLake (subL ws h.flatten) ws) fs) => lakesL_yes hg en em W F
    rw [eN] at hY
    have hfs : ∀ fs, Flats n m (jLake (subL ws h.flatten) ws) fs → fs.length = N ∧ ∀ k, k < N → ∃ j : Nat, fs.getD k 0 = j ∧ j < N := fun fs F => ⟨by rw [F.len, eN], fun k hk => by
      obtain ⟨j, e1, e2, _⟩ := F.ok k (by rw [eN]; exact hk)
      exact ⟨j, e1, by omega⟩⟩
    have hN25 : N ≤ 25 := by rw [← eN, ← en, ← em]; exact Nat.mul_le_mul G.n5 G.m5
    have hN1 : 1 ≤ N := by rw [← eN, ← en, ← em]; exact Nat.mul_pos G.n1 G.m1
    obtain ⟨ds, eds⟩ : ∃ ds, subL ws h.flatten = ds := ⟨_, rfl⟩
    rw [eds] at HL hdl hY hfs
    obtain ⟨R, eR⟩ : ∃ R, lakesL h = R := ⟨_, rfl⟩
    rw [eR] at hY ⊢
    have HY := Lib.hid (And.intro hY (And.intro hfs (And.intro hwl hdl)))
    obtain ⟨a, b, o, c, rfl, _, _, _⟩ := hv.shape
    clear hv hS HK hg G en em eN W hwl hdl hY hfs eds eR
    go_enter Tryd.func20, Tryd.ntmps20
    go_wp2_with (fail)
    refine HK2.out.mono ?_
    rintro e w0 ⟨rfl, rfl⟩
    go_wp2_with (fail)
    refine (HL.out.fill _ (Grew.refl _)).mono ?_
    rintro e w1 ⟨v1, rfl, hO1, hg1⟩
    obtain ⟨a1, c1, rfl⟩ := hO1.sh
    have H1 := Lib.hid (And.intro hO1.toV hg1)
    clear hO1 hg1 HK2
    go_wp2_with (fail)
    refine (HL.out.cat ws _ _ HY.out.2.2.1 H1.out.1).mono ?_
    rintro e w2 ⟨gw, cw, rfl, hO2, hg2⟩
    rw [HY.out.2.2.1] at hO2 ⊢
    obtain ⟨Bw, eBw⟩ : ∃ Bw, w2.heap.size = Bw := ⟨_, rfl⟩
    have H2 : Hid (IntsV (w2.alloc (.cells #[.slice (some ⟨gw, 0, none⟩) N cw] 26)) (.slice (some ⟨gw, 0, none⟩) N cw) ws ∧ (w2.alloc (.cells #[.slice (some ⟨gw, 0, none⟩) N cw] 26)).cell? ⟨Bw, 0, none⟩ = some (.slice (some ⟨gw, 0, none⟩) N cw) ∧ Grew w (w2.alloc (.cells #[.slice (some ⟨gw, 0, none⟩) N cw] 26))) :=
      Lib.hid ⟨(hO2.grew ((Grew.refl w2).alloc _)).toV, by rw [← eBw]; simp, (H1.out.2.trans hg2).alloc _⟩
    clear hO2 hg2 H1
    go_wp2_with (fail)
    refine (HL.out.deep _ H2.out.2.2).mono ?_
    rintro e w3 ⟨v3, rfl, hO3, hg3⟩
    obtain ⟨a3, c3, rfl⟩ := hO3.sh
    have H3 := Lib.hid (And.intro hO3.toV (And.intro (H2.out.1.grew hg3) (And.intro (hg3.cell H2.out.2.1) (H2.out.2.2.trans hg3))))
    clear hO3 hg3 H2
    go_wp2_with (fail)
    refine (HL.out.cat ds _ _ HY.out.2.2.2 H3.out.1).mono ?_
    rintro e w4 ⟨gd, cd, rfl, hO4, hg4⟩
    rw [HY.out.2.2.2] at hO4 ⊢
    obtain ⟨Bd, eBd⟩ : ∃ Bd, w4.heap.size = Bd := ⟨_, rfl⟩
    have H4 : Hid (IntsV (w4.alloc (.cells #[.slice (some ⟨gd, 0, none⟩) N cd] 26)) (.slice (some ⟨gd, 0, none⟩) N cd) ds ∧ (w4.alloc (.cells #[.slice (some ⟨gd, 0, none⟩) N cd] 26)).cell? ⟨Bd, 0, none⟩ = some (.slice (some ⟨gd, 0, none⟩) N cd) ∧
        IntsV (w4.alloc (.cells #[.slice (some ⟨gd, 0, none⟩) N cd] 26)) (.slice (some ⟨gw, 0, none⟩) N cw) ws ∧ (w4.alloc (.cells #[.slice (some ⟨gd, 0, none⟩) N cd] 26)).cell? ⟨Bw, 0, none⟩ = some (.slice (some ⟨gw, 0, none⟩) N cw) ∧ Grew w (w4.alloc (.cells #[.slice (some ⟨gd, 0, none⟩) N cd] 26))) :=
      Lib.hid ⟨(hO4.grew ((Grew.refl w4).alloc _)).toV, by rw [← eBd]; simp, H3.out.2.1.grew (hg4.alloc _), (hg4.alloc _).cell H3.out.2.2.1, (H3.out.2.2.2.trans hg4).alloc _⟩
    clear hO4 hg4 H3
    go_wp2_with (fail)
    refine (HL.out.piece Bd Bw gd gw cd cw _ H4.out.2.2.2.2 H4.out.2.1 H4.out.2.2.2.1 H4.out.1 H4.out.2.2.1).mono ?_
    rintro e w5 ⟨gf, cf, fs, rfl, hO5, hF5, hg5⟩
    have HFS := Lib.hid (And.intro (HY.out.1 fs hF5) (HY.out.2.1 fs hF5))
    have H5 := Lib.hid (And.intro hO5.toV (And.intro (H4.out.1.grew hg5) (And.intro (hg5.cell H4.out.2.1) (And.intro (H4.out.2.2.1.grew hg5) (And.intro (hg5.cell H4.out.2.2.2.1) (H4.out.2.2.2.2.trans hg5))))))
    clear hO5 hF5 hg5 H4 eBw eBd
    have HB5 : Hid (∀ B W, (B = w5.heap.size) → Grew w5 W → IntsV W (.slice (some ⟨gf, 0, none⟩) N cf) fs ∧ IntsV W (.slice (some ⟨gd, 0, none⟩) N cd) ds ∧ W.cell? ⟨Bd, 0, none⟩ = some (.slice (some ⟨gd, 0, none⟩) N cd) ∧ IntsV W (.slice (some ⟨gw, 0, none⟩) N cw) ws ∧ W.cell? ⟨Bw, 0, none⟩ = some (.slice (some ⟨gw, 0, none⟩) N cw) ∧ Grew w W) :=
      Lib.hid fun B W _ hW => ⟨H5.out.1.grew hW, H5.out.2.1.grew hW, hW.cell H5.out.2.2.1, H5.out.2.2.2.1.grew hW, hW.cell H5.out.2.2.2.2.1, H5.out.2.2.2.2.2.trans hW⟩
    clear H5
    go_wp2_with (at_make; refine wpList_make_ints rfl (.tmp 25) (.tmp 25) 26 rfl Tryd.underlying26 Tryd.infoI rfl rfl rfl rfl (by omega) ?_; intro w6 hO6 hg6 hs6)
    obtain ⟨gs, egs⟩ : ∃ gs, w5.heap.size = gs := ⟨_, rfl⟩
    rw [egs] at hO6 ⊢
    have H6 : Hid (IntsO 3 gs (gs + 1) w6 (.slice (some ⟨gs, 0, none⟩) N N) (cntL fs N 0) ∧ Grew w5 w6 ∧ w5.heap.size = gs) := Lib.hid ⟨by rw [cntL_zero]; exact hO6.at1, hg6, egs⟩
    clear hO6 hg6 hs6 egs
    go_wp2_with (fail)
    go_loopw [29] (fun i wr => ∃ k : Nat, k ≤ N ∧ i = .int .i64 k ∧ Hid (IntsO 3 gs (gs + 1) wr (.slice (some ⟨gs, 0, none⟩) N N) (cntL fs N k) ∧ Grew w5 wr)) (fun i _ => N - (intOf i).toNat)
    case atStart => exact ⟨0, Nat.zero_le _, rfl, H6.out.1, H6.out.2.1⟩
    case round =>
      obtain ⟨k, hk, rfl, HX⟩ := hrel
      by_cases hlt : k < N
      · obtain ⟨j, ej, hj⟩ := HFS.out.2.2 k hlt
        have hcf := (HB5.out _ _ rfl HX.out.2).1.at k (by rw [HFS.out.2.1]; exact hlt)
        rw [ej] at hcf
        obtain ⟨hcs, hfs⟩ := HX.out.1.at rfl (i := j) (by rw [cntL_len]; exact hj)
        have hle := cntL_le fs N k j hj
        have HN : Hid (IntsO 3 gs (gs + 1) (wr.setCell ⟨gs, j, none⟩ (.int .i64 ((cntL fs N k).getD j 0 + 1))) (.slice (some ⟨gs, 0, none⟩) N N) (cntL fs N (k + 1)) ∧ Grew w5 (wr.setCell ⟨gs, j, none⟩ (.int .i64 ((cntL fs N k).getD j 0 + 1)))) := by
          have h1 := HX.out.1.set rfl j ((cntL fs N k).getD j 0 + 1)
          rw [cntL_step _ _ _ _ (by rw [HFS.out.2.1]; exact hlt) hj ej] at h1
          have hwi : Within gs (gs + 1) wr (wr.setCell ⟨gs, j, none⟩ (.int .i64 ((cntL fs N k).getD j 0 + 1))) := (Within.refl _ _ _).setCell (p := ⟨gs, j, none⟩) (Nat.le_refl _) (Nat.lt_succ_self _) _
          exact Lib.hid ⟨h1, Within.grew HX.out.2 hwi (Nat.le_of_eq H6.out.2.2)⟩
        obtain ⟨x, ex⟩ : ∃ x, (cntL fs N k).getD j 0 = x := ⟨_, rfl⟩
        rw [ex] at hcs hle HN
        obtain ⟨x0, x1⟩ := hle
        clear HX ex ej
        go_wp2
        go_roundw
        case rel => exact ⟨k + 1, by omega, by go_num, HN.out⟩
        case measure => simp [intOf]; omega
      · obtain rfl : k = N := by omega
        obtain ⟨B6, eB6⟩ : ∃ B6, wr.heap.size = B6 := ⟨_, rfl⟩
        have hLT : ∀ W, IntsV W (.slice (some ⟨gw, 0, none⟩) k cw) ws → gw < W.heap.size := fun W hW => World.block_lt_of_cell? _ _ (hW.at 0 (by rw [HY.out.2.2.1]; omega))
        have hLT2 : ∀ W, IntsV W (.slice (some ⟨gf, 0, none⟩) k cf) fs → gf < W.heap.size := fun W hW => World.block_lt_of_cell? _ _ (hW.at 0 (by rw [HFS.out.2.1]; omega))
        have H7 : Hid (IntsO 3 gs (gs + 1) wr (.slice (some ⟨gs, 0, none⟩) k k) (cntL fs k k) ∧ Grew w5 wr ∧ gs < B6 ∧ wr.heap.size = B6 ∧ w.heap.size ≤ B6) := Lib.hid ⟨HX.out.1, HX.out.2, by rw [← eB6]; exact HX.out.1.blkLt, eB6, by rw [← eB6]; exact (HB5.out _ _ rfl HX.out.2).2.2.2.2.2.size⟩
        have H7LT : Hid (gw < B6 ∧ Bw < B6 ∧ gf < B6) := by
          have hq := HB5.out _ _ rfl HX.out.2
          exact Lib.hid ⟨by rw [← eB6]; exact hLT wr hq.2.2.2.1, by rw [← eB6]; exact World.block_lt_of_cell? _ _ hq.2.2.2.2.1, by rw [← eB6]; exact hLT2 wr hq.1⟩
        obtain ⟨w7, ew7⟩ : ∃ w7, wr = w7 := ⟨_, rfl⟩
        rw [ew7] at H7
        clear HX H6 eB6 hLT hLT2
        go_wp2_with (fail)
        clear ew7
        go_loopg [9, 42] k (fun gk v i wo => ∃ (t : Nat) (va : Value), va = v ∧ i = .int .i64 (t : Int) ∧ t ≤ k ∧ k ≤ gk + t ∧ Hid (RowsO 26 3 B6 wo.heap.size wo v (lakesTo fs ds ws k t) ∧ Grew w7 wo))
        case atStart => exact ⟨0, _, rfl, rfl, Nat.zero_le _, Nat.le_refl _, RowsO.nil _ _ _ _ _, Grew.refl _⟩
        case round =>
          obtain ⟨t, va, rfl, rfl, ht1, ht2, HI⟩ := hrel
          have hg57 := H7.out.2.1.trans HI.out.2
          obtain ⟨q1, q2, q3, q4, q5, q6⟩ := HB5.out _ _ rfl hg57
          by_cases hlt2 : t < k
          · have hcf := q1.at t (by rw [HFS.out.2.1]; exact hlt2)
            have hcd := q2.at t (by rw [HY.out.2.2.2]; exact hlt2)
            have hcw := q4.at t (by rw [HY.out.2.2.1]; exact hlt2)
            have hcz := ((H7.out.1.grew HI.out.2).at rfl (i := t) (by rw [cntL_len]; exact hlt2)).1
            have hln := lakesTo_len fs ds ws k t
            have hst : lakesTo fs ds ws k (t + 1) = lakesTo fs ds ws k t ++ (if fs.getD t 0 = (t : Int) ∧ 0 < ds.getD t 0 then [[(t : Int), (cntL fs k k).getD t 0, ws.getD t 0]] else []) := rfl
            obtain ⟨f, ef⟩ : ∃ f, fs.getD t 0 = f := ⟨_, rfl⟩
            obtain ⟨d, ed⟩ : ∃ d, ds.getD t 0 = d := ⟨_, rfl⟩
            obtain ⟨u, eu⟩ : ∃ u, ws.getD t 0 = u := ⟨_, rfl⟩
            obtain ⟨z, ez⟩ : ∃ z, (cntL fs k k).getD t 0 = z := ⟨_, rfl⟩
            rw [ef] at hcf
            rw [ed] at hcd
            rw [eu] at hcw
            rw [ez] at hcz
            rw [ef, ed, eu, ez] at hst
            have hti : (t : Int) < (k : Int) := by omega
            have HBX := Lib.hid (And.intro q3 (And.intro q5 q6))
            clear ef ed eu ez q1 q2 q4 q6
            by_cases hf : f = (t : Int)
            · subst hf
              by_cases hd : 0 < d
              · rw [if_pos ⟨rfl, hd⟩] at hst
                have HST := Lib.hid hst
                have hlit := IntsO.lit 3 wr.heap.size wr.drew [(t : Int), z, u] #[.int .i64 t, .int .i64 z, .int .i64 u] rfl (Nat.le_refl _) (show 3 ≤ maxLen by decide)
                have HRO := HI.out.1.grew (((Grew.refl wr).drew).alloc (.cells #[.int .i64 t, .int .i64 z, .int .i64 u] 3))
                have HSS : Hid (∀ W W' : World, (W.cell? ⟨gs, t, none⟩ = some (.int .i64 z) ∧ W.cell? ⟨Bw, 0, none⟩ = some (.slice (some ⟨gw, 0, none⟩) k cw) ∧ W.cell? ⟨gw, t, none⟩ = some (.int .i64 u)) → Grew W W' → (W'.cell? ⟨gs, t, none⟩ = some (.int .i64 z) ∧ W'.cell? ⟨Bw, 0, none⟩ = some (.slice (some ⟨gw, 0, none⟩) k cw) ∧ W'.cell? ⟨gw, t, none⟩ = some (.int .i64 u))) := Lib.hid fun W W' h g => ⟨g.cell h.1, g.cell h.2.1, g.cell h.2.2⟩
                have hbs : gs < B6 := H7.out.2.2.1
                have hb7 : w7.heap.size = B6 := H7.out.2.2.2.1
                have HSI := Lib.hid (And.intro hlit HRO)
                clear hst hlit HRO
                have HA : Hid (∀ W, W = wr.drew.alloc (.cells #[.int .i64 t, .int .i64 z, .int .i64 u] 3) → (W.cell? ⟨gs, t, none⟩ = some (.int .i64 z) ∧ W.cell? ⟨Bw, 0, none⟩ = some (.slice (some ⟨gw, 0, none⟩) k cw) ∧ W.cell? ⟨gw, t, none⟩ = some (.int .i64 u))) := Lib.hid fun W e => by
                  subst e
                  exact HSS.out wr _ ⟨hcz, q5, hcw⟩ (((Grew.refl wr).drew).alloc _)
                obtain ⟨wa, ewa⟩ : ∃ wa, wr.drew.alloc (.cells #[.int .i64 t, .int .i64 z, .int .i64 u] 3) = wa := ⟨_, rfl⟩
                have hka := HA.out wa ewa.symm
                have HSI2 : Hid (IntsO 3 wr.heap.size wa.heap.size wa (.slice (some ⟨wr.heap.size, 0, none⟩) 3 3) [(t : Int), z, u] ∧ RowsO 26 3 B6 wr.heap.size wa va (lakesTo fs ds ws k t) ∧ B6 ≤ wa.heap.size ∧ B6 ≤ wr.heap.size ∧ Grew w7 wa) := by
                  have hgw := HI.out.2.trans (((Grew.refl wr).drew).alloc (.cells #[.int .i64 t, .int .i64 z, .int .i64 u] 3))
                  have h6 := HI.out.2.size
                  rw [hb7] at h6
                  rw [ewa] at hgw
                  have hsz : wa.heap.size = wr.heap.size + 1 := by rw [← ewa]; simp
                  have k1 := HSI.out.1
                  have k2 := HSI.out.2
                  rw [ewa] at k2
                  have k1' : IntsO 3 wr.heap.size (wr.heap.size + 1) wa (.slice (some ⟨wr.heap.size, 0, none⟩) 3 3) [(t : Int), z, u] := by rw [← ewa]; exact k1
                  exact Lib.hid ⟨k1'.wide (Nat.le_refl _) (by omega), k2, by omega, h6, hgw⟩
                have hwa : wa.heap.size = wr.heap.size + 1 := by rw [← ewa]; simp
                have h5k : ∀ W', Within B6 wr.heap.size wa W' → (W'.cell? ⟨gs, t, none⟩ = some (.int .i64 z) ∧ W'.cell? ⟨Bw, 0, none⟩ = some (.slice (some ⟨gw, 0, none⟩) k cw) ∧ W'.cell? ⟨gw, t, none⟩ = some (.int .i64 u)) := fun W' hW => by
                  exact ⟨hW.cell hka.1 (.inl hbs), hW.cell hka.2.1 (.inl H7LT.out.2.1), hW.cell hka.2.2 (.inl H7LT.out.1)⟩
                clear HA HSI
                go_wp2_with (fail)
                go_region_held3 (fun W => W.cell? ⟨gs, t, none⟩ = some (.int .i64 z) ∧ W.cell? ⟨Bw, 0, none⟩ = some (.slice (some ⟨gw, 0, none⟩) k cw) ∧ W.cell? ⟨gw, t, none⟩ = some (.int .i64 u))
                  (first
                    | exact ⟨hcz, q5, hcw⟩
                    | assumption
                    | exact hka
                    | (rw [ewa]; exact hka)
                    | exact HSS.out wa _ hka ((Grew.refl wa).alloc _)
                    | exact h5c)
                  (first
                    | (refine step_append_row (w := wa) rfl (.tmp 57) (.tmp 68) 23 rfl (by decide) Tryd.underlying23 Tryd.infoIs (by simp [Act.eval]) (by simp [Act.eval]) rfl HSI2.out.2.1 HSI2.out.1 (by omega) HSI2.out.2.2.1 HSI2.out.2.2.2.1 ?_; intro g5 c5 w8 hO8 hW8 hS8; have h5c := h5k _ hW8)
                    | (refine step_append_row (w := wa) (nb := wr.heap.size + 1) rfl (.tmp 57) (.tmp 68) 23 rfl (by decide) Tryd.underlying23 Tryd.infoIs (by simp [Act.eval]) (by simp [Act.eval]) hwa.symm HSI2.out.2.1 HSI2.out.1 (by omega) HSI2.out.2.2.1 HSI2.out.2.2.2.1 ?_; intro g5 c5 w8 hO8 hW8 hS8; have h5c := h5k _ hW8))
                have HN : Hid (RowsO 26 3 B6 w8.heap.size w8 (.slice (some ⟨g5, 0, none⟩) ((lakesTo fs ds ws k t).length + 1) c5) (lakesTo fs ds ws k (t + 1)) ∧ Grew w7 w8) := Lib.hid ⟨by rw [HST.out]; exact hO8, Within.grew HSI2.out.2.2.2.2 hW8 (Nat.le_of_eq hb7)⟩
                clear HI hO8 hW8 hS8 h5c h5k hka HSI2 ewa
                go_wp2
                go_roundg (gk - 1)
                case measure => omega
                case rel => exact ⟨t + 1, _, rfl, by go_num, by omega, by omega, HN.out⟩
              · rw [if_neg (fun h => hd h.2), List.append_nil] at hst
                have HN : Hid (RowsO 26 3 B6 wr.heap.size wr va (lakesTo fs ds ws k (t + 1)) ∧ Grew w7 wr) := Lib.hid (by rw [hst]; exact HI.out)
                clear HI hst
                go_wp2
                go_roundg (gk - 1)
                case measure => omega
                case rel => exact ⟨t + 1, _, rfl, by go_num, by omega, by omega, HN.out⟩
            · rw [if_neg (fun h => hf h.1), List.append_nil] at hst
              have HN : Hid (RowsO 26 3 B6 wr.heap.size wr va (lakesTo fs ds ws k (t + 1)) ∧ Grew w7 wr) := Lib.hid (by rw [hst]; exact HI.out)
              clear HI hst
              go_wp2
              go_roundg (gk - 1)
              case measure => omega
              case rel => exact ⟨t + 1, _, rfl, by go_num, by omega, by omega, HN.out⟩
          · obtain rfl : t = k := by omega
            have HE : Hid (R = lakesTo fs ds ws t t ∧ Grew w wr ∧ w.heap.size ≤ B6) := Lib.hid ⟨HFS.out.1, q6, H7.out.2.2.2.2⟩
            go_wp2
            go_ret
            rw [HE.out.1]
            exact ⟨_, rfl, HI.out.1.wide HE.out.2.2 (Nat.le_refl _), HE.out.2.1⟩
end Go.Proofs.YtgecghngfonejaaDoor
