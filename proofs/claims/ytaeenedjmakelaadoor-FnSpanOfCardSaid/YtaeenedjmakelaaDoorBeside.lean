/- The contract of impl.cellsBeside. -/
import Derived.Test.YtaeenedjmakelaaDoorBesideL
namespace Go.Proofs.YtaeenedjmakelaaDoor
open Go.RowKit

theorem Tryd.infoB : (Tryd.prog.info? 3).map (fun i => (i.zero, i.size, i.bytes)) = some (some (.int .i64 0), 1, 8) := by kernel_rfl
/-- '==' between two arrays of two integers. -/
theorem run_equalIn_pair {P : Program} (w : World) (d : Nat) (t e : TypeId) (a b x y : Int) (i : TypeInfo) (ht : P.underlying t = some (.array 2 e)) (he : P.underlying e = some (.int .i64)) (hi : P.info? e = some i) (hs : i.size = 1) :
    (Op.equalIn (d + 2) t (.agg #[.int .i64 a, .int .i64 b]) (.agg #[.int .i64 x, .int .i64 y])).run P w = .ok ((a == x) && (b == y)) w := by
  rw [Op.equalIn]
  simp only [Sem.run_bind, run_underlying ht, Result.andThen_ok, sizeOf, typeInfo, run_program, hi]
  simp only [Sem.run_pure, Result.andThen_ok, hs]
  simp [part, List.range'_succ, List.forIn_cons, isAgg, run_underlying he, run_equalIn_int w d e .i64 .i64 a x he, run_equalIn_int w d e .i64 .i64 b y he]
  by_cases h1 : a = x <;> by_cases h2 : b = y <;> simp [h1, h2]
def stepCells : Array Value := #[.int .i64 (-1), .int .i64 0, .int .i64 0, .int .i64 (-1), .int .i64 0, .int .i64 1, .int .i64 1, .int .i64 0]
/-- The table of steps lies in block 0. -/
def Steps (w : World) : Prop := ∃ t, w.heap[0]? = some (.cells stepCells t (0, 0))
theorem Steps.grew {w w' : World} (h : Steps w) (hg : Grew w w') : Steps w' := by
  obtain ⟨t, ht⟩ := h
  exact ⟨t, (hg.block (Array.getElem?_eq_some_iff.1 ht).1).trans ht⟩

/-- New numbers in new memory; a value whose length is told. -/
def OwnI (w : World) (xs : List Int) (e : Ending) (w' : World) : Prop := ∃ a c, e = .returned (.slice a xs.length c) ∧ IntsO 3 w.heap.size w'.heap.size w' (.slice a xs.length c) xs ∧ Grew w w'

theorem step_index0 (w : World) : (Instr.index 98 (.agg stepCells) (.int .i64 0)).run Tryd.prog w = .ok (.agg #[.int .i64 (-1), .int .i64 0]) w := by kernel_rfl
theorem step_index1 (w : World) : (Instr.index 98 (.agg stepCells) (.int .i64 1)).run Tryd.prog w = .ok (.agg #[.int .i64 0, .int .i64 (-1)]) w := by kernel_rfl
theorem step_index2 (w : World) : (Instr.index 98 (.agg stepCells) (.int .i64 2)).run Tryd.prog w = .ok (.agg #[.int .i64 0, .int .i64 1]) w := by kernel_rfl
theorem step_index3 (w : World) : (Instr.index 98 (.agg stepCells) (.int .i64 3)).run Tryd.prog w = .ok (.agg #[.int .i64 1, .int .i64 0]) w := by kernel_rfl
theorem step_index (k : Nat) (hk : k < 4) (w : World) : (Instr.index 98 (.agg stepCells) (.int .i64 k)).run Tryd.prog w = .ok (.agg #[.int .i64 (stepR k), .int .i64 (stepC k)]) w := by
  rcases (show k = 0 ∨ k = 1 ∨ k = 2 ∨ k = 3 by omega) with rfl | rfl | rfl | rfl
  · exact step_index0 w
  · exact step_index1 w
  · exact step_index2 w
  · exact step_index3 w

theorem beside_yes {n m I k r q : Nat} {xs : List Int} {dr dc tr tc : Int} (h : xs = besideL n m I k) (hin : inK n m I k = true) (hr : I / m = r) (hq : I % m = q) (h1 : stepR k = dr) (h2 : stepC k = dc) (h3 : (r : Int) + dr = tr) (h4 : (q : Int) + dc = tc) :
    xs ++ [tr * m + tc] = besideL n m I (k + 1) := by
  subst hr; subst hq; subst h1; subst h2; subst h3; subst h4
  rw [besideL, ← h, if_pos hin]
  rfl
theorem beside_no {n m I k : Nat} {xs : List Int} (h : xs = besideL n m I k) (hin : inK n m I k = false) : xs = besideL n m I (k + 1) := by
  rw [besideL, ← h, if_neg (by rw [hin]; exact Bool.false_ne_true), List.append_nil]

/-- What cellAfter answers. -/
def afterL (n m I k : Nat) (tr tc : Int) : Int := if inK n m I k = true then tr * m + tc else 0
def AfterPost (n m I k : Nat) (w : World) (e : Ending) (w' : World) : Prop := e = .returned (.tuple #[.int .i64 (if inK n m I k = true then ((I / m : Nat) + stepR k) * m + ((I % m : Nat) + stepC k) else 0), .bool (inK n m I k)]) ∧ Grew w w'

set_option maxRecDepth 100000 in
set_option maxHeartbeats 4000000 in
theorem cellAfter_any (v : Value) (h : List (List Int)) (I k : Nat) (w : World) (hv : RowsV w v h) (hg : Shp h (h.getD 0 []).length) (hI : I < h.length * (h.getD 0 []).length) (hk4 : k < 4) :
    Calls Tryd.prog 108 #[v, .int .i64 I, .agg #[.int .i64 (stepR k), .int .i64 (stepC k)]] w (AfterPost h.length (h.getD 0 []).length I k w) := by
  have G := hg
  have HN := Lib.hid (fun (x y : Int) (W : World) (hW : Grew w W) => nearestInside_any v h x y W (hv.grew hW) G.n1 G.n5 G.m5)
  obtain ⟨a, b, o, c, rfl, ⟨hlc, hcb⟩, ha, HC⟩ := hv.shape
  obtain rfl := ha G.n1
  obtain ⟨u, hcu, hu⟩ := HC.out 0 G.n1
  rw [Nat.add_zero] at hcu
  obtain ⟨row, er⟩ : ∃ row, h.getD 0 [] = row := ⟨_, rfl⟩
  rw [er] at hu hI G ⊢
  have HN2 : Hid (∀ (x y : Int) (W : World), Grew w W → Calls Tryd.prog 125 #[.slice (some ⟨b, o, none⟩) h.length c, .agg #[.int .i64 x, .int .i64 y]] W (NearPost x y h.length row.length W)) := by
    have := HN.out
    rw [er] at this
    exact this
  obtain ⟨a1, b1, o1, c1, rfl, _, _, _⟩ := hu.shape
  obtain ⟨n, en⟩ : ∃ n, h.length = n := ⟨_, rfl⟩
  obtain ⟨m, em⟩ : ∃ m, row.length = m := ⟨_, rfl⟩
  have n1 := G.n1
  have n5 := G.n5
  have m1 := G.m1
  have m5 := G.m5
  rw [en] at hI n1 n5 HN2 ⊢
  rw [em] at hI m1 m5 HN2 hcu ⊢
  have hI25 : I < 25 := Nat.lt_of_lt_of_le hI (Nat.mul_le_mul n5 m5)
  have hdn := div_lt_of n m I hI
  have hcm := Nat.mod_lt I m1
  have HIN := Lib.hid (inK_iff n m I k n1 m1)
  unfold AfterPost
  have HIK : Hid (∀ tr tc : Int, ((I / m : Nat) : Int) + stepR k = tr → ((I % m : Nat) : Int) + stepC k = tc → ((tr == clamp tr n) && (tc == clamp tc m)) = inK n m I k) := fun tr tc h1 h2 => by
    unfold inK
    subst h1 h2
    rfl
  obtain ⟨B, eB⟩ : ∃ B, inK n m I k = B := ⟨_, rfl⟩
  rw [eB] at HIN HIK ⊢
  obtain ⟨r, hr⟩ : ∃ r, I / m = r := ⟨_, rfl⟩
  obtain ⟨q, hq⟩ : ∃ q, I % m = q := ⟨_, rfl⟩
  rw [hr] at hdn HIN HIK ⊢
  rw [hq] at hcm HIN HIK ⊢
  have t1 : (I : Int).tdiv m = (r : Int) := by rw [← hr]; exact (Int.ofNat_tdiv _ _).symm
  have t2 : (I : Int).tmod m = (q : Int) := by rw [← hq]; exact (Int.ofNat_tmod _ _).symm
  have t3 : (I : Int) / m = (r : Int) := by rw [← hr]; rfl
  have t4 : (I : Int) % m = (q : Int) := by rw [← hq]; rfl
  have hm0 : ((m : Int) == 0) = false := beq_eq_false_iff_ne.2 (by omega)
  have hbl : b < w.heap.size := World.block_lt_of_cell? _ _ hcu
  have h0n : 0 < n := n1
  have h0n' : (0 : Int) < n := by omega
  obtain ⟨dr, edr⟩ : ∃ dr, stepR k = dr := ⟨_, rfl⟩
  obtain ⟨dc, edc⟩ : ∃ dc, stepC k = dc := ⟨_, rfl⟩
  have bdr : -1 ≤ dr ∧ dr ≤ 1 := by
    rw [← edr]
    rcases (show k = 0 ∨ k = 1 ∨ k = 2 ∨ k = 3 by omega) with rfl | rfl | rfl | rfl <;> decide
  have bdc : -1 ≤ dc ∧ dc ≤ 1 := by
    rw [← edc]
    rcases (show k = 0 ∨ k = 1 ∨ k = 2 ∨ k = 3 by omega) with rfl | rfl | rfl | rfl <;> decide
  rw [edr, edc] at HIN HIK ⊢
  clear hv hg ha hu er G HN hr hq hI edr edc hk4 eB
  go_enter Tryd.func108, Tryd.ntmps108
  clear HC hlc en em
  go_wp2
  go_region
  obtain ⟨W2, hW2⟩ : ∃ W2, ((w.alloc (.cells #[.int .i64 dr, .int .i64 dc] 97)).alloc (.cells #[.int .i64 ((r : Int) + dr), .int .i64 ((q : Int) + dc)] 97)).drew = W2 := ⟨_, rfl⟩
  rw [hW2]
  obtain ⟨tr, etr⟩ : ∃ tr, (r : Int) + dr = tr := ⟨_, rfl⟩
  obtain ⟨tc, etc⟩ : ∃ tc, (q : Int) + dc = tc := ⟨_, rfl⟩
  rw [etr, etc] at hW2 ⊢
  have hg2 : Grew w W2 := by rw [← hW2]; exact (((Grew.refl w).alloc _).alloc _).drew
  have d0 : W2.cell? ⟨w.heap.size + 1, 0, none⟩ = some (.int .i64 tr) := by
    rw [← hW2]
    have := World.cell?_alloc_new (w := w.alloc (.cells #[.int .i64 dr, .int .i64 dc] 97)) #[.int .i64 tr, .int .i64 tc] 97 0
    rw [World.size_alloc] at this
    exact this
  have d1 : W2.cell? ⟨w.heap.size + 1, 1, none⟩ = some (.int .i64 tc) := by
    rw [← hW2]
    have := World.cell?_alloc_new (w := w.alloc (.cells #[.int .i64 dr, .int .i64 dc] 97)) #[.int .i64 tr, .int .i64 tc] 97 1
    rw [World.size_alloc] at this
    exact this
  have HG2 := Lib.hid hg2
  have HT := Lib.hid (And.intro etr etc)
  have btr : -1 ≤ tr ∧ tr ≤ n := by omega
  have btc : -1 ≤ tc ∧ tc ≤ m := by omega
  have hik := HIK.out tr tc etr etc
  rw [etr, etc] at HIN
  clear hW2 hg2 etr etc t1 t2 t3 t4 hm0 bdr bdc HIK
  obtain ⟨iI, hiI, _, hsI, _⟩ := info_parts Tryd.infoB
  have heq : ∀ W, (Op.equalIn 10000 97 (.agg #[.int .i64 tr, .int .i64 tc]) (.agg #[.int .i64 (clamp tr n), .int .i64 (clamp tc m)])).run Tryd.prog W = .ok B W := by
    intro W
    have := run_equalIn_pair (P := Tryd.prog) W 9998 97 3 tr tc (clamp tr n) (clamp tc m) iI Tryd.underlying97 Tryd.underlying3 hiI hsI
    rw [this, hik]
  clear hiI hsI hik
  cases B with
  | true =>
    have hb := HIN.out.1 rfl
    obtain ⟨pr, epr⟩ : ∃ pr, tr * (m : Int) = pr := ⟨_, rfl⟩
    have hpr : 0 ≤ pr ∧ pr ≤ 25 := by
      obtain ⟨x, rfl⟩ := Int.eq_ofNat_of_zero_le hb.1.1
      have e : (x : Int) * (m : Int) = ((x * m : Nat) : Int) := by simp
      have : x * m ≤ 5 * 5 := Nat.mul_le_mul (by omega) m5
      rw [← epr, e]
      omega
    have hp0 : 0 ≤ tr * (m : Int) := by rw [epr]; omega
    have hp1 : tr * (m : Int) ≤ 25 := by rw [epr]; omega
    clear epr hpr
    go_wp2_with (fail)
    go_region_with (first | (go_at_call 125; refine (HN2.out _ _ _ (by first | exact HG2.out | exact HG2.out.drew)).mono ?_; rintro e w5 ⟨rfl, hg5⟩; have q0 := hg5.cell d0; have q1 := hg5.cell d1; have HG5 := Lib.hid hg5; clear hg5))
    all_goals
      have hGw : Hid (Grew w w5) := HG2.out.trans ((Grew.refl _).drew.trans HG5.out)
      clear heq d0 d1
      go_wp2
      go_ret2
      exact ⟨by simp [HT.out.1, HT.out.2], hGw.out⟩
  | false =>
    go_wp2_with (fail)
    go_region_with (first | (go_at_call 125; refine (HN2.out _ _ _ (by first | exact HG2.out | exact HG2.out.drew)).mono ?_; rintro e w5 ⟨rfl, hg5⟩; have q0 := hg5.cell d0; have q1 := hg5.cell d1; have HG5 := Lib.hid hg5; clear hg5))
    all_goals
      have hGw : Hid (Grew w w5) := HG2.out.trans ((Grew.refl _).drew.trans HG5.out)
      clear heq d0 d1
      go_wp2
      go_ret2
      exact ⟨by simp, hGw.out⟩

set_option maxRecDepth 100000 in
set_option maxHeartbeats 4000000 in
theorem cellsBesideS_any (v : Value) (h : List (List Int)) (I : Nat) (w : World) (hv : RowsV w v h) (hg : Shp h (h.getD 0 []).length) (hI : I < h.length * (h.getD 0 []).length) (hS : Steps w) :
    Calls Tryd.prog 72 #[v, .int .i64 I] w (OwnI w (aroundL h.length (h.getD 0 []).length I)) := by
  have G := hg
  have n1 := G.n1
  have n5 := G.n5
  have m1 := G.m1
  have m5 := G.m5
  have HCA : Hid (∀ (k : Nat) (W : World), k < 4 → Grew w W → Calls Tryd.prog 108 #[v, .int .i64 I, .agg #[.int .i64 (stepR k), .int .i64 (stepC k)]] W (AfterPost h.length (h.getD 0 []).length I k W)) := fun k W hk hW => cellAfter_any v h I k W (hv.grew hW) hg hI hk
  obtain ⟨a, b, o, c, rfl, _, _, _⟩ := hv.shape
  obtain ⟨n, en⟩ : ∃ n, h.length = n := ⟨_, rfl⟩
  obtain ⟨m, em⟩ : ∃ m, (h.getD 0 []).length = m := ⟨_, rfl⟩
  rw [en] at hI n1 n5 HCA ⊢
  rw [em] at hI m1 m5 HCA ⊢
  have HBA := Lib.hid (beside_around n m I n1 m1 hI)
  have HRQ := Lib.hid hI
  obtain ⟨tS, hS0⟩ := hS
  have HS := Lib.hid hS0
  have hS1 := hS0
  clear hv hg G hS0 hI en em
  go_enter Tryd.func72, Tryd.ntmps72
  go_wp2_with (refine wpList_load_row rfl 98 _ rfl 0 rfl tS stepCells (0, 0) _ hS1 Tryd.underlying98 rfl (by kernel_rfl) ?_)
  clear hS1
  go_loopg [5, 11] 4 (fun gk v i wr => ∃ k xs a' c', v = .slice a' (List.length xs) c' ∧ i = .int .i64 ((k : Nat) : Int) ∧ k ≤ 4 ∧ 4 ≤ gk + k ∧
    Hid (xs = besideL n m I k ∧ IntsO 3 w.heap.size wr.heap.size wr v xs ∧ Grew w wr))
  case atStart => exact ⟨0, [], none, 0, rfl, rfl, Nat.zero_le _, Nat.le_refl _, rfl, ⟨World.ownsRow_nil _ _ _ _, fun g e => by simp [Value.ownBlock] at e⟩, Grew.refl _⟩
  case round =>
    obtain ⟨k, xs, a', c', rfl, rfl, hk4, hkg, HI⟩ := hrel
    by_cases hlt : k < 4
    · have hix := fun W => step_index k hlt W
      have HCK := Lib.hid (fun (W : World) (hW : Grew wr W) => HCA.out k W hlt (HI.out.2.2.trans hW))
      have HBY := Lib.hid (fun (h : inK n m I k = true) => beside_yes (xs := xs) HI.out.1 h rfl rfl rfl rfl rfl rfl)
      have HBN := Lib.hid (fun (h : inK n m I k = false) => beside_no (xs := xs) HI.out.1 h)
      obtain ⟨dr, edr⟩ : ∃ dr, stepR k = dr := ⟨_, rfl⟩
      obtain ⟨dc, edc⟩ : ∃ dc, stepC k = dc := ⟨_, rfl⟩
      unfold AfterPost at HCK
      obtain ⟨V, eV⟩ : ∃ V, (((I / m : Nat) : Int) + stepR k) * m + (((I % m : Nat) : Int) + stepC k) = V := ⟨_, rfl⟩
      rw [eV] at HCK HBY
      rw [edr, edc] at hix HCK
      clear edr edc eV
      have hklt : (k : Int) < 4 := by omega
      go_wp2_with (fail)
      refine (HCK.out _ ((Grew.refl wr).alloc _)).mono ?_
      cases hin : inK n m I k with
      | true =>
        have hxs := HBY.out hin
        rintro e w5 ⟨rfl, hg5⟩
        rw [if_pos rfl]
        have HX := Lib.hid hxs
        have HG5 : Hid (Grew wr w5) := ((Grew.refl wr).alloc _).trans hg5
        have hxl : xs.length ≤ 4 := by rw [HI.out.1]; exact Nat.le_trans (besideL_len _ _ _ _) hk4
        have hsz5 : w.heap.size ≤ w5.heap.size := (HI.out.2.2.trans HG5.out).size
        have HO5 := Lib.hid ((HI.out.2.1.grew HG5.out).wide (Nat.le_refl _) HG5.out.size)
        clear hxs hin hg5 hix
        go_wp2_with (at_builtin; refine wpList_append_int rfl (.tmp 22) (.tmp 24) 22 rfl Tryd.underlying22 Tryd.infoB rfl rfl rfl HO5.out (by omega) hsz5 ?_; intro g6 c6 w6 hO6 hW6 hS6)
        have HF : Hid (IntsO 3 w.heap.size w6.heap.size w6 (.slice (some ⟨g6, 0, none⟩) (xs.length + 1) c6) (xs ++ [V]) ∧ Grew w w6) := ⟨hO6, Within.grew (HI.out.2.2.trans HG5.out) hW6 (Nat.le_refl _)⟩
        clear hO6 hW6 hS6
        go_wp2
        go_roundg (gk - 1)
        case measure => omega
        case rel => exact ⟨k + 1, xs ++ [V], some ⟨g6, 0, none⟩, c6, by simp, by go_num, by omega, by omega, HX.out, HF.out.1, HF.out.2⟩
      | false =>
        have HX := Lib.hid (HBN.out hin)
        rintro e w5 ⟨rfl, hg5⟩
        have HG5 : Hid (Grew wr w5) := ((Grew.refl wr).alloc _).trans hg5
        clear hin hg5 hix
        go_wp2
        go_roundg (gk - 1)
        case measure => omega
        case rel => exact ⟨k + 1, xs, a', c', rfl, by go_num, by omega, by omega, HX.out, (HI.out.2.1.grew HG5.out).wide (Nat.le_refl _) HG5.out.size, HI.out.2.2.trans HG5.out⟩
    · go_wp2
      go_ret
      obtain rfl : k = 4 := by omega
      have e := HI.out.1
      rw [HBA.out] at e
      subst e
      exact ⟨_, _, rfl, HI.out.2.1.wide (by omega) (Nat.le_refl _), HI.out.2.2⟩
theorem cellsBeside_any (v : Value) (h : List (List Int)) (I : Nat) (w : World) (hv : RowsV w v h) (hg : vGrid h = true) (hI : I < h.length * (h.getD 0 []).length) (hS : Steps w) :
    Calls Tryd.prog 72 #[v, .int .i64 I] w (OwnI w (aroundL h.length (h.getD 0 []).length I)) := cellsBesideS_any v h I w hv (Grid.of hg).shp hI hS
end Go.Proofs.YtaeenedjmakelaaDoor
