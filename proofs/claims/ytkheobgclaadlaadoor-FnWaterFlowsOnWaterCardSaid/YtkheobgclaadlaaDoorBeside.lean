/- The contract of impl.cellsBeside. -/
import Derived.Test.YtkheobgclaadlaaDoorBesideL
namespace Go.Proofs.YtkheobgclaadlaaDoor
open Go.RowKit

theorem Tryd.infoB : (Tryd.prog.info? 3).map (fun i => (i.zero, i.size, i.bytes)) = some (some (.int .i64 0), 1, 8) := by kernel_rfl
/-- '==' between two arrays of two integers. -/
theorem run_equalIn_pair {P : Program} (w : World) (d : Nat) (t e : TypeId) (a b x y : Int) (i : TypeInfo) (ht : P.underlying t = some (.array 2 e)) (he : P.underlying e = some (.int .i64)) (hi : P.info? e = some i) (hs : i.size = 1) :
    (Op.equalIn (d + 2) t (.agg #[.int .i64 a, .int .i64 b]) (.agg #[.int .i64 x, .int .i64 y])).run P w = .ok ((a == x) && (b == y)) w := by
  rw [Op.equalIn]
  simp only [Sem.run_bind, run_underlying ht, Result.andThen_ok, sizeOf, typeInfo, run_program, hi]
  simp only [Sem.run_pure, Result.andThen_ok, hs]
  simp [part, List.range'_succ, List.forIn_cons, isAgg, run_underlying he, run_equalIn_int w d e .i64 .i64 a x he, run_equalIn_int w d e .i64 .i64 b y he]
  by_cases h1 : a = x <;> by_cases h2 : b = y <;> simp [h1, h2]
def stepCells : Array Value := #[.int .i64 (-1), .int .i64 0, .int .i64 0, .int .i64 (-1), .int .i64 0, .int .i64 1, .int .i64 1, .int .i64 0]
/-- The table of steps lies in block 0. -/
def Steps (w : World) : Prop := ∃ t, w.heap[0]? = some (.cells stepCells t (0, 0))
theorem Steps.grew {w w' : World} (h : Steps w) (hg : Grew w w') : Steps w' := by
  obtain ⟨t, ht⟩ := h
  exact ⟨t, (hg.block (Array.getElem?_eq_some_iff.1 ht).1).trans ht⟩

/-- New numbers in new memory; a value whose length is told. -/
def OwnI (w : World) (xs : List Int) (e : Ending) (w' : World) : Prop := ∃ a c, e = .returned (.slice a xs.length c) ∧ IntsO 3 w.heap.size w'.heap.size w' (.slice a xs.length c) xs ∧ Grew w w'

theorem step_index0 (w : World) : (Instr.index 68 (.agg stepCells) (.int .i64 0)).run Tryd.prog w = .ok (.agg #[.int .i64 (-1), .int .i64 0]) w := by kernel_rfl
theorem step_index1 (w : World) : (Instr.index 68 (.agg stepCells) (.int .i64 1)).run Tryd.prog w = .ok (.agg #[.int .i64 0, .int .i64 (-1)]) w := by kernel_rfl
theorem step_index2 (w : World) : (Instr.index 68 (.agg stepCells) (.int .i64 2)).run Tryd.prog w = .ok (.agg #[.int .i64 0, .int .i64 1]) w := by kernel_rfl
theorem step_index3 (w : World) : (Instr.index 68 (.agg stepCells) (.int .i64 3)).run Tryd.prog w = .ok (.agg #[.int .i64 1, .int .i64 0]) w := by kernel_rfl
theorem step_index (k : Nat) (hk : k < 4) (w : World) : (Instr.index 68 (.agg stepCells) (.int .i64 k)).run Tryd.prog w = .ok (.agg #[.int .i64 (stepR k), .int .i64 (stepC k)]) w := by
  rcases (show k = 0 ∨ k = 1 ∨ k = 2 ∨ k = 3 by omega) with rfl | rfl | rfl | rfl
  · exact step_index0 w
  · exact step_index1 w
  · exact step_index2 w
  · exact step_index3 w

theorem beside_yes {n m I k r q : Nat} {xs : List Int} {dr dc tr tc : Int} (h : xs = besideL n m I k) (hin : inK n m I k = true) (hr : I / m = r) (hq : I % m = q) (h1 : stepR k = dr) (h2 : stepC k = dc) (h3 : (r : Int) + dr = tr) (h4 : (q : Int) + dc = tc) :
    xs ++ [tr * m + tc] = besideL n m I (k + 1) := by
  subst hr; subst hq; subst h1; subst h2; subst h3; subst h4
  rw [besideL, ← h, if_pos hin]
  rfl
theorem beside_no {n m I k : Nat} {xs : List Int} (h : xs = besideL n m I k) (hin : inK n m I k = false) : xs = besideL n m I (k + 1) := by
  rw [besideL, ← h, if_neg (by rw [hin]; exact Bool.false_ne_true), List.append_nil]

set_option maxRecDepth 100000 in
set_option maxHeartbeats 4000000 in
theorem cellsBeside_any (v : Value) (h : List (List Int)) (I : Nat) (w : World) (hv : RowsV w v h) (hg : vGrid h = true) (hI : I < h.length * (h.getD 0 []).length) (hS : Steps w) :
    Calls Tryd.prog 34 #[v, .int .i64 I] w (OwnI w (aroundL h.length (h.getD 0 []).length I)) := by
  have G := Grid.of hg
  have HN := Lib.hid (fun (x y : Int) (W : World) (hW : Grew w W) => nearestInside_any v h x y W (hv.grew hW) G.n1 G.n5 G.m5)
  obtain ⟨a, b, o, c, rfl, ⟨hlc, hcb⟩, ha, HC⟩ := hv.shape
  obtain rfl := ha G.n1
  obtain ⟨u, hcu, hu⟩ := HC.out 0 G.n1
  rw [Nat.add_zero] at hcu
  obtain ⟨row, er⟩ : ∃ row, h.getD 0 [] = row := ⟨_, rfl⟩
  rw [er] at hu hI G ⊢
  have HN2 : Hid (∀ (x y : Int) (W : World), Grew w W → Calls Tryd.prog 46 #[.slice (some ⟨b, o, none⟩) h.length c, .agg #[.int .i64 x, .int .i64 y]] W (NearPost x y h.length row.length W)) := by
    have := HN.out
    rw [er] at this
    exact this
  obtain ⟨a1, b1, o1, c1, rfl, _, _, _⟩ := hu.shape
  obtain ⟨n, en⟩ : ∃ n, h.length = n := ⟨_, rfl⟩
  obtain ⟨m, em⟩ : ∃ m, row.length = m := ⟨_, rfl⟩
  have n1 := G.n1
  have n5 := G.n5
  have m1 := G.m1
  have m5 := G.m5
  rw [en] at hI n1 n5 HN2 ⊢
  rw [em] at hI m1 m5 HN2 hcu ⊢
  have HBA := Lib.hid (beside_around n m I n1 m1 hI)
  have hI25 : I < 25 := Nat.lt_of_lt_of_le hI (Nat.mul_le_mul n5 m5)
  have hdn := div_lt_of n m I hI
  have hcm := Nat.mod_lt I m1
  obtain ⟨r, hr⟩ : ∃ r, I / m = r := ⟨_, rfl⟩
  obtain ⟨q, hq⟩ : ∃ q, I % m = q := ⟨_, rfl⟩
  rw [hr] at hdn
  rw [hq] at hcm
  have HRQ := Lib.hid (And.intro hr hq)
  have t1 : (I : Int).tdiv m = (r : Int) := by rw [← hr]; exact (Int.ofNat_tdiv _ _).symm
  have t2 : (I : Int).tmod m = (q : Int) := by rw [← hq]; exact (Int.ofNat_tmod _ _).symm
  have t3 : (I : Int) / m = (r : Int) := by rw [← hr]; rfl
  have t4 : (I : Int) % m = (q : Int) := by rw [← hq]; rfl
  have hm0 : ((m : Int) == 0) = false := beq_eq_false_iff_ne.2 (by omega)
  obtain ⟨tS, hS0⟩ := hS
  have HS := Lib.hid hS0
  have hbl : b < w.heap.size := World.block_lt_of_cell? _ _ hcu
  have h0n : 0 < n := n1
  have h0n' : (0 : Int) < n := by omega
  clear hv hg ha hu er G HN hr hq hS0 hI
  go_enter Tryd.func34, Tryd.ntmps34
  clear HC hlc en em
  go_wp2
  go_region
  obtain ⟨W1, hW1⟩ : ∃ W1, (w.alloc (.cells #[.int .i64 r, .int .i64 q] 67)).drew = W1 := ⟨_, rfl⟩
  rw [hW1]
  have hg1 : Grew w W1 := by rw [← hW1]; exact ((Grew.refl w).alloc _).drew
  have hs1 : w.heap.size < W1.heap.size := by rw [← hW1]; simp
  have hx1 : W1.cell? ⟨w.heap.size, 0, none⟩ = some (.int .i64 r) := by rw [← hW1]; simp
  have hy1 : W1.cell? ⟨w.heap.size, 1, none⟩ = some (.int .i64 q) := by rw [← hW1]; simp
  have hS1 := (hg1.block (Array.getElem?_eq_some_iff.1 HS.out).1).trans HS.out
  have H1 := Lib.hid (And.intro hg1 (And.intro hx1 hy1))
  clear hW1 hx1 hy1 t1 t2 t3 t4 hm0 hg1
  go_wp2_with (refine wpList_load_row rfl 68 _ rfl 0 rfl tS stepCells (0, 0) _ hS1 Tryd.underlying68 rfl (by kernel_rfl) ?_)
  clear hS1
  go_loopg [7, 23] 4 (fun gk v i wr => ∃ k xs a' c', v = .slice a' (List.length xs) c' ∧ i = .int .i64 ((k : Nat) : Int) ∧ k ≤ 4 ∧ 4 ≤ gk + k ∧
    Hid (xs = besideL n m I k ∧ IntsO 3 (w.heap.size + 1) wr.heap.size wr v xs ∧ Grew w wr ∧ w.heap.size < wr.heap.size ∧ wr.cell? ⟨w.heap.size, 0, none⟩ = some (.int .i64 r) ∧ wr.cell? ⟨w.heap.size, 1, none⟩ = some (.int .i64 q)))
  case atStart => exact ⟨0, [], none, 0, rfl, rfl, Nat.zero_le _, Nat.le_refl _, rfl, ⟨World.ownsRow_nil _ _ _ _, fun g e => by simp [Value.ownBlock] at e⟩, H1.out.1, hs1, H1.out.2.1, H1.out.2.2⟩
  case round =>
    obtain ⟨k, xs, a', c', rfl, rfl, hk4, hkg, HI⟩ := hrel
    by_cases hlt : k < 4
    · have hix := fun W => step_index k hlt W
      obtain ⟨dr, edr⟩ : ∃ dr, stepR k = dr := ⟨_, rfl⟩
      obtain ⟨dc, edc⟩ : ∃ dc, stepC k = dc := ⟨_, rfl⟩
      have bdr : -1 ≤ dr ∧ dr ≤ 1 := by
        rw [← edr]
        rcases (show k = 0 ∨ k = 1 ∨ k = 2 ∨ k = 3 by omega) with rfl | rfl | rfl | rfl <;> decide
      have bdc : -1 ≤ dc ∧ dc ≤ 1 := by
        rw [← edc]
        rcases (show k = 0 ∨ k = 1 ∨ k = 2 ∨ k = 3 by omega) with rfl | rfl | rfl | rfl <;> decide
      rw [edr, edc] at hix
      have HD := Lib.hid (And.intro edr edc)
      clear edr edc
      have hx := HI.out.2.2.2.2.1
      have hy := HI.out.2.2.2.2.2
      have hsz := HI.out.2.2.2.1
      have hklt : (k : Int) < 4 := by omega
      go_wp2
      obtain ⟨W2, hW2⟩ : ∃ W2, (wr.alloc (.cells #[.int .i64 dr, .int .i64 dc] 67)).alloc (.cells #[.int .i64 ((r : Int) + dr), .int .i64 ((q : Int) + dc)] 67) = W2 := ⟨_, rfl⟩
      rw [hW2]
      obtain ⟨tr, etr⟩ : ∃ tr, (r : Int) + dr = tr := ⟨_, rfl⟩
      obtain ⟨tc, etc⟩ : ∃ tc, (q : Int) + dc = tc := ⟨_, rfl⟩
      rw [etr, etc] at hW2 ⊢
      have hg2 : Grew wr W2 := by rw [← hW2]; exact ((Grew.refl wr).alloc _).alloc _
      have d0 : W2.cell? ⟨wr.heap.size + 1, 0, none⟩ = some (.int .i64 tr) := by
        rw [← hW2]
        have := World.cell?_alloc_new (w := wr.alloc (.cells #[.int .i64 dr, .int .i64 dc] 67)) #[.int .i64 tr, .int .i64 tc] 67 0
        rw [World.size_alloc] at this
        exact this
      have d1 : W2.cell? ⟨wr.heap.size + 1, 1, none⟩ = some (.int .i64 tc) := by
        rw [← hW2]
        have := World.cell?_alloc_new (w := wr.alloc (.cells #[.int .i64 dr, .int .i64 dc] 67)) #[.int .i64 tr, .int .i64 tc] 67 1
        rw [World.size_alloc] at this
        exact this
      have HG2 := Lib.hid (And.intro (HI.out.2.2.1.trans hg2) hg2)
      have HT := Lib.hid (And.intro etr etc)
      have btr : -1 ≤ tr ∧ tr ≤ n := by omega
      have btc : -1 ≤ tc ∧ tc ≤ m := by omega
      clear hW2 hg2 etr etc hx hy hix
      obtain ⟨iI, hiI, _, hsI, _⟩ := info_parts Tryd.infoB
      have heq : ∀ W, (Op.equalIn 10000 67 (.agg #[.int .i64 tr, .int .i64 tc]) (.agg #[.int .i64 (clamp tr n), .int .i64 (clamp tc m)])).run Tryd.prog W = .ok (inK n m I k) W := by
        intro W
        have := run_equalIn_pair (P := Tryd.prog) W 9998 67 3 tr tc (clamp tr n) (clamp tc m) iI Tryd.underlying67 Tryd.underlying3 hiI hsI
        rw [this]
        congr 1
        unfold inK
        rw [HRQ.out.1, HRQ.out.2, HD.out.1, HD.out.2, HT.out.1, HT.out.2]
        rfl
      have HIN := Lib.hid (inK_iff n m I k n1 m1)
      clear hiI hsI
      cases hin : inK n m I k with
      | true =>
        rw [hin] at heq
        have hb := HIN.out.1 hin
        rw [HRQ.out.1, HRQ.out.2, HD.out.1, HD.out.2, HT.out.1, HT.out.2] at hb
        have HIT := Lib.hid hin
        obtain ⟨pr, epr⟩ : ∃ pr, tr * (m : Int) = pr := ⟨_, rfl⟩
        have hpr : 0 ≤ pr ∧ pr ≤ 25 := by
          obtain ⟨x, rfl⟩ := Int.eq_ofNat_of_zero_le hb.1.1
          have e : (x : Int) * (m : Int) = ((x * m : Nat) : Int) := by simp
          have : x * m ≤ 5 * 5 := Nat.mul_le_mul (by omega) m5
          rw [← epr, e]
          omega
        have hp0 : 0 ≤ tr * (m : Int) := by rw [epr]; omega
        have hp1 : tr * (m : Int) ≤ 25 := by rw [epr]; omega
        clear hin epr hpr
        go_region_with (first | (go_at_call 46; refine (HN2.out _ _ _ (by first | exact HG2.out.1 | exact HG2.out.1.drew)).mono ?_; rintro e w5 ⟨rfl, hg5⟩; have q0 := hg5.cell d0; have q1 := hg5.cell d1; have HG5 := Lib.hid hg5; clear hg5))
        all_goals
          clear heq
          have hxl : xs.length ≤ 4 := by rw [HI.out.1]; exact Nat.le_trans (besideL_len _ _ _ _) hk4
          have hGw : Hid (Grew wr w5) := HG2.out.2.drew.trans HG5.out
          have hsz5 := hGw.out.size
          go_wp2_with (at_builtin; refine wpList_append_int rfl (.tmp 42) (.tmp 50) 32 rfl Tryd.underlying32 Tryd.infoB rfl rfl rfl (HI.out.2.1.grew hGw.out) (by omega) (by omega) ?_; intro g6 c6 w6 hO6 hW6 hS6)
          have HF := Lib.hid (And.intro hO6 hW6)
          clear hO6 hW6 q0 q1 d0 d1
          go_wp2
          go_roundg (gk - 1)
          case measure => omega
          case rel => exact ⟨k + 1, xs ++ [tr * m + tc], some ⟨g6, 0, none⟩, c6, by simp, by go_num, by omega, by omega, beside_yes HI.out.1 HIT.out HRQ.out.1 HRQ.out.2 HD.out.1 HD.out.2 HT.out.1 HT.out.2, HF.out.1,
            HF.out.2.grew (HI.out.2.2.1.trans hGw.out) (by omega), by omega, HF.out.2.cell (hGw.out.cell HI.out.2.2.2.2.1) (.inl (by show w.heap.size < w.heap.size + 1; omega)), HF.out.2.cell (hGw.out.cell HI.out.2.2.2.2.2) (.inl (by show w.heap.size < w.heap.size + 1; omega))⟩
      | false =>
        rw [hin] at heq
        have HIT := Lib.hid hin
        clear hin
        go_region_with (first | (go_at_call 46; refine (HN2.out _ _ _ (by first | exact HG2.out.1 | exact HG2.out.1.drew)).mono ?_; rintro e w5 ⟨rfl, hg5⟩; have q0 := hg5.cell d0; have q1 := hg5.cell d1; have HG5 := Lib.hid hg5; clear hg5))
        all_goals
          clear heq
          have hGw : Hid (Grew wr w5) := HG2.out.2.drew.trans HG5.out
          have hsz5 := hGw.out.size
          clear q0 q1 d0 d1
          go_wp2
          go_roundg (gk - 1)
          case measure => omega
          case rel => exact ⟨k + 1, xs, a', c', rfl, by go_num, by omega, by omega, beside_no HI.out.1 HIT.out, (HI.out.2.1.grew hGw.out).wide (Nat.le_refl _) hsz5,
            HI.out.2.2.1.trans hGw.out, by omega, hGw.out.cell HI.out.2.2.2.2.1, hGw.out.cell HI.out.2.2.2.2.2⟩
    · go_wp2
      go_ret
      obtain rfl : k = 4 := by omega
      have e := HI.out.1
      rw [HBA.out] at e
      subst e
      exact ⟨_, _, rfl, HI.out.2.1.wide (by omega) (Nat.le_refl _), HI.out.2.2.1⟩
end Go.Proofs.YtkheobgclaadlaaDoor
