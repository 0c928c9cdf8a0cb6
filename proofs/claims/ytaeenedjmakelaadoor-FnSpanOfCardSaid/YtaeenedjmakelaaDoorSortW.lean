/- The order of rising water as the program sorts by it: byRising to the letter, the closure of meetingsOf, cellsInOrder. -/
import Derived.Test.YtaeenedjmakelaaDoorMinOr
import Derived.Test.YtaeenedjmakelaaDoorOrdM
import Derived.Test.YtaeenedjmakelaaDoorSortLays
namespace Go.Proofs.YtaeenedjmakelaaDoor
open Go.RowKit Go.Shelf
open Go.Sort (grow grow_empty grow_grow Holds PermIn SortedIn SWO putRow cell?_grow size_putRow cell?_putRow_other cell?_putRow)

/-- What only reads, draws and makes new blocks, to the letter. -/
def GG (w w' : World) : Prop := ∃ (q : Nat) (os : Array Obj), w' = grow (w.drewN q) os
theorem GG.refl (w : World) : GG w w := ⟨0, #[], (grow_empty w).symm⟩
theorem drewN_grow (w : World) (q : Nat) (os : Array Obj) : (grow w os).drewN q = grow (w.drewN q) os := rfl
theorem GG.trans {a b c : World} (h : GG a b) (k : GG b c) : GG a c := by
  obtain ⟨q, os, rfl⟩ := h
  obtain ⟨q', os', rfl⟩ := k
  exact ⟨q + q', os ++ os', by rw [drewN_grow, grow_grow, World.drewN_drewN]⟩
theorem GG.alloc {a b : World} (h : GG a b) (o : Obj) : GG a (b.alloc o) := h.trans ⟨0, #[o], rfl⟩
theorem GG.drew {a b : World} (h : GG a b) : GG a b.drew := h.trans ⟨1, #[], by rw [grow_empty]; rfl⟩
theorem GG.drewN {a b : World} (h : GG a b) (n : Nat) : GG a (b.drewN n) := h.trans ⟨n, #[], by rw [grow_empty]⟩
theorem GG.grew {a b : World} (h : GG a b) : Grew a b := by
  obtain ⟨q, os, rfl⟩ := h
  refine ⟨rfl, rfl, rfl, ?_, fun k hk => ?_⟩
  · show a.heap.size ≤ (a.heap ++ os).size
    rw [Array.size_append]; omega
  · show (a.heap ++ os)[k]? = _
    rw [Array.getElem?_append_left hk]
def risingC (p : List Int) (a b : Nat) : Int := if cmpI (p.getD a 0) (p.getD b 0) = 0 then cmpI (a : Int) (b : Int) else cmpI (p.getD a 0) (p.getD b 0)
theorem risingC_neg {p : List Int} {a b : Nat} : risingC p a b < 0 ↔ ahead p a b = true := by
  rw [ahead_iff]
  unfold risingC
  split
  · rename_i h
    rw [cmpI_zero] at h
    rw [cmpI_neg]
    omega
  · rename_i h
    rw [cmpI_zero] at h
    rw [cmpI_neg]
    omega
set_option maxRecDepth 100000 in
set_option maxHeartbeats 1000000 in
theorem cmpOr_gg (v : Value) (x y : Int) (w : World) (hv : IntsV w v [x, y]) : Calls Tryd.prog 114 #[v] w fun e w' => e = .returned (.int .i64 (if x = 0 then y else x)) ∧ GG w w' := by
  obtain ⟨a, b, o, c, rfl, ⟨hlc, hcb⟩, ha, HC⟩ := NumsV.shape hv
  obtain rfl := ha (by simp)
  have h0 := HC.out 0 (by simp)
  have h1 := HC.out 1 (by simp)
  simp only [List.getD_cons_zero, List.getD_cons_succ, Nat.add_zero, List.length_cons, List.length_nil] at h0 h1 hlc ⊢
  clear hv ha HC
  by_cases hx : x = 0
  · by_cases hy : y = 0
    · subst hx
      subst hy
      go_enter Tryd.func114, Tryd.ntmps114
      go_wp2
      go_loopw [8] (fun i wr => ∃ T : Nat, T ≤ 2 ∧ i = .int .i64 (T : Int) ∧ wr = w) (fun i _ => 2 - (intOf i).toNat)
      case atStart => exact ⟨0, by omega, rfl, rfl⟩
      case round =>
        obtain ⟨T, hT, rfl, rfl⟩ := hrel
        rcases T with _ | _ | T
        · go_wp2
          go_roundw
          case rel => exact ⟨1, by omega, by go_num, by trivial⟩
          case measure => simp [intOf]
        · go_wp2
          go_roundw
          case rel => exact ⟨2, by omega, by go_num, by trivial⟩
          case measure => simp [intOf]
        · obtain rfl : T = 0 := by omega
          go_wp2
          go_ret
          exact ⟨rfl, GG.refl _⟩
    · subst hx
      go_enter Tryd.func114, Tryd.ntmps114
      go_wp2
      go_loopw [8] (fun i wr => ∃ T : Nat, T ≤ 1 ∧ i = .int .i64 (T : Int) ∧ wr = w) (fun i _ => 2 - (intOf i).toNat)
      case atStart => exact ⟨0, by omega, rfl, rfl⟩
      case round =>
        obtain ⟨T, hT, rfl, rfl⟩ := hrel
        rcases T with _ | T
        · go_wp2
          go_roundw
          case rel => exact ⟨1, by omega, by go_num, by trivial⟩
          case measure => simp [intOf]
        · obtain rfl : T = 0 := by omega
          have hb : (y != 0) = true := by simpa using hy
          go_wp2
          go_ret
          exact ⟨rfl, GG.refl _⟩
  · rw [if_neg hx]
    have hb : (x != 0) = true := by simpa using hx
    go_enter Tryd.func114, Tryd.ntmps114
    go_wp2
    go_loopw [8] (fun i wr => i = .int .i64 0 ∧ wr = w) (fun i _ => 2 - (intOf i).toNat)
    case atStart => exact ⟨rfl, rfl⟩
    case round =>
      obtain ⟨rfl, rfl⟩ := hrel
      go_wp2
      go_ret
      exact ⟨rfl, GG.refl _⟩

set_option maxRecDepth 100000 in
set_option maxHeartbeats 8000000 in
theorem byRising_gg (g c N a b : Nat) (p : List Int) (w : World) (hv : IntsV w (.slice (some ⟨g, 0, none⟩) N c) p) (hN : p.length = N) (ha : a < N) (hb : b < N) :
    Calls Tryd.prog 96 #[.slice (some ⟨g, 0, none⟩) N c, .int .i64 a, .int .i64 b] w fun e w' => e = .returned (.int .i64 (risingC p a b)) ∧ GG w w' := by
  have hca := NumsV.at hv a (by omega)
  have hcb := NumsV.at hv b (by omega)
  obtain ⟨x, ex⟩ : ∃ x, p.getD a 0 = x := ⟨_, rfl⟩
  obtain ⟨y, ey⟩ : ∃ y, p.getD b 0 = y := ⟨_, rfl⟩
  rw [ex] at hca
  rw [ey] at hcb
  have HA : Hid ((if cmpI x y = 0 then cmpI (a : Int) (b : Int) else cmpI x y) = risingC p a b) := Lib.hid (by unfold risingC; rw [ex, ey])
  obtain ⟨C, eC⟩ : ∃ C : Int → Int → Int, ∀ u v, C u v = cmpI u v := ⟨cmpI, fun _ _ => rfl⟩
  have HCM : Hid (∀ u v W, Calls Tryd.prog 115 #[.int .i64 u, .int .i64 v] W fun e w' => e = .returned (.int .i64 (C u v)) ∧ W = w') := Lib.hid fun u v W => by rw [eC]; exact compare_any u v W
  rw [← eC, ← eC] at HA
  have HOR := Lib.hid fun v W h => cmpOr_gg v (C x y) (C (a : Int) (b : Int)) W h
  have hai : (a : Int) < (N : Int) := by omega
  have hbi : (b : Int) < (N : Int) := by omega
  clear ex ey eC hv hN
  go_enter Tryd.func96, Tryd.ntmps96
  have HIV : Hid (∀ W, Grew w W → IntsV ((W.alloc (.cells #[.int .i64 (C x y), .int .i64 (C (a : Int) (b : Int))] 3))) (.slice (some ⟨W.heap.size, 0, none⟩) 2 2) [C x y, C (a : Int) (b : Int)]) := Lib.hid fun W _ => (IntsO.lit 3 W.heap.size W [C x y, C (a : Int) (b : Int)] #[.int .i64 (C x y), .int .i64 (C (a : Int) (b : Int))] rfl (Nat.le_refl _) (show 2 ≤ maxLen by decide)).toV
  have HAL : Hid (∀ W, Grew w W → W.cell? ⟨g, a, none⟩ = some (.int .i64 x) ∧ W.cell? ⟨g, b, none⟩ = some (.int .i64 y)) := Lib.hid fun W hW => ⟨hW.cell hca, hW.cell hcb⟩
  obtain ⟨r, er⟩ : ∃ r, (if C x y = 0 then C (a : Int) (b : Int) else C x y) = r := ⟨_, rfl⟩
  rw [er] at HA HOR
  clear er
  go_wp2_with (fail)
  go_region_held3 (fun W => W.cell? ⟨g, a, none⟩ = some (.int .i64 x) ∧ W.cell? ⟨g, b, none⟩ = some (.int .i64 y))
    (first
      | exact ⟨hca, hcb⟩
      | assumption
      | exact HAL.out _ (((Grew.refl w).alloc _).drew)
      | exact HAL.out _ ((((Grew.refl w).alloc _).drew).trans hgo.grew))
    (first
      | (go_at_call 115; refine (HCM.out _ _ _).mono ?_; rintro e w1 ⟨rfl, rfl⟩)
      | (go_at_call 114; refine (HOR.out _ _ (NumsV.grew (HIV.out _ (Grew.refl w)) (Grew.refl _).drew)).mono ?_; rintro e w3 ⟨rfl, hgo⟩))
  have HG := Lib.hid ((((GG.refl w).alloc _).drew).trans hgo)
  clear hgo
  go_wp2
  go_ret
  exact ⟨ret_int HA.out, HG.out⟩

set_option maxRecDepth 100000 in
set_option maxHeartbeats 1000000 in
theorem order_gg (hc g c N a b : Nat) (p : List Int) (w : World) (hcell : w.cell? ⟨hc, 0, none⟩ = some (.slice (some ⟨g, 0, none⟩) N c)) (hv : IntsV w (.slice (some ⟨g, 0, none⟩) N c) p) (hN : p.length = N) (ha : a < N) (hb : b < N) :
    Calls Tryd.prog 95 #[.int .i64 a, .int .i64 b, .pointer (some ⟨hc, 0, none⟩)] w fun e w' => e = .returned (.int .i64 (risingC p a b)) ∧ GG w w' := by
  have HB := Lib.hid (byRising_gg g c N a b p w hv hN ha hb)
  obtain ⟨r, er⟩ : ∃ r, risingC p a b = r := ⟨_, rfl⟩
  rw [er] at HB ⊢
  clear hv hN er
  go_enter Tryd.func95, Tryd.ntmps95
  go_wp2_with (fail)
  refine HB.out.mono ?_
  rintro e w1 ⟨rfl, hg1⟩
  have HG := Lib.hid hg1
  clear hg1
  go_wp2
  go_ret
  exact ⟨rfl, HG.out⟩
/-! ## The sort -/
def encF (k : Nat) (x : Fin (k + 1)) : Value := .int .i64 (x.val : Int)
def cfF (p : List Int) (k : Nat) (x y : Fin (k + 1)) : Int := risingC p x.val y.val
theorem ltF (p : List Int) (k : Nat) (x y : Fin (k + 1)) : ltOf (cfF p k) x y = ahead p x.val y.val := by
  unfold ltOf cfF
  rw [Bool.eq_iff_iff, decide_eq_true_eq, risingC_neg]
theorem swoF (p : List Int) (k : Nat) : SWO (ltOf (cfF p k)) where
  irrefl x := by rw [ltF]; exact ahead_irrefl p _
  trans x y z h1 h2 := by rw [ltF] at *; exact ahead_trans h1 h2
  ntrans x y z h1 h2 := by
    rw [ltF] at *
    cases h : ahead p x.val z.val with
    | false => rfl
    | true =>
      have n1 : ¬ ahead p x.val y.val = true := by rw [h1]; simp
      have n2 : ¬ ahead p y.val z.val = true := by rw [h2]; simp
      rw [ahead_iff] at h n1 n2
      omega
theorem grow_grew (w : World) (os : Array Obj) : Grew w (grow w os) := by
  refine ⟨rfl, rfl, rfl, ?_, fun k hk => ?_⟩
  · show w.heap.size ≤ (w.heap ++ os).size
    rw [Array.size_append]; omega
  · show (w.heap ++ os)[k]? = _
    rw [Array.getElem?_append_left hk]
theorem cell_sortW {α : Type} [Inhabited α] (enc : α → Value) (W : World) (blk off n : Nat) (dk : Array α) (os : Array Obj) (a : Addr) (h1 : a.block ≠ blk) (h2 : a.block < W.heap.size) : (sortWorld enc W blk off n dk os).cell? a = W.cell? a := by
  unfold sortWorld
  rw [cell?_grow _ _ _ (by rw [size_putRow]; exact h2), cell?_putRow_other enc _ blk off dk a (Or.inl h1)]
  rfl
theorem cmp_lays (hc g c k blk : Nat) (p : List Int) (w : World) (hh : hc < w.heap.size) (hgs : g < w.heap.size) (h1 : hc ≠ blk) (h2 : g ≠ blk) (hcell : w.cell? ⟨hc, 0, none⟩ = some (.slice (some ⟨g, 0, none⟩) (k + 1) c)) (hv : IntsV w (.slice (some ⟨g, 0, none⟩) (k + 1) c) p) (hN : p.length = k + 1) :
    CmpLays1 Tryd.prog 95 #[.pointer (some ⟨hc, 0, none⟩)] (encF k) (cfF p k) blk 0 (k + 1) w := by
  intro m os dk hs x y
  have hcW : (sortWorld (encF k) w blk 0 m dk os).cell? ⟨hc, 0, none⟩ = some (.slice (some ⟨g, 0, none⟩) (k + 1) c) := by rw [cell_sortW _ _ _ _ _ _ _ _ h1 hh]; exact hcell
  have hvW : IntsV (sortWorld (encF k) w blk 0 m dk os) (.slice (some ⟨g, 0, none⟩) (k + 1) c) p := by
    obtain ⟨a, b, o, c', e, hl, hcc⟩ := hv
    refine ⟨a, b, o, c', e, hl, fun i hi => ⟨(hcc i hi).1, ?_⟩⟩
    have ea := (hcc i hi).1
    simp only [Value.slice.injEq] at e
    rw [ea] at e
    simp only [Option.some.injEq, Addr.mk.injEq] at e
    obtain ⟨⟨rfl, _⟩, _⟩ := e
    rw [cell_sortW _ _ _ _ _ _ _ _ h2 hgs]
    exact (hcc i hi).2
  exact order_gg hc g c (k + 1) x.val y.val p _ hcW hvW hN x.isLt y.isLt
/-- The cells in a row as they are made. -/
def rowF (k : Nat) : Array (Fin (k + 1)) := Array.ofFn fun i => i
theorem rowF_size (k : Nat) : (rowF k).size = k + 1 := by simp [rowF]
theorem rowF_at (k j : Nat) (h : j < k + 1) : (rowF k)[j]! = ⟨j, h⟩ := by
  rw [getElem!_pos _ j (by rw [rowF_size]; exact h)]
  simp [rowF]
theorem rowF_list (k : Nat) : (rowF k).toList.map Fin.val = List.range (k + 1) := by
  refine List.ext_getElem (by simp [rowF]) fun i h1 h2 => ?_
  simp only [rowF, Array.toList_ofFn, List.getElem_map, List.getElem_ofFn, List.getElem_range]
theorem sorted_list {p : List Int} {k : Nat} {d : Array (Fin (k + 1))} (hp : PermIn 0 (rowF k).size (rowF k) d) (hs : SortedIn (ltOf (cfF p k)) 0 (rowF k).size d) : d.size = k + 1 ∧ d.toList.map Fin.val = ordTo p (k + 1) := by
  obtain ⟨h1, _, h3⟩ := hp
  rw [rowF_size] at h1 h3 hs
  refine ⟨h1, ord_unique ?_ ?_⟩
  · have e1 : d.extract 0 (k + 1) = d := (congrArg (fun z => d.extract 0 z) h1.symm).trans Array.extract_size
    have e2 : (rowF k).extract 0 (k + 1) = rowF k := (congrArg (fun z => (rowF k).extract 0 z) (rowF_size k).symm).trans Array.extract_size
    rw [e1, e2] at h3
    have := h3.map Fin.val
    rwa [rowF_list] at this
  · rw [List.pairwise_map, List.pairwise_iff_getElem]
    intro i j hi hj hij
    have hi' : i < d.size := by simpa using hi
    have hj' : j < d.size := by simpa using hj
    have := hs i j (Nat.zero_le _) hij (by omega)
    rw [ltF, getElem!_pos d j hj', getElem!_pos d i hi'] at this
    simpa using this
/-- The numbers as they are laid. -/
def fillTo (N k : Nat) : List Int := (List.range N).map fun i => if i < k then ((i : Nat) : Int) else 0
theorem fillTo_len (N k : Nat) : (fillTo N k).length = N := by simp [fillTo]
theorem fillTo_at (N k i : Nat) (h : i < N) : (fillTo N k).getD i 0 = if i < k then ((i : Nat) : Int) else 0 := by simp [fillTo, h]
theorem fillTo_zero (N : Nat) : fillTo N 0 = List.replicate N 0 := by
  refine List.ext_getElem (by simp [fillTo]) fun i h1 h2 => ?_
  simp [fillTo]
theorem fillTo_set (N k : Nat) : (fillTo N k).set k (k : Int) = fillTo N (k + 1) := by
  refine List.ext_getElem (by simp [fillTo]) fun i h1 h2 => ?_
  rw [List.getElem_set]
  simp only [fillTo, List.getElem_map, List.getElem_range]
  by_cases e : k = i
  · subst e; simp
  · rw [if_neg e]
    by_cases h : i < k
    · rw [if_pos h, if_pos (by omega)]
    · rw [if_neg h, if_neg (by omega)]
theorem sortW_grew {α : Type} [Inhabited α] (enc : α → Value) {w0 : World} (W : World) (blk off n : Nat) (dk : Array α) (os : Array Obj) (h : Grew w0 W) (hb : w0.heap.size ≤ blk) : Grew w0 (sortWorld enc W blk off n dk os) := by
  unfold sortWorld
  refine Grew.trans ?_ (grow_grew _ _)
  have := Grew.size h
  refine ⟨h.os, h.tape, h.output, ?_, fun k hk => ?_⟩
  · rw [size_putRow]; exact this
  · have h2 := h.block hk
    rw [← h2]
    show (Array.modify _ _ _)[k]? = _
    rw [Array.getElem?_modify, if_neg (by omega)]
    rfl
set_option maxRecDepth 100000 in
set_option maxHeartbeats 4000000 in
theorem cellsInOrder_any (hc g c k : Nat) (p : List Int) (w : World) (hk25 : k < 25) (hh : hc < w.heap.size) (hgs : g < w.heap.size) (hcell : w.cell? ⟨hc, 0, none⟩ = some (.slice (some ⟨g, 0, none⟩) (k + 1) c)) (hv : IntsV w (.slice (some ⟨g, 0, none⟩) (k + 1) c) p) (hN : p.length = k + 1) :
    Calls Tryd.prog 97 #[.int .i64 ((k + 1 : Nat) : Int), .func (.func 95) #[] #[.pointer (some ⟨hc, 0, none⟩)]] w fun e w' => ∃ g c, e = .returned (.slice (some ⟨g, 0, none⟩) (k + 1) c) ∧ w.heap.size ≤ g ∧ g < w'.heap.size ∧ (∀ j, j < k + 1 → w'.cell? ⟨g, j, none⟩ = some (.int .i64 ((ordTo p (k + 1)).getD j 0 : Nat))) ∧ Grew w w' := by
  have HV := Lib.hid (And.intro hv (And.intro hcell hN))
  have HH := Lib.hid (And.intro hh hgs)
  obtain ⟨N, eN⟩ : ∃ N, k + 1 = N := ⟨_, rfl⟩
  have HN := Lib.hid eN
  have hNb : N ≤ 17592186044416 := by omega
  have hN1 : 0 < N := by omega
  rw [eN]
  clear hv hcell hN hh hgs eN hk25
  go_enter Tryd.func97, Tryd.ntmps97
  go_wp2_with (at_make; refine wpList_make_ints rfl (.tmp 7) (.tmp 7) 22 rfl Tryd.underlying22 Tryd.infoE rfl rfl rfl rfl hNb ?_; intro w1 hO1 hg1 hs1; have H1 := Lib.hid (And.intro hO1 (And.intro hg1 hs1)); clear hO1 hg1 hs1)
  have H0 : Hid (IntsO 3 w.heap.size w1.heap.size w1 (.slice (some ⟨w.heap.size, 0, none⟩) N N) (fillTo N 0) ∧ Grew w w1) := Lib.hid ⟨by rw [fillTo_zero]; exact H1.out.1, H1.out.2.1⟩
  go_loopw [11] (fun i' wr => ∃ i : Nat, i ≤ N ∧ i' = .int .i64 i ∧ Hid (IntsO 3 w.heap.size w1.heap.size wr (.slice (some ⟨w.heap.size, 0, none⟩) N N) (fillTo N i) ∧ Grew w wr)) (fun i' _ => N - (intOf i').toNat)
  case atStart => exact ⟨0, Nat.zero_le _, rfl, H0⟩
  case round =>
    obtain ⟨i, hi, rfl, HI⟩ := hrel
    clear H0
    by_cases hlt : i < N
    · obtain ⟨hel, hfr⟩ := HI.out.1.at rfl (i := i) (by rw [fillTo_len]; exact hlt)
      obtain ⟨z, ez⟩ : ∃ z, (fillTo N i).getD i 0 = z := ⟨_, rfl⟩
      rw [ez] at hel
      have r1 : (i : Int) < N := by omega
      have r2 : (0 : Int) ≤ i := by omega
      clear ez
      go_wp2
      go_roundw
      case rel => exact ⟨i + 1, by omega, by go_num, by
        have := HI.out.1.set rfl i (i : Int)
        rw [fillTo_set] at this
        exact this, Within.grew (lo := w.heap.size) (hi := w.heap.size + 1) HI.out.2 ((Within.refl _ _ _).setCell (p := ⟨w.heap.size, i, none⟩) (Nat.le_refl _) (Nat.lt_succ_self _) _) (Nat.le_refl _)⟩
      case measure => simp [intOf]; omega
    · obtain rfl : i = N := by omega
      have hblk : w.heap.size < wr.heap.size := (World.ownsRow.lt HI.out.1.1 w.heap.size rfl).2
      have HO : Hid (Holds (encF k) wr w.heap.size 0 (rowF k)) := Lib.hid fun j hj => by
        rw [rowF_size] at hj
        obtain ⟨h1, h2⟩ := HI.out.1.at rfl (i := j) (by rw [fillTo_len, ← HN.out]; exact hj)
        rw [fillTo_at _ _ _ (by rw [← HN.out]; exact hj), if_pos (by rw [← HN.out]; exact hj)] at h1
        rw [Nat.zero_add, rowF_at k j hj]
        exact ⟨h1, h2⟩
      have HCL : Hid (CmpLays1 Tryd.prog 95 #[.pointer (some ⟨hc, 0, none⟩)] (encF k) (cfF p k) w.heap.size 0 (k + 1) wr) :=
        Lib.hid (cmp_lays hc g c k w.heap.size p wr (by have := HH.out; omega) (by have := HH.out; omega) (by have := HH.out; omega) (by have := HH.out; omega) (HI.out.2.cell HV.out.2.1) (HV.out.1.grew HI.out.2) HV.out.2.2)
      have HSF := Lib.hid (Any.slices_SortFunc sortLays (encF k) (fun _ => rfl) (cfF p k) (swoF p k) 95 #[.pointer (some ⟨hc, 0, none⟩)] w.heap.size 0 i (rowF k) wr (enters_of Tryd.func95 (by kernel_rfl) rfl) (by rw [rowF_size]; exact HCL.out) HO.out hblk (by rw [rowF_size, HN.out]; omega))
      have HSF2 : Hid (Calls Tryd.prog 116 #[.slice (some ⟨w.heap.size, 0, none⟩) i i, .func (.func 95) #[] #[.pointer (some ⟨hc, 0, none⟩)]] wr fun e w' => e = .returned (.tuple #[]) ∧ (∀ j, j < i → w'.cell? ⟨w.heap.size, j, none⟩ = some (.int .i64 ((ordTo p i).getD j 0 : Nat))) ∧ Grew w w' ∧ w.heap.size < w'.heap.size) := by
        have hsz : (rowF k).size = i := (rowF_size k).trans HN.out
        have h0 : Calls Tryd.prog 116 #[.slice (some ⟨w.heap.size, 0, none⟩) (rowF k).size i, .func (.func 95) #[] #[.pointer (some ⟨hc, 0, none⟩)]] wr fun e w' => e = .returned (.tuple #[]) ∧ (∀ j, j < i → w'.cell? ⟨w.heap.size, j, none⟩ = some (.int .i64 ((ordTo p i).getD j 0 : Nat))) ∧ Grew w w' ∧ w.heap.size < w'.heap.size := HSF.out.mono ?_
        · rwa [hsz] at h0
        rintro e w' ⟨rfl, d, n, os, hp, hs, rfl⟩
        obtain ⟨hd, hl⟩ := sorted_list hp hs
        refine ⟨rfl, fun j hj => ?_, sortW_grew _ _ _ _ _ _ _ HI.out.2 (Nat.le_refl _), ?_⟩
        · unfold sortWorld
          rw [cell?_grow _ _ _ (by rw [size_putRow]; exact hblk)]
          have := cell?_putRow (encF k) (Go.Sort.ahead wr n) w.heap.size 0 (rowF k) d HO.out (by rw [hd, rowF_size]) j (by rw [hd, HN.out]; exact hj)
          rw [Nat.zero_add] at this
          rw [this, getElem!_pos d j (by rw [hd, HN.out]; exact hj)]
          have hl2 : ordTo p i = d.toList.map Fin.val := by rw [← HN.out]; exact hl.symm
          rw [hl2]
          have hj2 : j < d.size := by rw [hd, HN.out]; exact hj
          simp [encF, Array.getElem?_eq_getElem hj2]
        · unfold sortWorld
          have := (grow_grew (putRow (encF k) (Go.Sort.ahead wr n) w.heap.size 0 d) os).size
          rw [size_putRow] at this
          exact Nat.lt_of_lt_of_le hblk this
      clear HSF HCL HO hblk
      go_wp2_with (fail)
      refine HSF2.out.mono ?_
      rintro e w2 ⟨rfl, hc2, hg2, hs2⟩
      have H2 := Lib.hid (And.intro hc2 (And.intro hg2 hs2))
      clear hc2 hg2 hs2
      go_wp2
      go_ret
      exact ⟨w.heap.size, _, rfl, Nat.le_refl _, H2.out.2.2, H2.out.1, H2.out.2.1⟩
end Go.Proofs.YtaeenedjmakelaaDoor
