/- The contracts of slices.Insert at one pair: into the room that there is, at the end, and where there is none. -/
import Derived.Test.YtjibmfignifpcaaDoorPairsO
import Derived.Test.YtjibmfignifpcaaDoorBase
import Derived.Lib.SliceRun
import Derived.Laws.Externs
import Derived.Deep.RegionLaw
namespace Go.Proofs.YtjibmfignifpcaaDoor
open Go.RowKit

/-- A 'copy' whose run is known, as an operation of a region. -/
theorem wp_copyR {P : Program} (w : World) {o : Oper} {a : Act} {K : Act → World → Prop} {Q : Exit → Act → World → Prop} (d s : Operand) (t t' : TypeId)
    (ho : o.op = .call { callee := .builtin .copy, args := #[d, s], argTypes := #[t, t'] }) (v u : Value) (hd : a.eval d = v) (hs : a.eval s = u) {v' : Value} {w' : World}
    (hr : (Builtin.copy_ #[t, t'] o.type #[v, u]).run P w = .ok v' w') (h : K (a.put o.dst v') w') : o.wp P a w K Q := by
  unfold Oper.wp execOp
  simp only [ho, resolve, invoke, builtin, Sem.run_bind, Sem.run_pure, Result.andThen_ok, List.map_toArray, List.map_cons, List.map_nil, hd, hs, hr]
  exact h
theorem wpList_copyR {P : Program} (w : World) {ops : Array Oper} {rest : List Oper} {o : Oper} {a : Act} {Q : Exit → Act → World → Prop} (hgd : o.guard = none) (d s : Operand) (t t' : TypeId)
    (ho : o.op = .call { callee := .builtin .copy, args := #[d, s], argTypes := #[t, t'] }) (v u : Value) (hd : a.eval d = v) (hs : a.eval s = u) {v' : Value} {w' : World}
    (hr : (Builtin.copy_ #[t, t'] o.type #[v, u]).run P w = .ok v' w') (h : wpList P ops Q rest (a.put o.dst v') w') : wpList P ops Q (o :: rest) a w :=
  wpList_plain hgd fun _ hK => wp_copyR w d s t t' ho v u hd hs hr (hK _ _ h)
theorem step_copyR {P : Program} {ops : Array Oper} {o : Oper} {a : Act} {w : World} {K : Act → World → Prop} {Q : Exit → Act → World → Prop} {E : Prop}
    (hg : o.guard = none) (d x : Operand) (dT sT : TypeId) (hop : o.op = Op.call { callee := Callee.builtin Builtin.copy, args := #[d, x], argTypes := #[dT, sT] })
    (v u : Value) (hd : a.eval d = v) (hx : a.eval x = u) {v' : Value} {w' : World} (hr : (Builtin.copy_ #[dT, sT] o.type #[v, u]).run P w = .ok v' w') (hK : K (a.put o.dst v') w') :
    if Region.wanted o (yielded ops a.tmps) = true then Oper.wp P o a w K Q else E := by
  have hw : Region.wanted o (yielded ops a.tmps) = true := by simp [Region.wanted, hg]
  rw [if_pos hw]
  exact wp_copyR w d x dT sT hop v u hd hx hr hK

theorem infoPair : (Tryd.prog.info? 52).map (fun i => (i.zero, i.size, i.bytes)) = some (some (.agg #[.int .i64 0, .int .i64 0]), 2, 16) := by kernel_rfl

/-- The item that is put in, in a block of its own. -/
def ItemAt (w : World) (vb : Nat) (x y : Int) : Prop := w.heap[vb]? = some (.cells #[.int .i64 x, .int .i64 y] 52 (0, 0))
theorem ItemAt.cells {w : World} {vb : Nat} {x y : Int} (h : ItemAt w vb x y) (j : Nat) (v : Value) (hj : [Value.int .i64 x, .int .i64 y][j]? = some v) : w.cell? (Addr.add ⟨vb, 0, none⟩ j) = some v := by
  rw [Addr.add_lit, Nat.zero_add]
  have h' : w.heap[vb]? = _ := h
  rcases j with _ | _ | j
  · simpa [World.cell?, h'] using hj
  · simpa [World.cell?, h'] using hj
  · simp at hj

set_option maxRecDepth 100000 in
set_option maxHeartbeats 4000000 in
theorem insert_shift (g o c k n vb : Nat) (q : List (Int × Int)) (x y : Int) (w : World) (hP : PairsO w g o c 52 q) (hn : q.length = n) (hk : k < n) (hroom : n + 1 ≤ c) (hc63 : c ≤ 9223372036854775807) (hv : ItemAt w vb x y) (hne : vb ≠ g) :
    Calls Tryd.prog 93 #[.slice (some ⟨g, o, none⟩) n c, .int .i64 k, .slice (some ⟨vb, 0, none⟩) 1 1] w
      fun e w' => e = .returned (.slice (some ⟨g, o, none⟩) (n + 1) c) ∧ PairsO w' g o c 52 (q.take k ++ (x, y) :: q.drop k) ∧ Within g (g + 1) w w' := by
  obtain ⟨i, hi1, hi2, hi3, hi4⟩ := info_parts infoPair
  have hsz : (Tryd.prog.info? 52).map (·.size) = some 2 := by rw [hi1]; simp [hi3]
  obtain ⟨ns, hs1, hs2⟩ := hP.shape
  have hfz := hP.frozen
  have hcells := hP.cells
  obtain ⟨A, Z, h1, h2, h3, h4⟩ := hP
  have hl1 : (flatP (q.take k)).length = 2 * k := by rw [flatP_length, List.length_take]; omega
  have hl2 : (flatP (q.drop k)).length = 2 * (n - k) := by rw [flatP_length, List.length_drop, hn]
  have hZ : 2 ≤ Z.length := by omega
  have hov : ∀ lb cb, (callFunc 104 #[.slice (some ⟨vb, 0, none⟩) 1 1, .slice (some ⟨g, o + (k + 1) * 2, none⟩) lb cb]).run Tryd.prog w = .ok (.value (.bool false)) w := fun lb cb => by
    rw [run_callFunc_extern Tryd.func104 (by kernel_rfl) (by kernel_rfl) (by kernel_rfl) (e := Extern.SlicesOverlaps.overlaps #[47, 47] #[4]) (by kernel_rfl),
      Lib.run_overlaps_apart w 47 4 52 Tryd.underlying47 2 Tryd.sizeOf52 ⟨vb, 0, none⟩ ⟨g, o + (k + 1) * 2, none⟩ 1 1 lb cb hne 52 52 2 ns (by have h' : w.heap[vb]? = _ := hv; simp [World.shape?, h']) hs1 (by omega) (by have h' : w.heap[vb]? = _ := hv; simp [World.frozen?, h']) (by have h' : w.heap[vb]? = _ := hv; simp [World.frozen?, h'])]
    rfl
  have el : A ++ (flatP q ++ Z) = A ++ (flatP (q.take k) ++ flatP (q.drop k) ++ Z) := by rw [← flatP_split]
  rw [el] at h1
  obtain ⟨L0, eL0⟩ : ∃ L0, A ++ (flatP (q.take k) ++ flatP (q.drop k) ++ Z) = L0 := ⟨_, rfl⟩
  have hL0 : L0.length = o + (2 * k + 2 * (n - k) + Z.length) := by rw [← eL0]; simp only [List.length_append, hl1, hl2, h2]
  obtain ⟨F2, eF2⟩ : ∃ F2, flatP (q.drop k) = F2 := ⟨_, rfl⟩
  have hF2 : F2.length = 2 * (n - k) := by rw [← eF2]; exact hl2
  have hone : ∀ v ∈ F2, v.oneCell' = true := by rw [← eF2]; exact flatP_one _
  have hfin := shift_list A (flatP (q.take k)) F2 Z (.int .i64 x) (.int .i64 y) (o + k * 2) (2 * (n - k)) (by omega) hF2 hZ
  rw [eF2] at eL0 h1
  rw [eL0] at hfin h1
  obtain ⟨L1, eL1⟩ : ∃ L1, L0.take (o + k * 2 + 2) ++ F2 ++ L0.drop (o + k * 2 + 2 + 2 * (n - k)) = L1 := ⟨_, rfl⟩
  rw [eL1] at hfin
  have hL1 : L1.length = L0.length := by rw [← eL1]; simp only [List.length_append, List.length_take, List.length_drop, hF2]; omega
  have hsrc : ∀ j v, F2[j]? = some v → w.cell? ((⟨g, o + k * 2, none⟩ : Addr).add j) = some v := fun j v hj => by
    rw [Addr.add_lit, Nat.add_assoc]
    refine hcells _ v ?_
    rw [flatP_split q k, List.getElem?_append_right (by omega), eF2, hl1, show k * 2 + j - 2 * k = j by omega]
    exact hj
  have hcp1 : ∀ ty dc sc, (Builtin.copy_ #[47, 47] ty #[.slice (some ⟨g, o + (k + 1) * 2, none⟩) (n - k) dc, .slice (some ⟨g, o + k * 2, none⟩) (n + 1 - k) sc]).run Tryd.prog w.drew = .ok (goInt (n - k : Nat)) (w.drew.setRow g L1.toArray) := fun ty dc sc => by
    rw [run_copy_rowK w.drew _ _ ty 52 g (o + (k + 1) * 2) (n - k) dc ⟨g, o + k * 2, none⟩ (n + 1 - k) sc L0.toArray _ F2 2 (n - k) Tryd.underlying47 hsz h1 (by simp only [Nat.min_def]; split <;> omega) (by omega) hsrc (by simp only [List.size_toArray]; omega) hone]
    rw [hF2, ← eL1, show o + (k + 1) * 2 = o + k * 2 + 2 by omega]
  obtain ⟨W1, eW1⟩ : ∃ W1, w.drew.setRow g L1.toArray = W1 := ⟨_, rfl⟩
  have hW1 : W1.heap[g]? = some (.cells L1.toArray 52 (0, 0)) := by rw [← eW1]; exact setRow_heap w.drew g _ _ _ _ h1
  have hG1 : Within g (g + 1) w W1 := by rw [← eW1]; exact ((Within.refl _ _ w).drew).trans (within_setRow _)
  have hv1 : ItemAt W1 vb x y := by
    have := hG1.block vb (Array.getElem?_eq_some_iff.1 hv).1 (by omega)
    exact this.trans hv
  have hcp2 : ∀ ty dc, (Builtin.copy_ #[47, 47] ty #[.slice (some ⟨g, o + k * 2, none⟩) (n + 1 - k) dc, .slice (some ⟨vb, 0, none⟩) 1 1]).run Tryd.prog W1 = .ok (goInt (1 : Nat)) (W1.setRow g (L1.take (o + k * 2) ++ [Value.int .i64 x, Value.int .i64 y] ++ L1.drop (o + k * 2 + 2)).toArray) := fun ty dc => by
    rw [run_copy_rowK W1 _ _ ty 52 g (o + k * 2) (n + 1 - k) dc ⟨vb, 0, none⟩ 1 1 L1.toArray _ [.int .i64 x, .int .i64 y] 2 1 Tryd.underlying47 hsz hW1 (by simp only [Nat.min_def]; split <;> omega) (by simp) (fun j v hj => hv1.cells j v hj) (by simp only [List.size_toArray, List.length_cons, List.length_nil]; omega) (by simp [Value.oneCell'])]
    rfl
  rw [hfin] at hcp2
  have hF : Hid (PairsO (W1.setRow g (A ++ (flatP (q.take k) ++ Value.int .i64 x :: Value.int .i64 y :: F2 ++ Z.drop 2)).toArray) g o c 52 (q.take k ++ (x, y) :: q.drop k) ∧ Within g (g + 1) w (W1.setRow g (A ++ (flatP (q.take k) ++ Value.int .i64 x :: Value.int .i64 y :: F2 ++ Z.drop 2)).toArray)) := by
    refine Lib.hid ⟨⟨A, Z.drop 2, ?_, h2, ?_, ?_⟩, hG1.trans (within_setRow _)⟩
    · rw [setRow_heap W1 g _ _ _ _ hW1, flatP_append, ← eF2]; rfl
    · simp only [List.length_append, List.length_cons, List.length_take, List.length_drop, hn]; omega
    · simp only [List.length_append, List.length_cons, List.length_take, List.length_drop, hn]; omega
  obtain ⟨R, eR⟩ : ∃ R, W1.setRow g (A ++ (flatP (q.take k) ++ Value.int .i64 x :: Value.int .i64 y :: F2 ++ Z.drop 2)).toArray = R := ⟨_, rfl⟩
  rw [eR] at hF hcp2
  rw [eW1] at hcp1
  have hz2 : ¬ ((k : Int) = (n : Int)) := by omega
  have hw1 : IntKind.i64.wrap ((k : Int) + 1) = (k : Int) + 1 := by rw [IntKind.wrap_i64]; omega
  have hb1 : (0 : Int) ≤ (k : Int) + 1 := by omega
  have hin : k ≤ n := by omega
  have htn : ((k : Int) + 1).toNat = k + 1 := by omega
  have hb2 : ¬ (c = k + 1) := by omega
  have hb3 : (k : Int) ≤ (n : Int) + 1 := by omega
  have hb4 : ¬ (c = k) := by omega
  clear hi1 hi2 hi3 hi4 hsz hs1 hs2 hfz hcells h1 h2 h3 h4 hl1 hl2 hZ el eL0 hL0 eF2 hF2 hone hfin eL1 hL1 hsrc eW1 hW1 hG1 hv1 eR hv
  go_enter Tryd.func93, Tryd.ntmps93
  go_wp2_with (simp only [hov])
  go_region_law (refine step_copyR rfl _ _ 47 47 rfl _ _ (by simp [Act.eval, Act.put]) (by simp [Act.eval, Act.put]) (hcp1 _ _ _) ?_)
  go_wp2_with (at_builtin; refine wpList_copyR _ rfl _ _ 47 47 rfl _ _ rfl rfl (hcp2 _ _) ?_)
  go_ret
  exact ⟨rfl, hF.out⟩

/-- The item, as what is appended. -/
theorem itemSrc {w : World} {vb : Nat} {x y : Int} (h : ItemAt w vb x y) {z : Nat} (hz : z = 2) : Src Tryd.prog z 47 (.slice (some ⟨vb, 0, none⟩) 1 1) 1 [.int .i64 x, .int .i64 y] w := by
  subst hz
  exact Src.ofSlice w Tryd.underlying47 ⟨vb, 0, none⟩ 1 1 [.int .i64 x, .int .i64 y] rfl (fun j u hj => h.cells j u hj) (by simp [Value.oneCell'])
theorem ins_end (q : List (Int × Int)) (e : Int × Int) (k : Nat) (hk : q.length = k) : q.take k ++ e :: q.drop k = q ++ [e] := by
  subst hk; simp

set_option maxRecDepth 100000 in
set_option maxHeartbeats 4000000 in
theorem insert_end_room (g o c n vb : Nat) (q : List (Int × Int)) (x y : Int) (w : World) (hP : PairsO w g o c 52 q) (hn : q.length = n) (hroom : n + 1 ≤ c) (hc63 : c ≤ 9223372036854775807) (hv : ItemAt w vb x y) :
    Calls Tryd.prog 93 #[.slice (some ⟨g, o, none⟩) n c, .int .i64 n, .slice (some ⟨vb, 0, none⟩) 1 1] w
      fun e w' => e = .returned (.slice (some ⟨g, o, none⟩) (n + 1) c) ∧ PairsO w' g o c 52 (q.take n ++ (x, y) :: q.drop n) ∧ Within g (g + 1) w w' := by
  obtain ⟨i, hi1, hi2, hi3, hi4⟩ := info_parts infoPair
  obtain ⟨A, Z, h1, h2, h3, h4⟩ := hP
  have hl := flatP_length q
  rw [hn] at hl
  have hZ : 2 ≤ Z.length := by omega
  have hrun : ∀ ty, (Builtin.append_ #[47, 47] ty #[.slice (some ⟨g, o, none⟩) n c, .slice (some ⟨vb, 0, none⟩) 1 1]).run Tryd.prog w = _ := fun ty =>
    run_append_room_rowK w 47 47 ty 52 i Tryd.underlying47 hi1 g o n c _ 1 _ (itemSrc hv hi3) hroom _ _ h1 (by simp only [hi3, List.size_toArray, List.length_append, List.length_cons, List.length_nil]; omega)
  have hF : Hid (PairsO (w.setRow g ((A ++ (flatP q ++ Z)).toArray.toList.take (o + n * i.size) ++ [Value.int .i64 x, Value.int .i64 y] ++ (A ++ (flatP q ++ Z)).toArray.toList.drop (o + n * i.size + [Value.int .i64 x, .int .i64 y].length)).toArray) g o c 52 (q.take n ++ (x, y) :: q.drop n) ∧
      Within g (g + 1) w (w.setRow g ((A ++ (flatP q ++ Z)).toArray.toList.take (o + n * i.size) ++ [Value.int .i64 x, Value.int .i64 y] ++ (A ++ (flatP q ++ Z)).toArray.toList.drop (o + n * i.size + [Value.int .i64 x, .int .i64 y].length)).toArray)) := by
    refine Lib.hid ⟨⟨A, Z.drop 2, ?_, h2, ?_, ?_⟩, within_setRow _⟩
    · rw [setRow_heap w g _ _ _ _ h1, ins_end q _ n hn, flatP_append, hi3]
      have e0 : (A ++ (flatP q ++ Z)).toArray.toList = (A ++ flatP q) ++ Z := by simp
      have e1 : o + n * 2 = (A ++ flatP q).length := by rw [List.length_append, hl, h2]; omega
      have e2 : (A ++ flatP q ++ Z).take (A ++ flatP q).length = A ++ flatP q := List.take_left
      have e3 : (A ++ flatP q ++ Z).drop ((A ++ flatP q).length + 2) = Z.drop 2 := List.drop_length_add_append 2
      rw [e0, e1, e2]
      show some (Obj.cells (A ++ flatP q ++ [Value.int .i64 x, .int .i64 y] ++ (A ++ flatP q ++ Z).drop ((A ++ flatP q).length + 2)).toArray _ _) = _
      rw [e3]
      simp [flatP]
    · rw [ins_end q _ n hn]; simp only [List.length_append, List.length_cons, List.length_nil, hn]; omega
    · rw [ins_end q _ n hn]; simp only [List.length_append, List.length_cons, List.length_nil, List.length_drop, hn]; omega
  obtain ⟨R, eR⟩ : ∃ R, w.setRow g ((A ++ (flatP q ++ Z)).toArray.toList.take (o + n * i.size) ++ [Value.int .i64 x, Value.int .i64 y] ++ (A ++ (flatP q ++ Z)).toArray.toList.drop (o + n * i.size + [Value.int .i64 x, .int .i64 y].length)).toArray = R := ⟨_, rfl⟩
  rw [eR] at hrun hF
  clear hi1 hi2 hi3 hi4 h1 h2 h3 h4 hl hZ eR hv
  go_enter Tryd.func93, Tryd.ntmps93
  go_wp2_with (at_builtin; refine Lib.wpList_append_run _ rfl _ _ _ _ rfl _ _ rfl rfl _ _ (hrun _) ?_)
  go_ret
  exact ⟨rfl, hF.out⟩

/-- A new row of pairs. -/
theorem pairs_new (w : World) (o : Nat) (q : List (Int × Int)) (e : Int × Int) (z : Array Value) (hz : z.size = 2) (c m : Nat) (hc : q.length + 1 + m = c) :
    PairsO (w.drew.alloc (.cells ((flatP q ++ [Value.int .i64 e.1, Value.int .i64 e.2]).toArray ++ Builtin.zeroCells z m) o)) w.heap.size 0 c o (q ++ [e]) := by
  refine ⟨[], (Builtin.zeroCells z m).toList, ?_, rfl, by simp; omega, ?_⟩
  · have := heap_alloc_new w.drew (.cells ((flatP q ++ [Value.int .i64 e.1, Value.int .i64 e.2]).toArray ++ Builtin.zeroCells z m) o)
    rw [show w.heap.size = w.drew.heap.size from rfl, this, flatP_append]
    congr 2
    apply Array.ext'
    simp [flatP]
  · have hzz : (Builtin.zeroCells z m).toList.length = m * 2 := by rw [Array.length_toList, size_zeroCells, hz]
    rw [hzz, List.length_append, List.length_singleton]
    omega

set_option maxRecDepth 100000 in
set_option maxHeartbeats 4000000 in
theorem insert_end_grow (base : Option Addr) (n vb : Nat) (q : List (Int × Int)) (x y : Int) (w : World) (hP : (base = none ∧ n = 0) ∨ ∃ g o, base = some ⟨g, o, none⟩ ∧ PairsO w g o n 52 q) (hn : q.length = n) (hlen : n ≤ 1000) (hv : ItemAt w vb x y) :
    Calls Tryd.prog 93 #[.slice base n n, .int .i64 n, .slice (some ⟨vb, 0, none⟩) 1 1] w
      fun e w' => ∃ c, e = .returned (.slice (some ⟨w.heap.size, 0, none⟩) (n + 1) c) ∧ c ≤ 9223372036854775807 ∧ PairsO w' w.heap.size 0 c 52 (q.take n ++ (x, y) :: q.drop n) ∧ Grew w w' := by
  obtain ⟨i, hi1, hi2, hi3, hi4⟩ := info_parts infoPair
  have hl := flatP_length q
  rw [hn] at hl
  have hold : (Builtin.firstCells i.size n (.slice base n n)).run Tryd.prog w.drew = .ok (flatP q).toArray w.drew := by
    rcases hP with ⟨rfl, rfl⟩ | ⟨g, o, rfl, hP⟩
    · rw [List.length_eq_zero_iff.1 hn]
      exact run_firstCells_none w.drew i.size 0 0 0
    · refine run_firstCells_some w.drew i.size n ⟨g, o, none⟩ n n (flatP q) (by rw [hi3, hl]; omega) fun j v hj => ?_
      rw [Addr.add_lit]
      exact hP.cells j v hj
  have hrun : ∀ ty, (Builtin.append_ #[47, 47] ty #[.slice base n n, .slice (some ⟨vb, 0, none⟩) 1 1]).run Tryd.prog w = _ := fun ty =>
    run_append_grow_src w 47 47 ty 52 i _ Tryd.underlying47 hi1 hi2 base n n (flatP q) hold _ 1 _ (itemSrc hv hi3) (by omega) (by omega) (by rw [hi4]; exact growslice_fits (by omega) (by omega))
  have hcm := grownCap_le_maxLen w (n + 1) n 52 (by unfold maxLen; omega)
  have hcg := grownCap_ge w (n + 1) n 52
  obtain ⟨c, ec⟩ : ∃ c, grownCap w (n + 1) n 52 = c := ⟨_, rfl⟩
  rw [ec] at hrun hcm hcg
  have hF := Lib.hid (And.intro (pairs_new w 52 q (x, y) (Value.agg #[.int .i64 0, .int .i64 0]).cells rfl c (c - (n + 1)) (by omega)) ((((Grew.refl w).drew).alloc (.cells ((flatP q ++ [Value.int .i64 x, Value.int .i64 y]).toArray ++ Builtin.zeroCells (Value.agg #[.int .i64 0, .int .i64 0]).cells (c - (n + 1))) 52))))
  obtain ⟨R, eR⟩ : ∃ R, w.drew.alloc (.cells ((flatP q ++ [Value.int .i64 x, Value.int .i64 y]).toArray ++ Builtin.zeroCells (Value.agg #[.int .i64 0, .int .i64 0]).cells (c - (n + 1))) 52) = R := ⟨_, rfl⟩
  rw [eR] at hrun hF
  have hc63 : c ≤ 9223372036854775807 := by unfold maxLen at hcm; omega
  rw [ins_end q _ n hn]
  have hb : base = none ∨ ∃ g o, base = some ⟨g, o, none⟩ := hP.imp (fun h => h.1) fun ⟨g, o, h, _⟩ => ⟨g, o, h⟩
  have hb0 : base = none → n = 0 := fun h => by
    rcases hP with ⟨_, h0⟩ | ⟨g, o, h1, _⟩
    · exact h0
    · rw [h] at h1; cases h1
  clear hi1 hi2 hi3 hi4 hl hold eR hv hcm hcg ec hP
  go_enter Tryd.func93, Tryd.ntmps93
  rcases hb with rfl | ⟨g, o, rfl⟩
  · obtain rfl := hb0 rfl
    go_wp2_with (at_builtin; refine Lib.wpList_append_run _ rfl _ _ _ _ rfl _ _ rfl rfl _ _ (hrun _) ?_)
    go_ret
    exact ⟨c, rfl, hc63, hF.out⟩
  · go_wp2_with (at_builtin; refine Lib.wpList_append_run _ rfl _ _ _ _ rfl _ _ rfl rfl _ _ (hrun _) ?_)
    all_goals
      go_ret
      exact ⟨c, rfl, hc63, hF.out⟩

set_option maxRecDepth 100000 in
set_option maxHeartbeats 4000000 in
theorem insert_grow (g o k n vb : Nat) (q : List (Int × Int)) (x y : Int) (w : World) (hP : PairsO w g o n 52 q) (hn : q.length = n) (hk : k < n) (hlen : n ≤ 1000) (hv : ItemAt w vb x y) :
    Calls Tryd.prog 93 #[.slice (some ⟨g, o, none⟩) n n, .int .i64 k, .slice (some ⟨vb, 0, none⟩) 1 1] w
      fun e w' => ∃ c, e = .returned (.slice (some ⟨w.heap.size, 0, none⟩) (n + 1) c) ∧ c ≤ 9223372036854775807 ∧ PairsO w' w.heap.size 0 c 52 (q.take k ++ (x, y) :: q.drop k) ∧ Grew w w' := by
  obtain ⟨i, hi1, hi2, hi3, hi4⟩ := info_parts infoPair
  have hsz : (Tryd.prog.info? 52).map (·.size) = some 2 := by rw [hi1]; simp [hi3]
  have hl1 : (flatP (q.take k)).length = 2 * k := by rw [flatP_length, List.length_take]; omega
  have hl2 : (flatP (q.drop k)).length = 2 * (n - k) := by rw [flatP_length, List.length_drop, hn]
  have hcells := hP.cells
  have hold : (Builtin.firstCells i.size k (.slice (some ⟨g, o, none⟩) k n)).run Tryd.prog w.drew = .ok (flatP (q.take k)).toArray w.drew := by
    refine run_firstCells_some w.drew i.size k ⟨g, o, none⟩ k n (flatP (q.take k)) (by rw [hi3, hl1]; omega) fun j v hj => ?_
    rw [Addr.add_lit]
    refine hcells j v ?_
    rw [flatP_split q k, List.getElem?_append_left (List.getElem?_eq_some_iff.1 hj).1]
    exact hj
  have hkk : (n : Int) + 1 - (k : Int) = ((n + 1 - k : Nat) : Int) := by omega
  have hrz := fun ty => Lib.run_append_grow_zeros w 47 3 ty 52 i _ .i64 .i64 Tryd.underlying47 Tryd.underlying3 hi1 hi2 (some ⟨g, o, none⟩) k n (flatP (q.take k)) hold (n + 1 - k) (by omega) (by omega) (by omega) (by omega) (by rw [hi4]; omega) (by rw [hi4]; exact growslice_fits (by omega) (by omega))
  rw [← hkk] at hrz
  rw [show k + (n + 1 - k) = n + 1 by omega] at hrz
  have hcm := grownCap_le_maxLen w (n + 1) n 52 (by unfold maxLen; omega)
  have hcg := grownCap_ge w (n + 1) n 52
  obtain ⟨c, ec⟩ : ∃ c, grownCap w (n + 1) n 52 = c := ⟨_, rfl⟩
  rw [ec] at hrz hcm hcg
  have hc63 : c ≤ 9223372036854775807 := by unfold maxLen at hcm; omega
  obtain ⟨F1, eF1⟩ : ∃ F1, flatP (q.take k) = F1 := ⟨_, rfl⟩
  obtain ⟨F2, eF2⟩ : ∃ F2, flatP (q.drop k) = F2 := ⟨_, rfl⟩
  have hone : ∀ v ∈ F2, v.oneCell' = true := by rw [← eF2]; exact flatP_one _
  have hsrc : ∀ j v, F2[j]? = some v → w.cell? ((⟨g, o + k * 2, none⟩ : Addr).add j) = some v := fun j v hj => by
    rw [Addr.add_lit, Nat.add_assoc]
    refine hcells _ v ?_
    rw [flatP_split q k, List.getElem?_append_right (by omega), eF2, hl1, show k * 2 + j - 2 * k = j by omega]
    exact hj
  rw [eF1] at hl1 hrz
  rw [eF2] at hl2
  obtain ⟨Z, eZ⟩ : ∃ Z, (Builtin.zeroCells (Value.agg #[.int .i64 0, .int .i64 0]).cells (n + 1 - k)).toList ++ (Builtin.zeroCells (Value.agg #[.int .i64 0, .int .i64 0]).cells (c - (n + 1))).toList = Z := ⟨_, rfl⟩
  have hZ : Z.length = 2 * (n + 1 - k) + 2 * (c - (n + 1)) := by
    rw [← eZ, List.length_append, Array.length_toList, Array.length_toList, size_zeroCells, size_zeroCells]
    show (n + 1 - k) * 2 + (c - (n + 1)) * 2 = _
    omega
  have er : F1.toArray ++ Builtin.zeroCells (Value.agg #[.int .i64 0, .int .i64 0]).cells (n + 1 - k) ++ Builtin.zeroCells (Value.agg #[.int .i64 0, .int .i64 0]).cells (c - (n + 1)) = (F1 ++ Z).toArray := by
    apply Array.ext'
    rw [← eZ]
    simp
  rw [er] at hrz
  obtain ⟨W1, eW1⟩ : ∃ W1, w.drew.alloc (.cells (F1 ++ Z).toArray 52) = W1 := ⟨_, rfl⟩
  have hW1 : W1.heap[w.heap.size]? = some (.cells (F1 ++ Z).toArray 52 (0, 0)) := by rw [← eW1]; exact heap_alloc_new w.drew _
  have hg1 : Grew w W1 := by rw [← eW1]; exact ((Grew.refl w).drew).alloc _
  rw [eW1] at hrz
  have hv1 : ItemAt W1 vb x y := (hg1.block (Array.getElem?_eq_some_iff.1 hv).1).trans hv
  have hfin := grow_list F1 F2 Z (.int .i64 x) (.int .i64 y) (k * 2) (2 * (n - k)) (by omega) hl2
  obtain ⟨L1, eL1⟩ : ∃ L1, (F1 ++ Z).take (k * 2) ++ [Value.int .i64 x, Value.int .i64 y] ++ (F1 ++ Z).drop (k * 2 + 2) = L1 := ⟨_, rfl⟩
  rw [eL1] at hfin
  have hL1 : L1.length = 2 * k + Z.length := by rw [← eL1]; simp only [List.length_append, List.length_take, List.length_drop, List.length_cons, List.length_nil, hl1]; omega
  have hcpA : ∀ ty dc, (Builtin.copy_ #[47, 47] ty #[.slice (some ⟨w.heap.size, k * 2, none⟩) (n + 1 - k) dc, .slice (some ⟨vb, 0, none⟩) 1 1]).run Tryd.prog W1 = .ok (goInt (1 : Nat)) (W1.setRow w.heap.size L1.toArray) := fun ty dc => by
    rw [run_copy_rowK W1 _ _ ty 52 w.heap.size (k * 2) (n + 1 - k) dc ⟨vb, 0, none⟩ 1 1 (F1 ++ Z).toArray _ [.int .i64 x, .int .i64 y] 2 1 Tryd.underlying47 hsz hW1 (by simp only [Nat.min_def]; split <;> omega) (by simp) (fun j v hj => hv1.cells j v hj) (by simp only [List.size_toArray, List.length_append, List.length_cons, List.length_nil]; omega) (by simp [Value.oneCell'])]
    rw [← eL1]
    rfl
  obtain ⟨W2, eW2⟩ : ∃ W2, W1.setRow w.heap.size L1.toArray = W2 := ⟨_, rfl⟩
  have hW2 : W2.heap[w.heap.size]? = some (.cells L1.toArray 52 (0, 0)) := by rw [← eW2]; exact setRow_heap W1 w.heap.size _ _ _ _ hW1
  have hg2 : Grew w W2 := by rw [← eW2]; exact Within.grew hg1 (within_setRow _) (Nat.le_refl _)
  rw [eW2] at hcpA
  have hcpB : ∀ ty dc sc, (Builtin.copy_ #[47, 47] ty #[.slice (some ⟨w.heap.size, (k + 1) * 2, none⟩) (n - k) dc, .slice (some ⟨g, o + k * 2, none⟩) (n - k) sc]).run Tryd.prog W2.drew = .ok (goInt (n - k : Nat)) (W2.drew.setRow w.heap.size (L1.take (k * 2 + 2) ++ F2 ++ L1.drop (k * 2 + 2 + 2 * (n - k))).toArray) := fun ty dc sc => by
    rw [run_copy_rowK W2.drew _ _ ty 52 w.heap.size ((k + 1) * 2) (n - k) dc ⟨g, o + k * 2, none⟩ (n - k) sc L1.toArray _ F2 2 (n - k) Tryd.underlying47 hsz hW2 (by simp only [Nat.min_def]; split <;> omega) (by omega) (fun j v hj => (hg2.drew).cell (hsrc j v hj)) (by simp only [List.size_toArray]; omega) hone]
    rw [hl2, show (k + 1) * 2 = k * 2 + 2 by omega]
  rw [hfin] at hcpB
  have hF : Hid (PairsO (W2.drew.setRow w.heap.size (F1 ++ (Value.int .i64 x :: Value.int .i64 y :: F2) ++ Z.drop (2 + 2 * (n - k))).toArray) w.heap.size 0 c 52 (q.take k ++ (x, y) :: q.drop k) ∧ Grew w (W2.drew.setRow w.heap.size (F1 ++ (Value.int .i64 x :: Value.int .i64 y :: F2) ++ Z.drop (2 + 2 * (n - k))).toArray)) := by
    refine Lib.hid ⟨⟨[], Z.drop (2 + 2 * (n - k)), ?_, rfl, ?_, ?_⟩, Within.grew hg2.drew (within_setRow _) (Nat.le_refl _)⟩
    · rw [setRow_heap W2.drew w.heap.size _ _ _ _ hW2, flatP_append, ← eF2, ← eF1]; rfl
    · simp only [List.length_append, List.length_cons, List.length_take, List.length_drop, hn]; omega
    · simp only [List.length_append, List.length_cons, List.length_take, List.length_drop, hn]; omega
  obtain ⟨R, eR⟩ : ∃ R, W2.drew.setRow w.heap.size (F1 ++ (Value.int .i64 x :: Value.int .i64 y :: F2) ++ Z.drop (2 + 2 * (n - k))).toArray = R := ⟨_, rfl⟩
  rw [eR] at hF hcpB
  have hz2 : ¬ ((k : Int) = (n : Int)) := by omega
  have hw1 : IntKind.i64.wrap ((k : Int) + 1) = (k : Int) + 1 := by rw [IntKind.wrap_i64]; omega
  have hb1 : (0 : Int) ≤ (k : Int) + 1 := by omega
  have hin : k ≤ n := by omega
  have htn : ((k : Int) + 1).toNat = k + 1 := by omega
  have hGi : ¬ (c = k) := by omega
  have hGim : ¬ (c = k + 1) := by omega
  have hci : ¬ (n = k) := by omega
  have hb3 : (k : Int) ≤ (n : Int) := by omega
  clear hi1 hi2 hi3 hi4 hsz hl1 hl2 hcells hold hkk ec eF1 eF2 hone hsrc eZ hZ er eW1 hW1 hg1 hv1 hfin eL1 hL1 eW2 hW2 hg2 eR hv hP hcm
  go_enter Tryd.func93, Tryd.ntmps93
  go_wp2_with (first
    | (at_builtin; refine Lib.wpList_append_run _ rfl _ _ _ _ rfl _ _ rfl rfl _ _ (hrz _) ?_)
    | (at_builtin; refine wpList_copyR _ rfl _ _ 47 47 rfl _ _ rfl rfl (hcpA _ _) ?_))
  go_region_law (refine step_copyR rfl _ _ 47 47 rfl _ _ (by simp [Act.eval, Act.put]) (by simp [Act.eval, Act.put]) (hcpB _ _ _) ?_)
  go_wp2
  go_ret
  exact ⟨c, rfl, hc63, hF.out⟩
end Go.Proofs.YtjibmfignifpcaaDoor
