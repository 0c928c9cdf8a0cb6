/- Areas, streams in memory, orders in rounds, what is told, as lists and cells. -/
import Derived.Test.YtekhjjcgkmnmlaaDoorFlowW
import Derived.Test.YtekhjjcgkmnmlaaDoorBase
import Derived.Test.YtekhjjcgkmnmlaaDoorShapes2
/- How often ways go over cells, as a program counts it. -/
namespace Go.Proofs.YtekhjjcgkmnmlaaDoor

/-- How many of the first i ways go over x. -/
def areaP (ts : List Int) (i x : Nat) : Int := ((((List.range i).map fun k => bitN (onL ts k x)).sum : Nat) : Int)
theorem areaP_succ (ts : List Int) (i x : Nat) : areaP ts (i + 1) x = areaP ts i x + (bitN (onL ts i x) : Int) := by
  unfold areaP
  rw [List.range_succ, List.map_append, List.sum_append]
  simp
theorem areaP_all {N : Nat} {ts : List Int} (x : Nat) : areaP ts N x = (runL N ts x : Int) := rfl
theorem areaP_le (ts : List Int) (i x : Nat) : 0 ≤ areaP ts i x ∧ areaP ts i x ≤ i := by
  have h := area_le (N := i) (ts := ts) x
  unfold areaP
  unfold runL at h
  omega
/-- On way i, ahead of the cell X: those ahead of it on the way are counted. -/
structure AreaI (N : Nat) (ts : List Int) (i X : Nat) (out : List Int) : Prop where
  len : out.length = N
  val : ∀ x, x < N → out.getD x 0 + (bitN (onL ts X x) : Int) = areaP ts i x + (bitN (onL ts i x) : Int)
theorem areaI_start {N : Nat} {ts out : List Int} {i : Nat} (hl : out.length = N) (h : ∀ x, x < N → out.getD x 0 = areaP ts i x) : AreaI N ts i i out := ⟨hl, fun x hx => by rw [h x hx]⟩
theorem AreaI.step {N : Nat} {ts out : List Int} {i X Y : Nat} (h : AreaI N ts i X out) (R : Runs N ts) (hX : X < N) (hY : Y < N) (e : ts.getD X 0 = (Y : Int)) : AreaI N ts i Y (out.set X (out.getD X 0 + 1)) := by
  obtain ⟨rk, h1, h2⟩ := R.rank
  refine ⟨by rw [List.length_set]; exact h.len, fun x hx => ?_⟩
  have hv := h.val x hx
  rw [(way_on R hX e).2.2 x] at hv
  rw [getD_set _ _ _ _ (by rw [h.len]; exact hX)]
  by_cases ex : x = X
  · subst ex
    rw [if_pos rfl]
    have hno : onL ts Y x = false := by
      cases hb : onL ts Y x with
      | false => rfl
      | true =>
        have h3 := h2 x Y hX e
        rcases on_rank R h2 (rk Y) Y x hY (Nat.le_refl _) hb with h4 | h4
        · subst h4; omega
        · omega
    rw [hno] at hv ⊢
    simp [bitN] at hv ⊢
    omega
  · rw [if_neg ex]
    have : (X == x) = false := beq_eq_false_iff_ne.2 fun h => ex h.symm
    rw [this, Bool.false_or] at hv
    exact hv
theorem AreaI.last {N : Nat} {ts out : List Int} {i X : Nat} (h : AreaI N ts i X out) (hX : X < N) (e : ts.getD X 0 = -1) : (out.set X (out.getD X 0 + 1)).length = N ∧ ∀ x, x < N → (out.set X (out.getD X 0 + 1)).getD x 0 = areaP ts (i + 1) x := by
  refine ⟨by rw [List.length_set]; exact h.len, fun x hx => ?_⟩
  have hv := h.val x hx
  rw [(way_end e).2.2 x] at hv
  rw [getD_set _ _ _ _ (by rw [h.len]; exact hX), areaP_succ]
  by_cases ex : x = X
  · subst ex
    rw [if_pos rfl]
    have : (x == x) = true := beq_self_eq_true x
    rw [this] at hv
    simp only [bitN, if_true] at hv ⊢
    omega
  · rw [if_neg ex]
    have : (X == x) = false := beq_eq_false_iff_ne.2 fun h => ex h.symm
    rw [this] at hv
    simp only [bitN, Bool.false_eq_true, if_false] at hv ⊢
    omega
theorem AreaI.bd {N : Nat} {ts out : List Int} {i X : Nat} (h : AreaI N ts i X out) (x : Nat) (hx : x < N) (hi : i < N) : -1 ≤ out.getD x 0 ∧ out.getD x 0 ≤ N + 1 := by
  have hv := h.val x hx
  have := areaP_le ts i x
  have b1 : ∀ b, (bitN b : Int) ≤ 1 ∧ 0 ≤ (bitN b : Int) := fun b => by cases b <;> decide
  have := b1 (onL ts X x)
  have := b1 (onL ts i x)
  omega
end Go.Proofs.YtekhjjcgkmnmlaaDoor

/- Streams in memory: structs of three in one block, each with a slice of pointers of its own that grows. -/
namespace Go.Proofs.YtekhjjcgkmnmlaaDoor
open Go.RowKit

def ptr (g s : Nat) : Value := .pointer (some ⟨g, s * 3, none⟩)
/-- Those of the first k cells that run to a cell. -/
def srcK (ts : List Int) (k j : Nat) : List Nat := (List.range k).filter fun s => ts.getD s 0 == (j : Int)
theorem srcK_succ (ts : List Int) (k j : Nat) : srcK ts (k + 1) j = srcK ts k j ++ if ts.getD k 0 = (j : Int) then [k] else [] := by
  unfold srcK
  rw [List.range_succ, List.filter_append]
  congr 1
  by_cases h : ts.getD k 0 = (j : Int)
  · rw [if_pos h, List.filter_cons_of_pos (by rw [h]; exact beq_self_eq_true _), List.filter_nil]
  · rw [if_neg h, List.filter_cons_of_neg (by simpa using h), List.filter_nil]
theorem srcK_len (ts : List Int) (k j : Nat) : (srcK ts k j).length ≤ k := by
  unfold srcK
  exact Nat.le_trans (List.length_filter_le _ _) (by simp)
theorem srcK_lt {ts : List Int} {k j s : Nat} (h : s ∈ srcK ts k j) : s < k := by
  unfold srcK at h
  rw [List.mem_filter, List.mem_range] at h
  exact h.1

/-- 'append(s, p)' at a slice of pointers of the call's own. -/
theorem wpList_append_ptr {P : Program} {w : World} {ops : Array Oper} {rest : List Oper} {o : Oper} {a : Act} {Q : Exit → Act → World → Prop} (hgd : o.guard = none) (s x : Operand) (t : TypeId)
    (ho : o.op = .call { callee := .builtin .append, args := #[s, x], argTypes := #[t, t] }) {E : TypeId} (ht : P.underlying t = some (.slice E))
    (hinfo : (P.info? E).map (fun i => (i.zero, i.size, i.bytes)) = some (some (.pointer none), 1, 8)) {lo n nb : Nat} {v u : Value} {xs : List Value} (hs : a.eval s = v) (hx : a.eval x = .slice (some ⟨nb, 0, none⟩) 1 1) (hnb : nb = w.heap.size)
    (hv : w.ownsRow lo E 1 v n xs) (hu : u.oneCell' = true) (hlen : n + 1 ≤ 1000000) (hbase : lo ≤ w.heap.size)
    (h : ∀ v' w', w'.ownsRow lo E 1 v' (n + 1) (xs ++ [u]) → (∃ g c, v' = .slice (some ⟨g, 0, none⟩) (n + 1) c) → (∀ b, v'.ownBlock = some b → v.ownBlock = some b ∨ w.heap.size ≤ b) → w.heap.size ≤ w'.heap.size →
      (∀ lo' hi', (∀ b, v.ownBlock = some b → lo' ≤ b ∧ b < hi') → Within lo' hi' w w') → wpList P ops Q rest (a.put o.dst v') w') : wpList P ops Q (o :: rest) a (w.alloc (.cells #[u] E)) := by
  subst hnb
  obtain ⟨i, hi1, hi2, hi3, hi4⟩ := info_parts hinfo
  refine wpList_append_own_at _ hgd s x t ho lo E i (.pointer none) 1 8 ht hi1 hi2 hi3 hi4 rfl (by decide) v n xs hs (hv.alloc _) ⟨w.heap.size, 0, none⟩ 1 1 [u] hx rfl (cell_one_new _ _ _) (by simpa using hu) (by unfold maxLen; omega) (by omega) (by simp; omega) ?_
  intro v' w' hown hg _ hat
  have hsz : w.heap.size ≤ w'.heap.size := Nat.le_trans (by simp) hg.size
  refine h v' w' hown ?_ ?_ hsz ?_
  · rcases hown.2 with ⟨_, h0⟩ | ⟨g, cap, cur, e, _⟩
    · omega
    · exact ⟨g, cap, e⟩
  · intro b hb
    rcases hat with h1 | h1
    · rw [h1] at hb; exact .inl hb
    · rw [h1] at hb; simp at hb; exact .inr (by omega)
  · intro lo' hi' hb
    exact (((Grew.refl w).alloc _).within lo' hi').trans (grownBy_within hg hb)

/-- What the field 'to' holds. -/
def toV (g : Nat) (ts : List Int) (k j : Nat) : Value := if j < k ∧ 0 ≤ ts.getD j 0 then ptr g (ts.getD j 0).toNat else .pointer none
/-- The block of streams, the first k of which are told; F: their slices of those that run to them. -/
structure StrI (g N lo : Nat) (E : TypeId) (ts : List Int) (k : Nat) (F : Nat → Value) (W : World) : Prop where
  lt : lo ≤ g ∧ g < W.heap.size
  c0 : ∀ j, j < N → W.cell? ⟨g, j * 3, none⟩ = some (.int .i64 (if j < k then (j : Int) else 0))
  c1 : ∀ j, j < N → W.cell? ⟨g, j * 3 + 1, none⟩ = some (toV g ts k j)
  c2 : ∀ j, j < N → W.cell? ⟨g, j * 3 + 2, none⟩ = some (F j)
  fr : ∀ x, W.frozen? ⟨g, x, none⟩ = false
  own : ∀ j, j < N → W.ownsRow lo E 1 (F j) (srcK ts k j).length ((srcK ts k j).map (ptr g))
  ap : ∀ i j, i < j → j < N → ∀ b, (F i).ownBlock = some b → (F j).ownBlock ≠ some b
  ng : ∀ j, j < N → (F j).ownBlock ≠ some g
theorem StrI.within {g N lo : Nat} {E : TypeId} {ts : List Int} {k : Nat} {F : Nat → Value} {W W' : World} (h : StrI g N lo E ts k F W) (hg : Grew W W') : StrI g N lo E ts k F W' :=
  ⟨⟨h.lt.1, Nat.lt_of_lt_of_le h.lt.2 hg.size⟩, fun j hj => hg.cell (h.c0 j hj), fun j hj => hg.cell (h.c1 j hj), fun j hj => hg.cell (h.c2 j hj),
   fun x => by
    have := h.fr x
    unfold World.frozen? at this ⊢
    rw [hg.block h.lt.2]
    exact this,
   fun j hj => ownsRow_block (h.own j hj) fun b e => hg.block (World.ownsRow.lt (h.own j hj) b e).2, h.ap, h.ng⟩
/-- The cell is told. -/
theorem StrI.cellOf {g N lo : Nat} {E : TypeId} {ts : List Int} {k : Nat} {F : Nat → Value} {W : World} (h : StrI g N lo E ts k F W) (hk : k < N) (ht : ts.getD k 0 < 0) :
    StrI g N lo E ts (k + 1) F (W.setCell ⟨g, k * 3, none⟩ (.int .i64 k)) := by
  have hne : ∀ j : Nat, ts.getD k 0 ≠ (j : Int) := fun j => by omega
  have hsk : ∀ j, srcK ts (k + 1) j = srcK ts k j := fun j => by rw [srcK_succ, if_neg (hne j), List.append_nil]
  refine ⟨⟨h.lt.1, by simpa using h.lt.2⟩, fun j hj => ?_, fun j hj => ?_, fun j hj => ?_, fun x => by rw [World.frozen?_setCell]; exact h.fr x, fun j hj => ?_, h.ap, h.ng⟩
  · by_cases e : j = k
    · subst e
      rw [World.cell?_setCell_same _ _ _ (h.c0 j hj), if_pos (by omega)]
    · rw [World.cell?_setCell_other _ _ _ _ (by simp <;> omega), h.c0 j hj]
      by_cases h1 : j < k
      · rw [if_pos h1, if_pos (by omega)]
      · rw [if_neg h1, if_neg (by omega)]
  · rw [World.cell?_setCell_other _ _ _ _ (by simp <;> omega), h.c1 j hj]
    unfold toV
    by_cases e : j = k
    · subst e
      rw [if_neg (by omega), if_neg (by omega)]
    · by_cases h1 : j < k ∧ 0 ≤ ts.getD j 0
      · rw [if_pos h1, if_pos ⟨by omega, h1.2⟩]
      · rw [if_neg h1, if_neg (by omega)]
  · rw [World.cell?_setCell_other _ _ _ _ (by simp <;> omega)]; exact h.c2 j hj
  · rw [hsk]
    exact ownsRow_block (h.own j hj) fun b e => Below.heap_setCell _ _ _ _ (fun e2 => h.ng j hj (by rw [e, e2]))
/-- The cell is told, and where it runs to; the slice of that one grew, and is put back. -/
theorem StrI.to {g N lo T : Nat} {E : TypeId} {ts : List Int} {k : Nat} {F : Nat → Value} {W w' : World} {v' : Value} (h : StrI g N lo E ts k F W) (hk : k < N) (hT : T < N) (ht : ts.getD k 0 = (T : Int))
    (hown : w'.ownsRow lo E 1 v' ((srcK ts k T).length + 1) ((srcK ts k T).map (ptr g) ++ [ptr g k])) (hat : ∀ b, v'.ownBlock = some b → (F T).ownBlock = some b ∨ W.heap.size ≤ b)
    (hsz : W.heap.size ≤ w'.heap.size) (hW : ∀ b, b < W.heap.size → (F T).ownBlock ≠ some b → w'.heap[b]? = ((W.setCell ⟨g, k * 3, none⟩ (.int .i64 k)).setCell ⟨g, k * 3 + 1, none⟩ (ptr g T)).heap[b]?) :
    StrI g N lo E ts (k + 1) (fun j => if j = T then v' else F j) (w'.setCell ⟨g, T * 3 + 2, none⟩ v') := by
  have hgb : w'.heap[g]? = ((W.setCell ⟨g, k * 3, none⟩ (.int .i64 k)).setCell ⟨g, k * 3 + 1, none⟩ (ptr g T)).heap[g]? := hW g h.lt.2 (h.ng T hT)
  have hcell : ∀ x u, ((W.setCell ⟨g, k * 3, none⟩ (.int .i64 k)).setCell ⟨g, k * 3 + 1, none⟩ (ptr g T)).cell? ⟨g, x, none⟩ = some u → w'.cell? ⟨g, x, none⟩ = some u := fun x u hx => (World.cell?_of_block (w := (W.setCell ⟨g, k * 3, none⟩ (.int .i64 k)).setCell ⟨g, k * 3 + 1, none⟩ (ptr g T)) hgb).trans hx
  have d0 : ∀ j, j < N → w'.cell? ⟨g, j * 3, none⟩ = some (.int .i64 (if j < k + 1 then (j : Int) else 0)) := fun j hj => by
    refine hcell _ _ ?_
    rw [World.cell?_setCell_other _ _ _ _ (by simp <;> omega)]
    by_cases e : j = k
    · subst e
      rw [World.cell?_setCell_same _ _ _ (h.c0 j hj), if_pos (by omega)]
    · rw [World.cell?_setCell_other _ _ _ _ (by simp <;> omega), h.c0 j hj]
      by_cases h1 : j < k
      · rw [if_pos h1, if_pos (by omega)]
      · rw [if_neg h1, if_neg (by omega)]
  have d1 : ∀ j, j < N → w'.cell? ⟨g, j * 3 + 1, none⟩ = some (toV g ts (k + 1) j) := fun j hj => by
    refine hcell _ _ ?_
    by_cases e : j = k
    · subst e
      have hc : (W.setCell ⟨g, j * 3, none⟩ (.int .i64 j)).cell? ⟨g, j * 3 + 1, none⟩ = some (toV g ts j j) := by
        rw [World.cell?_setCell_other _ _ _ _ (by simp)]; exact h.c1 j hj
      rw [World.cell?_setCell_same _ _ _ hc]
      unfold toV
      rw [if_pos ⟨by omega, by omega⟩, ht, Int.toNat_natCast]
    · rw [World.cell?_setCell_other _ _ _ _ (by simp <;> omega), World.cell?_setCell_other _ _ _ _ (by simp <;> omega), h.c1 j hj]
      unfold toV
      by_cases h1 : j < k ∧ 0 ≤ ts.getD j 0
      · rw [if_pos h1, if_pos ⟨by omega, h1.2⟩]
      · rw [if_neg h1, if_neg (by omega)]
  have d2 : ∀ j, j < N → w'.cell? ⟨g, j * 3 + 2, none⟩ = some (F j) := fun j hj => by
    refine hcell _ _ ?_
    rw [World.cell?_setCell_other _ _ _ _ (by simp <;> omega), World.cell?_setCell_other _ _ _ _ (by simp <;> omega)]
    exact h.c2 j hj
  have hv' : v'.ownBlock ≠ some g := fun e => by
    rcases hat g e with h1 | h1
    · exact h.ng T hT h1
    · have := h.lt.2; omega
  have hold : ∀ j, j < N → j ≠ T → ∀ b, (F j).ownBlock = some b → (w'.setCell ⟨g, T * 3 + 2, none⟩ v').heap[b]? = W.heap[b]? := fun j hj hne b hb => by
    have hbg : b ≠ g := fun e => h.ng j hj (by rw [hb, e])
    have hbT : (F T).ownBlock ≠ some b := fun e => by
      rcases Nat.lt_or_gt_of_ne hne with h1 | h1
      · exact h.ap j T h1 hT b hb e
      · exact h.ap T j h1 hj b e hb
    have hbl := (World.ownsRow.lt (h.own j hj) b hb).2
    rw [Below.heap_setCell _ _ _ _ hbg, hW b hbl hbT, Below.heap_setCell _ _ _ _ hbg, Below.heap_setCell _ _ _ _ hbg]
  refine ⟨⟨h.lt.1, by simpa using Nat.lt_of_lt_of_le h.lt.2 hsz⟩, fun j hj => ?_, fun j hj => ?_, fun j hj => ?_, fun x => ?_, fun j hj => ?_, fun i j hij hj b hb => ?_, fun j hj => ?_⟩
  · rw [World.cell?_setCell_other _ _ _ _ (by simp <;> omega)]; exact d0 j hj
  · rw [World.cell?_setCell_other _ _ _ _ (by simp <;> omega)]; exact d1 j hj
  · by_cases e : j = T
    · subst e
      rw [World.cell?_setCell_same _ _ _ (d2 j hj), if_pos rfl]
    · rw [World.cell?_setCell_other _ _ _ _ (by simp <;> omega), if_neg e]; exact d2 j hj
  · rw [World.frozen?_setCell]
    have h1 : ((W.setCell ⟨g, k * 3, none⟩ (.int .i64 k)).setCell ⟨g, k * 3 + 1, none⟩ (ptr g T)).frozen? ⟨g, x, none⟩ = false := by
      rw [World.frozen?_setCell, World.frozen?_setCell]; exact h.fr x
    exact (World.frozen?_of_block (w := (W.setCell ⟨g, k * 3, none⟩ (.int .i64 k)).setCell ⟨g, k * 3 + 1, none⟩ (ptr g T)) hgb).trans h1
  · by_cases e : j = T
    · subst e
      simp only [if_true]
      rw [srcK_succ, if_pos ht, List.length_append, List.map_append]
      exact ownsRow_block hown fun b e2 => Below.heap_setCell _ _ _ _ (fun e3 => hv' (by rw [e2, e3]))
    · simp only [e, if_false]
      rw [srcK_succ, if_neg (by omega), List.append_nil]
      exact ownsRow_block (h.own j hj) fun b e2 => hold j hj e b e2
  · have ho : ∀ j, j < N → j ≠ T → ∀ b, (F j).ownBlock = some b → v'.ownBlock ≠ some b := fun j hj hne b hb e => by
      rcases hat b e with h1 | h1
      · rcases Nat.lt_or_gt_of_ne hne with h2 | h2
        · exact h.ap j T h2 hT b hb h1
        · exact h.ap T j h2 hj b h1 hb
      · have := (World.ownsRow.lt (h.own j hj) b hb).2; omega
    by_cases ei : i = T
    · simp only [ei, if_true] at hb
      have ej : j ≠ T := by omega
      simp only [ej, if_false]
      exact fun e => ho j hj ej b e hb
    · simp only [ei, if_false] at hb
      by_cases ej : j = T
      · simp only [ej, if_true]
        exact ho i (by omega) ei b hb
      · simp only [ej, if_false]
        exact h.ap i j hij hj b hb
  · by_cases e : j = T
    · simp only [e, if_true]; exact hv'
    · simp only [e, if_false]; exact h.ng j hj

/-- The streams, as they are read. -/
structure StrV (g N : Nat) (ts : List Int) (W : World) : Prop where
  c0 : ∀ j, j < N → W.cell? ⟨g, j * 3, none⟩ = some (.int .i64 (j : Int))
  c1 : ∀ j, j < N → W.cell? ⟨g, j * 3 + 1, none⟩ = some (if 0 ≤ ts.getD j 0 then ptr g (ts.getD j 0).toNat else .pointer none)
  c2 : ∀ j, j < N → ∃ a c b, W.cell? ⟨g, j * 3 + 2, none⟩ = some (.slice a (srcL ts j).length c) ∧ ∀ s, s < (srcL ts j).length → a = some ⟨b, 0, none⟩ ∧ W.cell? ⟨b, s, none⟩ = some (ptr g ((srcL ts j).getD s 0))
theorem StrV.grew {g N : Nat} {ts : List Int} {W W' : World} (h : StrV g N ts W) (hg : Grew W W') : StrV g N ts W' :=
  ⟨fun j hj => hg.cell (h.c0 j hj), fun j hj => hg.cell (h.c1 j hj), fun j hj => by
    obtain ⟨a, c, b, h1, h2⟩ := h.c2 j hj
    exact ⟨a, c, b, hg.cell h1, fun s hs => ⟨(h2 s hs).1, hg.cell (h2 s hs).2⟩⟩⟩
theorem StrI.read {g N lo : Nat} {E : TypeId} {ts : List Int} {F : Nat → Value} {W : World} (h : StrI g N lo E ts N F W) (hl : ts.length = N) : StrV g N ts W := by
  refine ⟨fun j hj => ?_, fun j hj => ?_, fun j hj => ?_⟩
  · rw [h.c0 j hj, if_pos hj]
  · rw [h.c1 j hj]
    unfold toV
    by_cases h1 : 0 ≤ ts.getD j 0
    · rw [if_pos ⟨hj, h1⟩, if_pos h1]
    · rw [if_neg (by omega), if_neg h1]
  · have hs : srcL ts j = srcK ts N j := by unfold srcL srcK; rw [hl]
    have ho := h.own j hj
    rw [hs, h.c2 j hj]
    rcases ho.2 with ⟨e, h0⟩ | ⟨b, cap, cur, e, _⟩
    · rw [e]
      exact ⟨none, 0, 0, by rw [h0], fun s hs => by omega⟩
    · rw [e] at ho ⊢
      refine ⟨_, _, b, rfl, fun s hs => ⟨rfl, ?_⟩⟩
      rw [World.ownsRow.cellAt ho s (by omega)]
      simp [hs]
end Go.Proofs.YtekhjjcgkmnmlaaDoor

/- Rounds over cells that tell a number of each one out of those that run to it. -/
namespace Go.Proofs.YtekhjjcgkmnmlaaDoor

theorem srcK_all {ts : List Int} {N : Nat} (hl : ts.length = N) (j : Nat) : srcK ts N j = srcL ts j := by unfold srcL srcK; rw [hl]
/-- What is gathered of the first k cells that run to i. -/
def gath (os ts : List Int) (k i : Nat) : Int × Int := ((srcK ts k i).map fun s => os.getD s 0).foldl ordStep (0, 0)
def allS (os ts : List Int) (k i : Nat) : Int := ((srcK ts k i).map fun s => os.getD s 0).sum
def readyB (os ts : List Int) (k i : Nat) : Bool := (srcK ts k i).all fun s => decide (0 < os.getD s 0)
theorem gath_yes {os ts : List Int} {k i : Nat} (h : ts.getD k 0 = (i : Int)) : gath os ts (k + 1) i = ordStep (gath os ts k i) (os.getD k 0) ∧ allS os ts (k + 1) i = allS os ts k i + os.getD k 0 ∧ readyB os ts (k + 1) i = (readyB os ts k i && decide (0 < os.getD k 0)) := by
  unfold gath allS readyB
  rw [srcK_succ, if_pos h]
  refine ⟨by rw [List.map_append, List.foldl_append]; rfl, by rw [List.map_append, List.sum_append]; simp, by rw [List.all_append]; simp⟩
theorem gath_no {os ts : List Int} {k i : Nat} (h : ts.getD k 0 ≠ (i : Int)) : gath os ts (k + 1) i = gath os ts k i ∧ allS os ts (k + 1) i = allS os ts k i ∧ readyB os ts (k + 1) i = readyB os ts k i := by
  unfold gath allS readyB
  rw [srcK_succ, if_neg h, List.append_nil]
  exact ⟨rfl, rfl, rfl⟩
/-- What is told of a cell. -/
def tellO (joined : Bool) (p : Int × Int) (s : Int) : Int := if joined then max s 1 else if 1 < p.2 then p.1 + 1 else max p.1 1
def phiO (joined : Bool) (ts : List Int) : Nat → Int := treeL (if joined then gSpring else gOrder) ts
theorem springT_pos {N : Nat} {ts : List Int} (R : Runs N ts) (i : Nat) (hi : i < N) : 1 ≤ treeL gSpring ts i := by
  have h1 := order_facts R i hi
  have := two_pos (treeL gOrder ts i)
  omega
theorem phi_pos {N : Nat} {ts : List Int} (R : Runs N ts) (joined : Bool) (i : Nat) (hi : i < N) : 1 ≤ phiO joined ts i := by
  unfold phiO
  cases joined
  · exact (order_facts R i hi).1
  · exact springT_pos R i hi
theorem phi_le {N : Nat} {ts : List Int} (R : Runs N ts) (joined : Bool) (i : Nat) (hi : i < N) : phiO joined ts i ≤ N := by
  have h1 := spring_tree R i hi
  have h2 := spring_le R i
  have h3 := area_le (N := N) (ts := ts) i
  have h4 := order_facts R i hi
  unfold phiO
  cases joined
  · have hlt : ∀ o : Int, 1 ≤ o → o ≤ two o := fun o ho => by
      obtain ⟨n, rfl⟩ : ∃ n : Nat, o = n + 1 := ⟨(o - 1).toNat, by omega⟩
      clear ho
      induction n with
      | zero => decide
      | succ n ih =>
        have := two_succ (o := (n : Int) + 1) (by omega)
        have e : ((n + 1 : Nat) : Int) + 1 = (n : Int) + 1 + 1 := by omega
        rw [e, this]
        omega
    have h5 := hlt _ h4.1
    show treeL gOrder ts i ≤ N
    omega
  · show treeL gSpring ts i ≤ N
    omega
theorem sum_ge : ∀ l : List Int, (∀ x, x ∈ l → 1 ≤ x) → l ≠ [] → 1 ≤ l.sum
  | [], _, h => absurd rfl h
  | [a], h, _ => by simpa using h a (by simp)
  | a :: b :: l, h, _ => by
    have h1 := h a (by simp)
    have h2 := sum_ge (b :: l) (fun x hx => h x (List.mem_cons_of_mem _ hx)) (by simp)
    rw [List.sum_cons]
    omega
theorem fold_ge : ∀ (l : List Int) (p : Int × Int), p.1 ≤ (l.foldl ordStep p).1 ∧ ∀ x, x ∈ l → x ≤ (l.foldl ordStep p).1
  | [], p => ⟨Int.le_refl _, by simp⟩
  | a :: l, p => by
    obtain ⟨h1, h2⟩ := fold_ge l (ordStep p a)
    have h3 : p.1 ≤ (ordStep p a).1 ∧ a ≤ (ordStep p a).1 := by
      unfold ordStep
      split
      · exact ⟨by dsimp only; omega, Int.le_refl _⟩
      · split
        · exact ⟨Int.le_refl _, by dsimp only; omega⟩
        · exact ⟨Int.le_refl _, by omega⟩
    rw [List.foldl_cons]
    refine ⟨by omega, fun x hx => ?_⟩
    rcases List.mem_cons.1 hx with rfl | hx
    · omega
    · exact h2 x hx
/-- Out of what is right of those that run to it, what is told is right. -/
theorem tell_right {N : Nat} {ts os : List Int} (R : Runs N ts) (joined : Bool) {i : Nat} (hi : i < N) (h : ∀ s, s ∈ srcL ts i → os.getD s 0 = phiO joined ts s) : tellO joined (gath os ts N i) (allS os ts N i) = phiO joined ts i := by
  have hm : (srcL ts i).map (fun s => os.getD s 0) = (srcL ts i).map (phiO joined ts) := List.map_congr_left h
  have hpos : ∀ x, x ∈ (srcL ts i).map (phiO joined ts) → 1 ≤ x := fun x hx => by
    obtain ⟨s, hs, rfl⟩ := List.mem_map.1 hx
    exact phi_pos R joined s (by have := (mem_srcL.1 hs).1; rw [R.len] at this; exact this)
  unfold gath allS
  rw [srcK_all R.len, hm]
  unfold tellO phiO
  cases joined
  · simp only [Bool.false_eq_true, if_false]
    rw [treeL_eq R gOrder hi, gOrder, List.isEmpty_map]
    cases e : srcL ts i with
    | nil => (simp; omega)
    | cons a l =>
      have hge := (fold_ge ((srcL ts i).map (phiO false ts)) (0, 0)).2 (phiO false ts a) (List.mem_map.2 ⟨a, by rw [e]; simp, rfl⟩)
      have h1 := hpos (phiO false ts a) (List.mem_map.2 ⟨a, by rw [e]; simp, rfl⟩)
      have e2 : (a :: l).isEmpty = false := rfl
      rw [e] at hge
      rw [e2]
      simp only [Bool.false_eq_true, if_false]
      have e3 : List.map (treeL (if false = true then gSpring else gOrder) ts) (a :: l) = List.map (treeL gOrder ts) (a :: l) := rfl
      have e4 : List.map (phiO false ts) (a :: l) = List.map (treeL gOrder ts) (a :: l) := rfl
      rw [e4] at hge
      generalize (List.map (treeL gOrder ts) (a :: l)).foldl ordStep (0, 0) = q at *
      by_cases c : 1 < q.2
      · rw [if_pos c, if_pos c]
      · rw [if_neg c, if_neg c]; omega
  · simp only [if_true]
    rw [treeL_eq R gSpring hi, gSpring, List.isEmpty_map]
    cases e : srcL ts i with
    | nil => (simp; omega)
    | cons a l =>
      have hge := sum_ge ((srcL ts i).map (phiO true ts)) hpos (by rw [e]; simp)
      have e2 : (a :: l).isEmpty = false := rfl
      have e4 : List.map (phiO true ts) (a :: l) = List.map (treeL gSpring ts) (a :: l) := rfl
      rw [e, e4] at hge
      rw [e2]
      simp only [Bool.false_eq_true, if_false]
      omega
/-- Round r, ahead of cell i. -/
structure Ords (N : Nat) (ts : List Int) (rk : Nat → Nat) (joined : Bool) (r i : Nat) (os : List Int) : Prop where
  len : os.length = N
  val : ∀ j, j < N → os.getD j 0 = 0 ∨ os.getD j 0 = phiO joined ts j
  old : ∀ j, j < N → N ≤ rk j + r → os.getD j 0 = phiO joined ts j
  now : ∀ j, j < i → j < N → N ≤ rk j + r + 1 → os.getD j 0 = phiO joined ts j
theorem ords_start {N : Nat} {ts : List Int} {rk : Nat → Nat} (joined : Bool) (h1 : ∀ i, i < N → rk i < N) : Ords N ts rk joined 0 0 (List.replicate N 0) :=
  ⟨by simp, fun j hj => .inl (by simp [hj]), fun j hj h => by have := h1 j hj; omega, fun j hj => by omega⟩
theorem Ords.round {N : Nat} {ts os : List Int} {rk : Nat → Nat} {joined : Bool} {r : Nat} (h : Ords N ts rk joined r N os) : Ords N ts rk joined (r + 1) 0 os :=
  ⟨h.len, h.val, fun j hj hr => h.now j hj hj (by omega), fun j hj => by omega⟩
theorem Ords.told {N : Nat} {ts os : List Int} {rk : Nat → Nat} {joined : Bool} {r i : Nat} (h : Ords N ts rk joined r i os) (hi : i < N) (hp : 0 < os.getD i 0) : Ords N ts rk joined r (i + 1) os :=
  ⟨h.len, h.val, h.old, fun j hj hjN hr => by
    by_cases e : j = i
    · subst e
      rcases h.val j hi with h0 | h0
      · omega
      · exact h0
    · exact h.now j (by omega) hjN hr⟩
theorem ready_iff {N : Nat} {ts os : List Int} (hl : ts.length = N) (i : Nat) : readyB os ts N i = true ↔ ∀ s, s ∈ srcL ts i → 0 < os.getD s 0 := by
  unfold readyB
  rw [srcK_all hl, List.all_eq_true]
  simp only [decide_eq_true_eq]
theorem Ords.wait {N : Nat} {ts os : List Int} {rk : Nat → Nat} {joined : Bool} {r i : Nat} (h : Ords N ts rk joined r i os) (R : Runs N ts) (h2 : ∀ (i k : Nat), i < N → ts.getD i 0 = (k : Int) → rk k < rk i) (hn : readyB os ts N i = false) : Ords N ts rk joined r (i + 1) os :=
  ⟨h.len, h.val, h.old, fun j hj hjN hr => by
    by_cases e : j = i
    · subst e
      exfalso
      have : readyB os ts N j = true := (ready_iff R.len j).2 fun s hs => by
        obtain ⟨q1, q2⟩ := mem_srcL.1 hs
        rw [R.len] at q1
        have := h2 s j q1 q2
        rw [h.old s q1 (by omega)]
        have := phi_pos R joined s q1
        omega
      rw [hn] at this
      cases this
    · exact h.now j (by omega) hjN hr⟩
theorem Ords.tell {N : Nat} {ts os : List Int} {rk : Nat → Nat} {joined : Bool} {r i : Nat} (h : Ords N ts rk joined r i os) (hi : i < N) (R : Runs N ts) (hy : readyB os ts N i = true) : Ords N ts rk joined r (i + 1) (os.set i (tellO joined (gath os ts N i) (allS os ts N i))) := by
  have hr : tellO joined (gath os ts N i) (allS os ts N i) = phiO joined ts i := tell_right R joined hi fun s hs => by
    have h1 := (ready_iff R.len i).1 hy s hs
    obtain ⟨q1, _⟩ := mem_srcL.1 hs
    rw [R.len] at q1
    rcases h.val s q1 with h0 | h0
    · omega
    · exact h0
  rw [hr]
  have g : ∀ j, (os.set i (phiO joined ts i)).getD j 0 = if j = i then phiO joined ts i else os.getD j 0 := fun j => getD_set os i j _ (by rw [h.len]; exact hi)
  refine ⟨by rw [List.length_set]; exact h.len, fun j hj => ?_, fun j hj hr => ?_, fun j hj hjN hr => ?_⟩
  · rw [g]
    by_cases e : j = i
    · rw [if_pos e, e]; exact .inr rfl
    · rw [if_neg e]; exact h.val j hj
  · rw [g]
    by_cases e : j = i
    · rw [if_pos e, e]
    · rw [if_neg e]; exact h.old j hj hr
  · rw [g]
    by_cases e : j = i
    · rw [if_pos e, e]
    · rw [if_neg e]; exact h.now j (by omega) hjN hr
theorem Ords.all {N : Nat} {ts os : List Int} {rk : Nat → Nat} {joined : Bool} (h : Ords N ts rk joined N 0 os) : os = (List.range N).map (phiO joined ts) :=
  ext_getD (n := N) h.len (by simp) fun i hi => by rw [h.old i hi (by omega)]; simp [hi]
end Go.Proofs.YtekhjjcgkmnmlaaDoor

/- Numbers told of streams, as rows. -/
namespace Go.Proofs.YtekhjjcgkmnmlaaDoor

theorem tgtsL_len (h : List (List Int)) : (tgtsL h).length = h.length * (h.getD 0 []).length := by rw [tgtsL, tgtsU_len]
/-- What f tells of each cell, in one list. -/
def toldU (f : Nat → Int) (N : Nat) : List Int := (List.range N).map f
theorem toldU_len (f : Nat → Int) (N : Nat) : (toldU f N).length = N := by simp [toldU]
theorem toldU_at (f : Nat → Int) (N i : Nat) (h : i < N) : (toldU f N).getD i 0 = f i := by simp [toldU, h]
theorem toldU_succ (f : Nat → Int) (k : Nat) : toldU f (k + 1) = toldU f k ++ [f k] := by simp [toldU, List.range_succ]
theorem toldU_congr {f g : Nat → Int} {N : Nat} (h : ∀ i, i < N → f i = g i) : toldU f N = toldU g N := List.map_congr_left fun i hi => h i (List.mem_range.1 hi)
/-- The rows of what φ tells of the cells of a grid; none of others. -/
noncomputable def toldX (φ : List Int → Nat → Int) (h : List (List Int)) : List (List Int) := if vGrid h = true then shapeL (toldU (φ (tgtsL h)) (h.length * (h.getD 0 []).length)) (h.getD 0 []).length h.length else []
def phiA (ts : List Int) (i : Nat) : Int := (runL ts.length ts i : Int)
def phiB (ts : List Int) (i : Nat) : Int := (lastL ts i : Int)
def phiL (ts : List Int) (i : Nat) : Int := lenL ts i
theorem toldX_yes {φ : List Int → Nat → Int} {h : List (List Int)} (hg : vGrid h = true) : (toldX φ h).flatten = toldU (φ (tgtsL h)) (h.length * (h.getD 0 []).length) ∧ (toldX φ h).length = h.length := by
  unfold toldX
  rw [if_pos hg]
  exact ⟨shapeL_flat _ _ _ (toldU_len _ _), shapeL_len _ _ _⟩
theorem toldX_no {φ : List Int → Nat → Int} {h : List (List Int)} (hg : vGrid h = false) : toldX φ h = [] := by unfold toldX; rw [hg]; rfl
theorem toldX_zero {φ : List Int → Nat → Int} {h : List (List Int)} : (toldX φ h).length = 0 ↔ vGrid h = false := by
  cases hg : vGrid h with
  | false => rw [toldX_no hg]; simp
  | true =>
    rw [(toldX_yes hg).2]
    have := (Grid.of hg).n1
    simp
    intro e
    rw [e] at this
    simp at this
theorem toldX_total (φ : List Int → Nat → Int) (h : List (List Int)) : total (toldX φ h) ≤ 1000000 := by
  unfold toldX
  by_cases hg : vGrid h = true
  · rw [if_pos hg]; exact shape_grid_total hg _
  · rw [if_neg hg]; simp [total]
end Go.Proofs.YtekhjjcgkmnmlaaDoor
