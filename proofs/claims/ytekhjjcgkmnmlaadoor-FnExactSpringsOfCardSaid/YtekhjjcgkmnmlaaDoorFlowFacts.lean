/- What is told of a flow: no rounds, off at the edge. -/
import Derived.Test.YtekhjjcgkmnmlaaDoorFarM
import Derived.Test.YtekhjjcgkmnmlaaDoorAway
namespace Go.Proofs.YtekhjjcgkmnmlaaDoor
open Go.RowKit

/-- Where water runs from a cell: to one beside it that is lower, or as high and nearer; or off, from the edge. -/
theorem tgt_facts {n m i : Nat} {p ws ds : List Int} (hn : n ≤ 5) (hm : m ≤ 5) (A : Away n m ws ds) (hi : i < n * m) (_W : Level n m p ws) :
    (∃ k : Nat, tgtU ws ds (aroundL n m i) i = k ∧ (k : Int) ∈ aroundL n m i ∧ k < n * m ∧ (ws.getD k 0 < ws.getD i 0 ∨ ws.getD k 0 = ws.getD i 0 ∧ ds.getD k 0 < ds.getD i 0)) ∨ (tgtU ws ds (aroundL n m i) i = -1 ∧ edgeL n m i = true) := by
  have hA := (around_facts hn hm hi).1
  rw [tgtU]
  by_cases hl : lowU ws (aroundL n m i) i (aroundL n m i).length = i
  · rw [if_pos hl, nearU]
    cases hf : (aroundL n m i).find? (fun x => nearB ws ds i x.toNat) with
    | some x =>
      have hx := List.mem_of_find?_eq_some hf
      have hq := List.find?_some hf
      obtain ⟨k, ek⟩ := Int.eq_ofNat_of_zero_le (hA x hx).1
      subst ek
      rw [Int.toNat_natCast, nearB, Bool.and_eq_true, decide_eq_true_eq, decide_eq_true_eq] at hq
      exact .inl ⟨k, rfl, hx, by have := (hA _ hx).2.1; omega, .inr hq⟩
    | none =>
      refine .inr ⟨rfl, ?_⟩
      rw [List.find?_eq_none] at hf
      have h0 : ds.getD i 0 = 0 := by
        by_cases e : ds.getD i 0 = 0
        · exact e
        · obtain ⟨k, h1, h2, h3⟩ := A.step i hi e
          refine absurd ?_ (hf _ h1)
          rw [Int.toNat_natCast, nearB, Bool.and_eq_true, decide_eq_true_eq, decide_eq_true_eq]
          exact ⟨h2, by omega⟩
      rcases (A.zero i hi).1 h0 with h | h
      · exact h
      · exact absurd hl ((low_base hn hm hi).2 h)
  · rw [if_neg hl]
    have h1 := (lowU_le ws (aroundL n m i) i (aroundL n m i).length).2.resolve_left hl
    rcases lowU_mem ws (aroundL n m i) i (aroundL n m i).length (Nat.le_refl _) with h2 | ⟨s, hs, h2⟩
    · exact absurd h2 hl
    · have hmem : (aroundL n m i).getD s 0 ∈ aroundL n m i := by
        rw [List.getD_eq_getElem?_getD, List.getElem?_eq_getElem hs]; exact List.getElem_mem hs
      obtain ⟨k, ek⟩ := Int.eq_ofNat_of_zero_le (hA _ hmem).1
      rw [ek] at hmem h2
      rw [Int.toNat_natCast] at h2
      rw [h2] at h1 ⊢
      exact .inl ⟨k, rfl, hmem, by have := (hA _ hmem).2.1; omega, .inl h1⟩
/-- Numbers below N, each once: N at the most. -/
theorem nodup_few : ∀ (N : Nat) (l : List Nat), l.Nodup → (∀ x, x ∈ l → x < N) → l.length ≤ N
  | 0, l, _, h => by
    cases l with
    | nil => exact Nat.le_refl _
    | cons a l => exact absurd (h a (List.mem_cons_self ..)) (Nat.not_lt_zero _)
  | N + 1, l, hd, h => by
    by_cases hN : N ∈ l
    · have h1 := nodup_few N (l.erase N) (hd.erase N) fun x hx => by
        have h2 := (List.Nodup.mem_erase_iff hd).1 hx
        have := h x h2.2
        omega
      rw [List.length_erase_of_mem hN] at h1
      omega
    · have := nodup_few N l hd fun x hx => by
        have := h x hx
        have : x ≠ N := fun e => hN (by rw [← e]; exact hx)
        omega
      omega
/-- Below in height, or as high and nearer. -/
def Below' (ws ds : List Int) (x v : Nat) : Prop := ws.getD x 0 < ws.getD v 0 ∨ ws.getD x 0 = ws.getD v 0 ∧ ds.getD x 0 < ds.getD v 0
/-- After k steps the cells gone over are k others. -/
def Gone (ws ds : List Int) (N X k : Nat) : Prop := ∃ vs : List Nat, vs.length = k ∧ vs.Nodup ∧ ∀ v, v ∈ vs → v < N ∧ Below' ws ds X v
theorem Gone.few {ws ds : List Int} {N X k : Nat} (h : Gone ws ds N X k) (hX : X < N) : k + 1 ≤ N := by
  obtain ⟨vs, h1, h2, h3⟩ := h
  have := nodup_few N (X :: vs) (List.nodup_cons.2 ⟨fun hx => by
    rcases (h3 X hx).2 with h | ⟨_, h⟩ <;> omega, h2⟩) fun x hx => by
    rcases List.mem_cons.1 hx with rfl | hx
    · exact hX
    · exact (h3 x hx).1
  simp only [List.length_cons] at this
  omega
theorem Gone.next {ws ds : List Int} {N X Y k : Nat} (h : Gone ws ds N X k) (hX : X < N) (hY : Below' ws ds Y X) : Gone ws ds N Y (k + 1) := by
  obtain ⟨vs, h1, h2, h3⟩ := h
  refine ⟨X :: vs, by simp [h1], List.nodup_cons.2 ⟨fun hx => by
    rcases (h3 X hx).2 with h | ⟨_, h⟩ <;> omega, h2⟩, fun v hv => ?_⟩
  rcases List.mem_cons.1 hv with rfl | hv
  · exact ⟨hX, hY⟩
  · refine ⟨(h3 v hv).1, ?_⟩
    have := (h3 v hv).2
    unfold Below' at this hY ⊢
    omega
/-- What the law reads of a flow. -/
structure FlowF (n m N : Nat) (ws ds ts : List Int) : Prop where
  tl : ts.length = N
  wl : ws.length = N
  run : ∀ i, i < N → (∃ k : Nat, ts.getD i 0 = k ∧ (k : Int) ∈ aroundL n m i ∧ k < N ∧ Below' ws ds k i) ∨ (ts.getD i 0 = -1 ∧ edgeL n m i = true)
/-- In d steps over cells of its height a cell from which water runs off is reached. -/
def OffIn (n m : Nat) (ws : List Int) : Nat → Nat → Prop
  | 0, i => BaseF n m ws i
  | d + 1, i => ∃ k : Nat, (k : Int) ∈ aroundL n m i ∧ ws.getD k 0 = ws.getD i 0 ∧ OffIn n m ws d k
theorem getD_map_range (f : Nat → Int) {N i : Nat} (hi : i < N) : ((List.range N).map f).getD i 0 = f i := by simp [hi]
theorem away_exists {n m : Nat} {p ws : List Int} (hn : n ≤ 5) (hm : m ≤ 5) (W : Level n m p ws) : ∃ ds, Away n m ws ds := by
  have hex : ∀ i, i < n * m → ∃ d, OffIn n m ws d i := by
    have e : ∀ i, i < n * m → ((List.range (n * m)).map fun i => if @decide (∃ d, OffIn n m ws d i) (Classical.propDecidable _) then (0 : Int) else -1).getD i 0 = if @decide (∃ d, OffIn n m ws d i) (Classical.propDecidable _) then (0 : Int) else -1 := fun i hi => getD_map_range _ hi
    have hiff : ∀ i, i < n * m → (((List.range (n * m)).map fun i => if @decide (∃ d, OffIn n m ws d i) (Classical.propDecidable _) then (0 : Int) else -1).getD i 0 ≠ -1 ↔ ∃ d, OffIn n m ws d i) := fun i hi => by
      rw [e i hi]
      by_cases h : ∃ d, OffIn n m ws d i
      · rw [@decide_eq_true _ (Classical.propDecidable _) h]
        exact ⟨fun _ => h, fun _ => by simp⟩
      · rw [@decide_eq_false _ (Classical.propDecidable _) h]
        exact ⟨fun h2 => absurd rfl h2, fun h2 => absurd h2 h⟩
    intro i hi
    refine (hiff i hi).1 (all_told W (fun j hj hb => (hiff j hj).2 ⟨0, hb⟩) (fun j hj h k hk hw => ?_) hn hm i hi)
    obtain ⟨d, hd⟩ := (hiff j hj).1 h
    exact (hiff k (around_lt hn hm hj hk)).2 ⟨d + 1, j, around_back hn hm hj hk, hw.symm, hd⟩
  have hl : ∀ i, ∃ d : Nat, i < n * m → OffIn n m ws d i ∧ ∀ e, OffIn n m ws e i → d ≤ e := fun i => by
    by_cases hi : i < n * m
    · obtain ⟨k, hk⟩ := hex i hi
      obtain ⟨d, h1, h2⟩ := least_of (fun d => OffIn n m ws d i) k hk
      exact ⟨d, fun _ => ⟨h1, h2⟩⟩
    · exact ⟨0, fun h => absurd h hi⟩
  obtain ⟨F, eF⟩ : ∃ F : Nat → Nat, ∀ i, i < n * m → OffIn n m ws (F i) i ∧ ∀ e, OffIn n m ws e i → F i ≤ e := ⟨fun i => Classical.choose (hl i), fun i => Classical.choose_spec (hl i)⟩
  have e : ∀ i, i < n * m → ((List.range (n * m)).map fun i => (F i : Int)).getD i 0 = F i := fun i hi => by simp [hi]
  have hnear : ∀ i, i < n * m → ∀ k : Nat, (k : Int) ∈ aroundL n m i → ws.getD k 0 = ws.getD i 0 → F i ≤ F k + 1 := fun i hi k hk hw =>
    (eF i hi).2 (F k + 1) ⟨k, hk, hw, (eF k (around_lt hn hm hi hk)).1⟩
  refine ⟨(List.range (n * m)).map fun i => (F i : Int), by simp, fun i hi => ?_, fun i hi => ?_, fun i hi k hk hw => ?_, fun i hi h => ?_⟩
  · rw [e i hi]
    constructor
    · intro h
      have h1 := (eF i hi).1
      have : F i = 0 := by omega
      rw [this] at h1
      exact h1
    · intro h
      have := (eF i hi).2 0 h
      omega
  · rw [e i hi]; omega
  · rw [e i hi, e k (around_lt hn hm hi hk)]
    have := hnear i hi k hk hw
    omega
  · rw [e i hi] at h ⊢
    obtain ⟨d, hd⟩ : ∃ d, F i = d + 1 := ⟨F i - 1, by omega⟩
    have h1 := (eF i hi).1
    rw [hd] at h1
    obtain ⟨k, b1, b2, b3⟩ := h1
    have hk := around_lt hn hm hi b1
    have h2 := (eF k hk).2 d b3
    have h3 := hnear i hi k b1 b2
    exact ⟨k, b1, b2, by rw [e k hk]; omega⟩
theorem flow_facts {h : List (List Int)} {n m N : Nat} (hg : vGrid h = true) (en : h.length = n) (em : (h.getD 0 []).length = m) (eN : n * m = N) : ∃ ds, FlowF n m N (fillL h).flatten ds (flowL h).flatten := by
  have G := Grid.of hg
  have hW := grid_level hg
  obtain ⟨f1, f2, f3⟩ := fill_grid hg
  have hn5 := G.n5
  have hm5 := G.m5
  have hfl : (flowL h).flatten = tgtsL h := by
    rw [flowL, if_pos hg, shapeL_flat _ _ _ (by rw [tgtsL, tgtsU_len])]
  rw [en] at hn5
  rw [em] at hm5
  rw [en, em] at hW f3
  have hA : ∃ ds, Away n m (levelL n m h.flatten) ds := away_exists hn5 hm5 hW
  have hA2 : Away n m (levelL n m h.flatten) (awayL n m (levelL n m h.flatten)) := pickL_ok hA
  refine ⟨awayL n m (levelL n m h.flatten), ?_, ?_, fun i hi => ?_⟩
  · rw [hfl, tgtsL, tgtsU_len, en, em, eN]
  · rw [f3, hW.len, eN]
  · rw [hfl, f3, tgtsL, en, em, eN, tgtsU_at _ _ _ _ _ _ hi]
    rcases tgt_facts hn5 hm5 hA2 (show i < n * m by rw [eN]; exact hi) hW with ⟨k, h1, h2, h3, h4⟩ | h
    · exact .inl ⟨k, h1, h2, by omega, h4⟩
    · exact .inr h
end Go.Proofs.YtekhjjcgkmnmlaaDoor
