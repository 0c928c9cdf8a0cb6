/- The law FnFlowOf returns true. -/
import Derived.Test.YtlbnphbkcacfmaaDoorSFlow
import Derived.Test.YtlbnphbkcacfmaaDoorDraws
import Derived.Test.YtlbnphbkcacfmaaDoorEqualRows
import Derived.Test.YtlbnphbkcacfmaaDoorRowOf
import Derived.Test.YtlbnphbkcacfmaaDoorIsIn
namespace Go.Proofs.YtlbnphbkcacfmaaDoor
open Go.RowKit

/-- Where water runs from a cell: to one beside it that is lower, or as high and nearer; or off, from the edge. -/
theorem tgt_facts {n m i : Nat} {p ws ds : List Int} (hn : n ≤ 5) (hm : m ≤ 5) (A : Away n m ws ds) (hi : i < n * m) (_W : Level n m p ws) :
    (∃ k : Nat, tgtU ws ds (aroundL n m i) i = k ∧ (k : Int) ∈ aroundL n m i ∧ k < n * m ∧ (ws.getD k 0 < ws.getD i 0 ∨ ws.getD k 0 = ws.getD i 0 ∧ ds.getD k 0 < ds.getD i 0)) ∨ (tgtU ws ds (aroundL n m i) i = -1 ∧ edgeL n m i = true) := by
  have hA := (around_facts hn hm hi).1
  rw [tgtU]
  by_cases hl : lowU ws (aroundL n m i) i (aroundL n m i).length = i
  · rw [if_pos hl, nearU]
    cases hf : (aroundL n m i).find? (fun x => nearB ws ds i x.toNat) with
    | some x =>
      have hx := List.mem_of_find?_eq_some hf
      have hq := List.find?_some hf
      obtain ⟨k, ek⟩ := Int.eq_ofNat_of_zero_le (hA x hx).1
      subst ek
      rw [Int.toNat_natCast, nearB, Bool.and_eq_true, decide_eq_true_eq, decide_eq_true_eq] at hq
      exact .inl ⟨k, rfl, hx, by have := (hA _ hx).2.1; omega, .inr hq⟩
    | none =>
      refine .inr ⟨rfl, ?_⟩
      rw [List.find?_eq_none] at hf
      have h0 : ds.getD i 0 = 0 := by
        by_cases e : ds.getD i 0 = 0
        · exact e
        · obtain ⟨k, h1, h2, h3⟩ := A.step i hi e
          refine absurd ?_ (hf _ h1)
          rw [Int.toNat_natCast, nearB, Bool.and_eq_true, decide_eq_true_eq, decide_eq_true_eq]
          exact ⟨h2, by omega⟩
      rcases (A.zero i hi).1 h0 with h | h
      · exact h
      · exact absurd hl ((low_base hn hm hi).2 h)
  · rw [if_neg hl]
    have h1 := (lowU_le ws (aroundL n m i) i (aroundL n m i).length).2.resolve_left hl
    rcases lowU_mem ws (aroundL n m i) i (aroundL n m i).length (Nat.le_refl _) with h2 | ⟨s, hs, h2⟩
    · exact absurd h2 hl
    · have hmem : (aroundL n m i).getD s 0 ∈ aroundL n m i := by
        rw [List.getD_eq_getElem?_getD, List.getElem?_eq_getElem hs]; exact List.getElem_mem hs
      obtain ⟨k, ek⟩ := Int.eq_ofNat_of_zero_le (hA _ hmem).1
      rw [ek] at hmem h2
      rw [Int.toNat_natCast] at h2
      rw [h2] at h1 ⊢
      exact .inl ⟨k, rfl, hmem, by have := (hA _ hmem).2.1; omega, .inl h1⟩
/-- Numbers below N, each once: N at the most. -/
theorem nodup_few : ∀ (N : Nat) (l : List Nat), l.Nodup → (∀ x, x ∈ l → x < N) → l.length ≤ N
  | 0, l, _, h => by
    cases l with
    | nil => exact Nat.le_refl _
    | cons a l => exact absurd (h a (List.mem_cons_self ..)) (Nat.not_lt_zero _)
  | N + 1, l, hd, h => by
    by_cases hN : N ∈ l
    · have h1 := nodup_few N (l.erase N) (hd.erase N) fun x hx => by
        have h2 := (List.Nodup.mem_erase_iff hd).1 hx
        have := h x h2.2
        omega
      rw [List.length_erase_of_mem hN] at h1
      omega
    · have := nodup_few N l hd fun x hx => by
        have := h x hx
        have : x ≠ N := fun e => hN (by rw [← e]; exact hx)
        omega
      omega
/-- Below in height, or as high and nearer. -/
def Below' (ws ds : List Int) (x v : Nat) : Prop := ws.getD x 0 < ws.getD v 0 ∨ ws.getD x 0 = ws.getD v 0 ∧ ds.getD x 0 < ds.getD v 0
/-- After k steps the cells gone over are k others. -/
def Gone (ws ds : List Int) (N X k : Nat) : Prop := ∃ vs : List Nat, vs.length = k ∧ vs.Nodup ∧ ∀ v, v ∈ vs → v < N ∧ Below' ws ds X v
theorem Gone.few {ws ds : List Int} {N X k : Nat} (h : Gone ws ds N X k) (hX : X < N) : k + 1 ≤ N := by
  obtain ⟨vs, h1, h2, h3⟩ := h
  have := nodup_few N (X :: vs) (List.nodup_cons.2 ⟨fun hx => by
    rcases (h3 X hx).2 with h | ⟨_, h⟩ <;> omega, h2⟩) fun x hx => by
    rcases List.mem_cons.1 hx with rfl | hx
    · exact hX
    · exact (h3 x hx).1
  simp only [List.length_cons] at this
  omega
theorem Gone.next {ws ds : List Int} {N X Y k : Nat} (h : Gone ws ds N X k) (hX : X < N) (hY : Below' ws ds Y X) : Gone ws ds N Y (k + 1) := by
  obtain ⟨vs, h1, h2, h3⟩ := h
  refine ⟨X :: vs, by simp [h1], List.nodup_cons.2 ⟨fun hx => by
    rcases (h3 X hx).2 with h | ⟨_, h⟩ <;> omega, h2⟩, fun v hv => ?_⟩
  rcases List.mem_cons.1 hv with rfl | hv
  · exact ⟨hX, hY⟩
  · refine ⟨(h3 v hv).1, ?_⟩
    have := (h3 v hv).2
    unfold Below' at this hY ⊢
    omega
/-- What the law reads of a flow. -/
structure FlowF (n m N : Nat) (ws ds ts : List Int) : Prop where
  tl : ts.length = N
  wl : ws.length = N
  run : ∀ i, i < N → (∃ k : Nat, ts.getD i 0 = k ∧ (k : Int) ∈ aroundL n m i ∧ k < N ∧ Below' ws ds k i) ∨ (ts.getD i 0 = -1 ∧ edgeL n m i = true)
/-- In d steps over cells of its height a cell from which water runs off is reached. -/
def OffIn (n m : Nat) (ws : List Int) : Nat → Nat → Prop
  | 0, i => BaseF n m ws i
  | d + 1, i => ∃ k : Nat, (k : Int) ∈ aroundL n m i ∧ ws.getD k 0 = ws.getD i 0 ∧ OffIn n m ws d k
theorem getD_map_range (f : Nat → Int) {N i : Nat} (hi : i < N) : ((List.range N).map f).getD i 0 = f i := by simp [hi]
theorem away_exists {n m : Nat} {p ws : List Int} (hn : n ≤ 5) (hm : m ≤ 5) (W : Level n m p ws) : ∃ ds, Away n m ws ds := by
  have hex : ∀ i, i < n * m → ∃ d, OffIn n m ws d i := by
    have e : ∀ i, i < n * m → ((List.range (n * m)).map fun i => if @decide (∃ d, OffIn n m ws d i) (Classical.propDecidable _) then (0 : Int) else -1).getD i 0 = if @decide (∃ d, OffIn n m ws d i) (Classical.propDecidable _) then (0 : Int) else -1 := fun i hi => getD_map_range _ hi
    have hiff : ∀ i, i < n * m → (((List.range (n * m)).map fun i => if @decide (∃ d, OffIn n m ws d i) (Classical.propDecidable _) then (0 : Int) else -1).getD i 0 ≠ -1 ↔ ∃ d, OffIn n m ws d i) := fun i hi => by
      rw [e i hi]
      by_cases h : ∃ d, OffIn n m ws d i
      · rw [@decide_eq_true _ (Classical.propDecidable _) h]
        exact ⟨fun _ => h, fun _ => by simp⟩
      · rw [@decide_eq_false _ (Classical.propDecidable _) h]
        exact ⟨fun h2 => absurd rfl h2, fun h2 => absurd h2 h⟩
    intro i hi
    refine (hiff i hi).1 (all_told W (fun j hj hb => (hiff j hj).2 ⟨0, hb⟩) (fun j hj h k hk hw => ?_) hn hm i hi)
    obtain ⟨d, hd⟩ := (hiff j hj).1 h
    exact (hiff k (around_lt hn hm hj hk)).2 ⟨d + 1, j, around_back hn hm hj hk, hw.symm, hd⟩
  have hl : ∀ i, ∃ d : Nat, i < n * m → OffIn n m ws d i ∧ ∀ e, OffIn n m ws e i → d ≤ e := fun i => by
    by_cases hi : i < n * m
    · obtain ⟨k, hk⟩ := hex i hi
      obtain ⟨d, h1, h2⟩ := least_of (fun d => OffIn n m ws d i) k hk
      exact ⟨d, fun _ => ⟨h1, h2⟩⟩
    · exact ⟨0, fun h => absurd h hi⟩
  obtain ⟨F, eF⟩ : ∃ F : Nat → Nat, ∀ i, i < n * m → OffIn n m ws (F i) i ∧ ∀ e, OffIn n m ws e i → F i ≤ e := ⟨fun i => Classical.choose (hl i), fun i => Classical.choose_spec (hl i)⟩
  have e : ∀ i, i < n * m → ((List.range (n * m)).map fun i => (F i : Int)).getD i 0 = F i := fun i hi => by simp [hi]
  have hnear : ∀ i, i < n * m → ∀ k : Nat, (k : Int) ∈ aroundL n m i → ws.getD k 0 = ws.getD i 0 → F i ≤ F k + 1 := fun i hi k hk hw =>
    (eF i hi).2 (F k + 1) ⟨k, hk, hw, (eF k (around_lt hn hm hi hk)).1⟩
  refine ⟨(List.range (n * m)).map fun i => (F i : Int), by simp, fun i hi => ?_, fun i hi => ?_, fun i hi k hk hw => ?_, fun i hi h => ?_⟩
  · rw [e i hi]
    constructor
    · intro h
      have h1 := (eF i hi).1
      have : F i = 0 := by omega
      rw [this] at h1
      exact h1
    · intro h
      have := (eF i hi).2 0 h
      omega
  · rw [e i hi]; omega
  · rw [e i hi, e k (around_lt hn hm hi hk)]
    have := hnear i hi k hk hw
    omega
  · rw [e i hi] at h ⊢
    obtain ⟨d, hd⟩ : ∃ d, F i = d + 1 := ⟨F i - 1, by omega⟩
    have h1 := (eF i hi).1
    rw [hd] at h1
    obtain ⟨k, b1, b2, b3⟩ := h1
    have hk := around_lt hn hm hi b1
    have h2 := (eF k hk).2 d b3
    have h3 := hnear i hi k b1 b2
    exact ⟨k, b1, b2, by rw [e k hk]; omega⟩
theorem flow_facts {h : List (List Int)} {n m N : Nat} (hg : vGrid h = true) (en : h.length = n) (em : (h.getD 0 []).length = m) (eN : n * m = N) : ∃ ds, FlowF n m N (fillL h).flatten ds (flowL h).flatten := by
  have G := Grid.of hg
  have hW := grid_level hg
  obtain ⟨f1, f2, f3⟩ := fill_grid hg
  have hn5 := G.n5
  have hm5 := G.m5
  have hfl : (flowL h).flatten = tgtsL h := by
    rw [flowL, if_pos hg, shapeL_flat _ _ _ (by rw [tgtsL, tgtsU_len])]
  rw [en] at hn5
  rw [em] at hm5
  rw [en, em] at hW f3
  have hA : ∃ ds, Away n m (levelL n m h.flatten) ds := away_exists hn5 hm5 hW
  have hA2 : Away n m (levelL n m h.flatten) (awayL n m (levelL n m h.flatten)) := pickL_ok hA
  refine ⟨awayL n m (levelL n m h.flatten), ?_, ?_, fun i hi => ?_⟩
  · rw [hfl, tgtsL, tgtsU_len, en, em, eN]
  · rw [f3, hW.len, eN]
  · rw [hfl, f3, tgtsL, en, em, eN, tgtsU_at _ _ _ _ _ _ hi]
    rcases tgt_facts hn5 hm5 hA2 (show i < n * m by rw [eN]; exact hi) hW with ⟨k, h1, h2, h3, h4⟩ | h
    · exact .inl ⟨k, h1, h2, by omega, h4⟩
    · exact .inr h

set_option maxRecDepth 100000 in
set_option maxHeartbeats 8000000 in
theorem FnFlowOf_any (v : Value) (bs : List Int) (w : World) (hv : NumsV .u8 w v bs) (hb : ∀ i, i < bs.length → 0 ≤ bs.getD i 0 ∧ bs.getD i 0 ≤ 255) (hS : Steps w) :
    Calls Tryd.prog 11 #[v] w fun e w' => e = .returned (.bool true) ∧ Grew w w' := by
  have HD := Lib.hid (DrawFlowOf_any v bs w hv hb)
  have HS := Lib.hid hS
  obtain ⟨a, b, o, c, rfl, ⟨hlc, hcb⟩, _, _⟩ := hv.shape
  clear hv hb hS
  by_cases hbig : 1048576 < bs.length
  · go_enter Tryd.func11, Tryd.ntmps11
    go_wp2
    go_ret
    exact ⟨rfl, Grew.refl _⟩
  · go_enter Tryd.func11, Tryd.ntmps11
    go_wp2_with (fail)
    refine HD.out.mono ?_
    rintro e w1 ⟨v1, H, rfl, hO, hd, hg1⟩
    have HV := Lib.hid (And.intro hO.toV hg1)
    obtain ⟨a1, c1, rfl⟩ := hO.sh
    obtain ⟨M, eM⟩ : ∃ M, flowL H = M := ⟨_, rfl⟩
    have HM := Lib.hid eM
    clear hO hd hg1 HD
    go_wp2_with (fail)
    refine (FlowOf_any _ H _ HV.out.1 (HS.out.grew HV.out.2)).mono ?_
    rw [eM]
    rintro e w2 ⟨v2, rfl, hO2, hg2⟩
    obtain ⟨a2, c2, rfl⟩ := hO2.sh
    have H2 := Lib.hid (And.intro hO2.toV hg2)
    clear hO2 hg2
    go_wp2_with (fail)
    refine (SFlowOf_any _ H _ (HV.out.1.grew H2.out.2)).mono ?_
    rw [eM]
    rintro e w3 ⟨v3, rfl, hO3, hg3⟩
    obtain ⟨a3, c3, rfl⟩ := hO3.sh
    have H3 : Hid (RowsV w3 (.slice a2 M.length c2) M ∧ RowsV w3 (.slice a3 M.length c3) M ∧ RowsV w3 (.slice a1 H.length c1) H ∧ Grew w w3) :=
      Lib.hid ⟨H2.out.1.grew hg3, hO3.toV, HV.out.1.grew (H2.out.2.trans hg3), HV.out.2.trans (H2.out.2.trans hg3)⟩
    clear hO3 hg3 H2 HV eM
    go_wp2_with (fail)
    refine (equalRows_any _ _ M M _ H3.out.1 H3.out.2.1).mono ?_
    rw [decide_eq_true (rfl : M = M)]
    rintro e w4 ⟨rfl, hq4⟩
    have hg4 := quiet_grew hq4
    have H4 : Hid (RowsV w4 (.slice a2 M.length c2) M ∧ RowsV w4 (.slice a1 H.length c1) H ∧ Grew w w4) :=
      Lib.hid ⟨H3.out.1.grew hg4, H3.out.2.2.1.grew hg4, H3.out.2.2.2.trans hg4⟩
    clear hq4 hg4 H3
    cases hvg : vGrid H with
    | false =>
      have eM0 : M = [] := by rw [← HM.out, flowL_no hvg]
      have ht : ((M.length : Int) == 0) = true := by simp [eM0]
      clear hvg eM0
      go_wp2_with (fail)
      refine (SFlowOf_any _ H _ H4.out.2.1).mono ?_
      rw [HM.out]
      rintro e w5 ⟨v5, rfl, hO5, hg5⟩
      obtain ⟨a5, c5, rfl⟩ := hO5.sh
      have H5 := Lib.hid (And.intro hO5.toV hg5)
      clear hO5 hg5
      go_wp2_with (fail)
      refine (equalRows_any _ _ M M _ (H4.out.1.grew H5.out.2) H5.out.1).mono ?_
      rw [decide_eq_true (rfl : M = M)]
      rintro e w6 ⟨rfl, hq6⟩
      have H6 := Lib.hid (quiet_grew hq6)
      clear hq6
      go_wp2
      go_ret
      exact ⟨rfl, H4.out.2.2.trans (H5.out.2.trans H6.out)⟩
    | true =>
      have G := Grid.of hvg
      obtain ⟨n, en⟩ : ∃ n, H.length = n := ⟨_, rfl⟩
      obtain ⟨m, em⟩ : ∃ m, (H.getD 0 []).length = m := ⟨_, rfl⟩
      obtain ⟨N, eN⟩ : ∃ N, n * m = N := ⟨_, rfl⟩
      obtain ⟨ds, FF⟩ := flow_facts hvg en em eN
      have hMr : M.length = n ∧ ∀ r, r < M.length → (M.getD r []).length = m := by
        have e : M = shapeL (tgtsL H) m n := by rw [← HM.out, flowL, if_pos hvg, en, em]
        rw [e, shapeL_len]
        exact ⟨rfl, fun r hr => shapeL_row _ _ _ _ (by rw [tgtsL, tgtsU_len, en, em]) hr⟩
      obtain ⟨f1, f2, f3⟩ := fill_grid hvg
      have hn5 := G.n5
      have hn1 := G.n1
      have hm5 := G.m5
      have hm1 := G.m1
      rw [en] at hn5 hn1
      rw [em] at hm5 hm1
      have hN25 : N ≤ 25 := by rw [← eN]; exact Nat.mul_le_mul hn5 hm5
      have hRM := fun W (hW : Grew w4 W) => rowOf_any _ M W (H4.out.1.grew hW) (by rw [hMr.1]; omega) (fun r hr => by rw [hMr.2 r hr]; omega)
      have hRF := fun v W (hW : RowsV W v (fillL H)) => rowOf_any v (fillL H) W hW (by have := f1.n5; omega) (fun r hr => by have := f1.len r hr; have := f1.m1; have := f1.m5; omega)
      have hFB := fun W (hW : Grew w4 W) => FillByQueue_any _ H W (H4.out.2.1.grew hW) (HS.out.grew (H4.out.2.2.trans hW))
      have hvc : ∀ x : Nat, x < N → vCell H (x : Int) = true := fun x hx => by
        rw [vCell, hvg, Bool.true_and, Bool.and_eq_true, decide_eq_true_eq, decide_eq_true_eq]
        have : ((n * m : Nat) : Int) = (n : Int) * m := by simp
        rw [en, em]
        omega
      have HED : Hid (∀ (x : Nat) W, Grew w4 W → x < N → edgeL n m x = true → Calls Tryd.prog 20 #[.slice a1 H.length c1, .int .i64 x] W fun e w' => e = .returned (.bool true) ∧ Grew W w') := Lib.hid fun x W hW hx he => by
        have h0 := OnEdge_any _ H (x : Int) W (H4.out.2.1.grew hW) (HS.out.grew (H4.out.2.2.trans hW))
        rw [edgeL] at he
        have he2 : edgeB H (x : Int) = true := by rw [edgeB, hvc x hx, en, em, Int.toNat_natCast, Bool.true_and, he]
        rw [he2] at h0
        exact h0
      have HAO : Hid (∀ (x : Nat) W, Grew w4 W → x < N → Calls Tryd.prog 42 #[.slice a1 H.length c1, .int .i64 x] W (OwnI W (aroundL n m x))) := Lib.hid fun x W hW hx => by
        have h0 := AroundOf_any _ H (x : Int) W (H4.out.2.1.grew hW) (HS.out.grew (H4.out.2.2.trans hW))
        have h1 : aroundOfL H (x : Int) = aroundL n m x := by rw [aroundOfL, if_pos (hvc x hx), en, em, Int.toNat_natCast]
        rw [h1] at h0
        exact h0
      rw [HM.out] at FF
      obtain ⟨ts, ets⟩ : ∃ ts, M.flatten = ts := ⟨_, rfl⟩
      obtain ⟨F, eF⟩ : ∃ F, fillL H = F := ⟨_, rfl⟩
      obtain ⟨ws, ews⟩ : ∃ ws, F.flatten = ws := ⟨_, rfl⟩
      rw [eF] at FF hRF hFB
      rw [ets] at FF hRM
      rw [ews] at FF hRF
      have HFF := Lib.hid FF
      have HRM := Lib.hid hRM
      have HRF := Lib.hid hRF
      have HFB := Lib.hid hFB
      have HNM := Lib.hid (And.intro hn5 (And.intro hm5 eN))
      have ht : ((M.length : Int) == 0) = false := beq_eq_false_iff_ne.2 (by have := hMr.1; omega)
      clear hvg G en em eN FF hMr f1 f2 f3 hn5 hm5 hn1 hm1 hRM hRF hFB hvc ets eF ews HM
      go_wp2_with (fail)
      refine (HRM.out _ (Grew.refl _)).mono ?_
      rintro e w5 ⟨gt, ct, rfl, hO5, hg5⟩
      rw [HFF.out.tl] at hO5 ⊢
      have H5 := Lib.hid (And.intro hO5.toV hg5)
      clear hO5 hg5
      go_wp2_with (fail)
      refine (HFB.out _ H5.out.2).mono ?_
      rintro e w6 ⟨v6, rfl, hO6, hg6⟩
      obtain ⟨a6, c6, rfl⟩ := hO6.sh
      have H6 := Lib.hid (And.intro hO6.toV (And.intro (NumsV.grew H5.out.1 hg6) (H5.out.2.trans hg6)))
      clear hO6 hg6 H5
      go_wp2_with (fail)
      refine (HRF.out _ _ H6.out.1).mono ?_
      rintro e w9 ⟨gf, cf, rfl, hO9, hg9⟩
      rw [HFF.out.wl] at hO9 ⊢
      have H9 : Hid (IntsV w9 (.slice (some ⟨gt, 0, none⟩) N ct) ts ∧ IntsV w9 (.slice (some ⟨gf, 0, none⟩) N cf) ws ∧ Grew w4 w9) := Lib.hid ⟨NumsV.grew H6.out.2.1 hg9, hO9.toV, H6.out.2.2.trans hg9⟩
      clear hO9 hg9 H6 HRM HRF HFB ht
      go_wp2
      go_loopg [7] N (fun gk i wr => ∃ I : Nat, I ≤ N ∧ N ≤ gk + I ∧ i = .int .i64 (I : Int) ∧ Hid (Grew w9 wr))
      case atStart => exact ⟨0, Nat.zero_le _, Nat.le_refl _, rfl, Grew.refl _⟩
      case round =>
        obtain ⟨I, hI1, hI2, rfl, HG⟩ := hrel
        by_cases hI : I < N
        · obtain ⟨go, rfl⟩ : ∃ go : Nat, go = gk := ⟨_, rfl⟩
          have hIi : (I : Int) < (N : Int) := by omega
          go_wp2
          go_loopg [8, 9] N (fun gj xv nv wi => ∃ X k : Nat, X < N ∧ k ≤ N ∧ N ≤ gj + k ∧ xv = .int .i64 (X : Int) ∧ nv = .int .i64 (k : Int) ∧ Hid (Gone ws ds N X k) ∧ Hid (Grew w9 wi))
          case atStart => exact ⟨I, 0, hI, Nat.zero_le _, Nat.le_refl _, rfl, rfl, Lib.hid ⟨[], rfl, List.nodup_nil, fun _ h => by cases h⟩, HG⟩
          case round =>
            obtain ⟨X, k, hX, hk1, hk2, rfl, rfl, HGo, HG⟩ := hrel
            have hk3 := HGo.out.few hX
            have hXi : (X : Int) < (N : Int) := by omega
            have hct := HG.out.cell (NumsV.at H9.out.1 X (by rw [HFF.out.tl]; exact hX))
            rcases HFF.out.run X hX with ⟨kk, h1, h2, h3, h4⟩ | ⟨h1, h2⟩
            · rw [h1] at hct
              have hcf := HG.out.cell (NumsV.at H9.out.2.1 kk (by rw [HFF.out.wl]; exact h3))
              have hcx := HG.out.cell (NumsV.at H9.out.2.1 X (by rw [HFF.out.wl]; exact hX))
              have hle : ws.getD kk 0 ≤ ws.getD X 0 := by
                unfold Below' at h4
                omega
              obtain ⟨y1, e1⟩ : ∃ y1, ws.getD kk 0 = y1 := ⟨_, rfl⟩
              obtain ⟨y2, e2⟩ : ∃ y2, ws.getD X 0 = y2 := ⟨_, rfl⟩
              rw [e1] at hcf hle
              rw [e2] at hcx hle
              have HN := Lib.hid (HGo.out.next hX h4)
              have HA := Lib.hid (HAO.out X wr.drew (H9.out.2.2.trans HG.out.drew) hX)
              have HIN : Hid (decide ((kk : Int) ∈ aroundL n m X) = true) := Lib.hid (decide_eq_true h2)
              have hki : (kk : Int) < (N : Int) := by omega
              have hk0 : ¬ (kk : Int) < 0 := by omega
              have d1 : decide (y2 < y1) = false := decide_eq_false (by omega)
              have HSS : Hid (∀ W W' : World, (W.cell? ⟨gt, X, none⟩ = some (.int .i64 (kk : Int)) ∧ W.cell? ⟨gf, kk, none⟩ = some (.int .i64 y1) ∧ W.cell? ⟨gf, X, none⟩ = some (.int .i64 y2)) → Grew W W' → (W'.cell? ⟨gt, X, none⟩ = some (.int .i64 (kk : Int)) ∧ W'.cell? ⟨gf, kk, none⟩ = some (.int .i64 y1) ∧ W'.cell? ⟨gf, X, none⟩ = some (.int .i64 y2))) := Lib.hid fun W W' q g => ⟨g.cell q.1, g.cell q.2.1, g.cell q.2.2⟩
              have HGD : Hid (Grew w9 wr.drew) := Lib.hid HG.out.drew
              obtain ⟨L, eL⟩ : ∃ L, aroundL n m X = L := ⟨_, rfl⟩
              rw [eL] at HA HIN
              clear h1 h2 h4 e1 e2 HGo HG eL
              go_wp2_with (fail)
              refine wp_region_noPanic ?_
              refine wp_region_held_drew (S := fun W => W.cell? ⟨gt, X, none⟩ = some (.int .i64 (kk : Int)) ∧ W.cell? ⟨gf, kk, none⟩ = some (.int .i64 y1) ∧ W.cell? ⟨gf, X, none⟩ = some (.int .i64 y2)) (by kernel_rfl) (by exact ⟨hct, hcf, hcx⟩) (fun hHeld => ?_)
              refine wpAnyH_take (i := 0) (oi := { dst := some 54, op := Op.move (Operand.tmp 3), type := 23, pos := "laws.go:471", after := #[], guard := none }) (v := ?_) rfl (by kernel_rfl) (by kernel_rfl) (by kernel_rfl) (fun _ _ _ h => h) (Or.inl ⟨by rfl, ?hy⟩) (by assumption) ?_
              case hy => (intro w hSw; (try dsimp only at hSw); go_simp; try with_reducible rfl)
              try simp only [Act.put, List.setIfInBounds_toArray, List.set_cons_zero, List.set_cons_succ]
              refine wpAnyH_take (i := 1) (oi := { dst := some 55, op := Op.move (Operand.tmp 8), type := 3, pos := "laws.go:471", after := #[], guard := none }) (v := ?_) rfl (by kernel_rfl) (by kernel_rfl) (by kernel_rfl) (fun _ _ _ h => h) (Or.inl ⟨by rfl, ?hy⟩) (by assumption) ?_
              case hy => (intro w hSw; (try dsimp only at hSw); go_simp; try with_reducible rfl)
              try simp only [Act.put, List.setIfInBounds_toArray, List.set_cons_zero, List.set_cons_succ]
              refine wpAnyH_take (i := 3) (oi := { dst := some 57, op := Op.move (Operand.tmp 5), type := 27, pos := "laws.go:471", after := #[], guard := none }) (v := ?_) rfl (by kernel_rfl) (by kernel_rfl) (by kernel_rfl) (fun _ _ _ h => h) (Or.inl ⟨by rfl, ?hy⟩) (by assumption) ?_
              case hy => (intro w hSw; (try dsimp only at hSw); go_simp; try with_reducible rfl)
              try simp only [Act.put, List.setIfInBounds_toArray, List.set_cons_zero, List.set_cons_succ]
              refine wpAnyH_take (i := 4) (oi := { dst := some 58, op := Op.move (Operand.tmp 8), type := 3, pos := "laws.go:471", after := #[], guard := none }) (v := ?_) rfl (by kernel_rfl) (by kernel_rfl) (by kernel_rfl) (fun _ _ _ h => h) (Or.inl ⟨by rfl, ?hy⟩) (by assumption) ?_
              case hy => (intro w hSw; (try dsimp only at hSw); go_simp; try with_reducible rfl)
              try simp only [Act.put, List.setIfInBounds_toArray, List.set_cons_zero, List.set_cons_succ]
              refine wpAnyH_take (i := 5) (oi := { dst := some 59, op := Op.indexAddr 27 (Operand.tmp 57) (Operand.tmp 58), type := 0, pos := "laws.go:471", after := #[{ on := 3, ground := Ground.data }, { on := 4, ground := Ground.data }], guard := none }) (v := ?_) rfl (by kernel_rfl) (by kernel_rfl) (by kernel_rfl) (fun _ _ _ h => h) (Or.inl ⟨by rfl, ?hy⟩) (by assumption) ?_
              case hy => (intro w hSw; (try dsimp only at hSw); go_simp; try with_reducible rfl)
              try simp only [Act.put, List.setIfInBounds_toArray, List.set_cons_zero, List.set_cons_succ]
              refine wpAnyH_take (i := 6) (oi := { dst := some 60, op := Op.load 3 (Operand.tmp 59), type := 3, pos := "laws.go:471", after := #[{ on := 5, ground := Ground.data }], guard := none }) (v := ?_) rfl (by kernel_rfl) (by kernel_rfl) (by kernel_rfl) (fun _ _ _ h => h) (Or.inl ⟨by rfl, ?hy⟩) (by assumption) ?_
              case hy => (intro w hSw; (try dsimp only at hSw); go_simp; try with_reducible rfl)
              try simp only [Act.put, List.setIfInBounds_toArray, List.set_cons_zero, List.set_cons_succ]
              refine wpAnyH_ready (rs := [2]) (by kernel_rfl) (by simp) ?_
              refine AllReadyH.cons (i := 2) (o := { dst := some 56, op := Op.call { callee := Callee.value (Operand.func 42), args := #[Operand.tmp 54, Operand.tmp 55], argTypes := #[23, 3] }, type := 27, pos := "laws.go:471", after := #[{ on := 0, ground := Ground.data }, { on := 1, ground := Ground.data }], guard := none }) rfl (fun K hK => ?_) AllReadyH.nil
              go_simp
              go_at_call 42
              refine HA.out.mono ?_
              rintro e w10 hoA
              obtain ⟨aA, cA, rfl, hOA, hgA⟩ := hoA.shape
              refine hK.out _ _ (HSS.out _ _ (by assumption) hgA) (fun hHeld => ?_)
              clear hK K
              try simp only [Act.put, List.setIfInBounds_toArray, List.set_cons_zero, List.set_cons_succ]
              refine wpAnyH_ready (rs := [7]) (by kernel_rfl) (by simp) ?_
              refine AllReadyH.cons (i := 7) (o := { dst := some 61, op := Op.call { callee := Callee.value (Operand.func 41), args := #[Operand.tmp 56, Operand.tmp 60], argTypes := #[27, 3] }, type := 4, pos := "laws.go:471", after := #[{ on := 2, ground := Ground.data }, { on := 6, ground := Ground.data }, { on := 2, ground := Ground.chain }], guard := none }) rfl (fun K hK => ?_) AllReadyH.nil
              go_simp
              go_at_call 41
              refine (isIn_any _ L (kk : Int) _ hOA.toV).mono ?_
              rw [HIN.out]
              rintro e w11 ⟨rfl, rfl⟩
              refine hK.out _ _ (by assumption) (fun hHeld => ?_)
              clear hK K
              try simp only [Act.put, List.setIfInBounds_toArray, List.set_cons_zero, List.set_cons_succ]
              refine wpAnyH_take (i := 8) (oi := { dst := some 62, op := Op.unOp UnOp.not 4 (Operand.tmp 61), type := 4, pos := "laws.go:471", after := #[{ on := 7, ground := Ground.data }], guard := none }) (v := .bool false) rfl (by kernel_rfl) (by kernel_rfl) (by kernel_rfl) (fun _ _ _ h => h) (Or.inl ⟨by rfl, ?hy⟩) (by assumption) ?_
              case hy => (intro w hSw; (try dsimp only at hSw); go_simp <;> (try with_reducible rfl) <;> (try simp [d1]))
              try simp only [Act.put, List.setIfInBounds_toArray, List.set_cons_zero, List.set_cons_succ]
              refine wpAnyH_take (i := 9) (oi := { dst := some 63, op := Op.move (Operand.tmp 62), type := 4, pos := "laws.go:471", after := #[{ on := 8, ground := Ground.data }, { on := 7, ground := Ground.chain }], guard := none }) (v := .bool false) rfl (by kernel_rfl) (by kernel_rfl) (by kernel_rfl) (fun _ _ _ h => h) (Or.inl ⟨by rfl, ?hy⟩) (by assumption) ?_
              case hy => (intro w hSw; (try dsimp only at hSw); go_simp <;> (try with_reducible rfl) <;> (try simp [d1]))
              try simp only [Act.put, List.setIfInBounds_toArray, List.set_cons_zero, List.set_cons_succ]
              refine wpAnyH_take (i := 10) (oi := { dst := some 64, op := Op.move (Operand.tmp 6), type := 27, pos := "laws.go:471", after := #[{ on := 9, ground := Ground.guard }], guard := some (9, false) }) (v := ?_) rfl (by kernel_rfl) (by kernel_rfl) (by kernel_rfl) (fun _ _ _ h => h) (Or.inl ⟨by rfl, ?hy⟩) (by assumption) ?_
              case hy => (intro w hSw; (try dsimp only at hSw); go_simp; try with_reducible rfl)
              try simp only [Act.put, List.setIfInBounds_toArray, List.set_cons_zero, List.set_cons_succ]
              refine wpAnyH_take (i := 11) (oi := { dst := some 65, op := Op.move (Operand.tmp 5), type := 27, pos := "laws.go:471", after := #[{ on := 9, ground := Ground.guard }], guard := some (9, false) }) (v := ?_) rfl (by kernel_rfl) (by kernel_rfl) (by kernel_rfl) (fun _ _ _ h => h) (Or.inl ⟨by rfl, ?hy⟩) (by assumption) ?_
              case hy => (intro w hSw; (try dsimp only at hSw); go_simp; try with_reducible rfl)
              try simp only [Act.put, List.setIfInBounds_toArray, List.set_cons_zero, List.set_cons_succ]
              refine wpAnyH_take (i := 12) (oi := { dst := some 66, op := Op.move (Operand.tmp 8), type := 3, pos := "laws.go:471", after := #[{ on := 9, ground := Ground.guard }], guard := some (9, false) }) (v := ?_) rfl (by kernel_rfl) (by kernel_rfl) (by kernel_rfl) (fun _ _ _ h => h) (Or.inl ⟨by rfl, ?hy⟩) (by assumption) ?_
              case hy => (intro w hSw; (try dsimp only at hSw); go_simp; try with_reducible rfl)
              try simp only [Act.put, List.setIfInBounds_toArray, List.set_cons_zero, List.set_cons_succ]
              refine wpAnyH_take (i := 13) (oi := { dst := some 67, op := Op.indexAddr 27 (Operand.tmp 65) (Operand.tmp 66), type := 0, pos := "laws.go:471", after := #[{ on := 11, ground := Ground.data }, { on := 12, ground := Ground.data }, { on := 9, ground := Ground.guard }], guard := some (9, false) }) (v := ?_) rfl (by kernel_rfl) (by kernel_rfl) (by kernel_rfl) (fun _ _ _ h => h) (Or.inl ⟨by rfl, ?hy⟩) (by assumption) ?_
              case hy => (intro w hSw; (try dsimp only at hSw); go_simp; try with_reducible rfl)
              try simp only [Act.put, List.setIfInBounds_toArray, List.set_cons_zero, List.set_cons_succ]
              refine wpAnyH_take (i := 14) (oi := { dst := some 68, op := Op.load 3 (Operand.tmp 67), type := 3, pos := "laws.go:471", after := #[{ on := 13, ground := Ground.data }, { on := 9, ground := Ground.guard }], guard := some (9, false) }) (v := ?_) rfl (by kernel_rfl) (by kernel_rfl) (by kernel_rfl) (fun _ _ _ h => h) (Or.inl ⟨by rfl, ?hy⟩) (by assumption) ?_
              case hy => (intro w hSw; (try dsimp only at hSw); go_simp; try with_reducible rfl)
              try simp only [Act.put, List.setIfInBounds_toArray, List.set_cons_zero, List.set_cons_succ]
              refine wpAnyH_take (i := 15) (oi := { dst := some 69, op := Op.indexAddr 27 (Operand.tmp 64) (Operand.tmp 68), type := 0, pos := "laws.go:471", after := #[{ on := 10, ground := Ground.data }, { on := 14, ground := Ground.data }, { on := 9, ground := Ground.guard }], guard := some (9, false) }) (v := ?_) rfl (by kernel_rfl) (by kernel_rfl) (by kernel_rfl) (fun _ _ _ h => h) (Or.inl ⟨by rfl, ?hy⟩) (by assumption) ?_
              case hy => (intro w hSw; (try dsimp only at hSw); go_simp; try with_reducible rfl)
              try simp only [Act.put, List.setIfInBounds_toArray, List.set_cons_zero, List.set_cons_succ]
              refine wpAnyH_take (i := 16) (oi := { dst := some 70, op := Op.load 3 (Operand.tmp 69), type := 3, pos := "laws.go:471", after := #[{ on := 15, ground := Ground.data }, { on := 9, ground := Ground.guard }], guard := some (9, false) }) (v := ?_) rfl (by kernel_rfl) (by kernel_rfl) (by kernel_rfl) (fun _ _ _ h => h) (Or.inl ⟨by rfl, ?hy⟩) (by assumption) ?_
              case hy => (intro w hSw; (try dsimp only at hSw); go_simp; try with_reducible rfl)
              try simp only [Act.put, List.setIfInBounds_toArray, List.set_cons_zero, List.set_cons_succ]
              refine wpAnyH_take (i := 17) (oi := { dst := some 71, op := Op.move (Operand.tmp 6), type := 27, pos := "laws.go:471", after := #[{ on := 9, ground := Ground.guard }], guard := some (9, false) }) (v := ?_) rfl (by kernel_rfl) (by kernel_rfl) (by kernel_rfl) (fun _ _ _ h => h) (Or.inl ⟨by rfl, ?hy⟩) (by assumption) ?_
              case hy => (intro w hSw; (try dsimp only at hSw); go_simp; try with_reducible rfl)
              try simp only [Act.put, List.setIfInBounds_toArray, List.set_cons_zero, List.set_cons_succ]
              refine wpAnyH_take (i := 18) (oi := { dst := some 72, op := Op.move (Operand.tmp 8), type := 3, pos := "laws.go:471", after := #[{ on := 9, ground := Ground.guard }], guard := some (9, false) }) (v := ?_) rfl (by kernel_rfl) (by kernel_rfl) (by kernel_rfl) (fun _ _ _ h => h) (Or.inl ⟨by rfl, ?hy⟩) (by assumption) ?_
              case hy => (intro w hSw; (try dsimp only at hSw); go_simp; try with_reducible rfl)
              try simp only [Act.put, List.setIfInBounds_toArray, List.set_cons_zero, List.set_cons_succ]
              refine wpAnyH_take (i := 19) (oi := { dst := some 73, op := Op.indexAddr 27 (Operand.tmp 71) (Operand.tmp 72), type := 0, pos := "laws.go:471", after := #[{ on := 17, ground := Ground.data }, { on := 18, ground := Ground.data }, { on := 9, ground := Ground.guard }], guard := some (9, false) }) (v := ?_) rfl (by kernel_rfl) (by kernel_rfl) (by kernel_rfl) (fun _ _ _ h => h) (Or.inl ⟨by rfl, ?hy⟩) (by assumption) ?_
              case hy => (intro w hSw; (try dsimp only at hSw); go_simp; try with_reducible rfl)
              try simp only [Act.put, List.setIfInBounds_toArray, List.set_cons_zero, List.set_cons_succ]
              refine wpAnyH_take (i := 20) (oi := { dst := some 74, op := Op.load 3 (Operand.tmp 73), type := 3, pos := "laws.go:471", after := #[{ on := 19, ground := Ground.data }, { on := 9, ground := Ground.guard }], guard := some (9, false) }) (v := ?_) rfl (by kernel_rfl) (by kernel_rfl) (by kernel_rfl) (fun _ _ _ h => h) (Or.inl ⟨by rfl, ?hy⟩) (by assumption) ?_
              case hy => (intro w hSw; (try dsimp only at hSw); go_simp; try with_reducible rfl)
              try simp only [Act.put, List.setIfInBounds_toArray, List.set_cons_zero, List.set_cons_succ]
              refine wpAnyH_take (i := 21) (oi := { dst := some 75, op := Op.binOp BinOp.gtr 3 (Operand.tmp 70) (Operand.tmp 74) 3, type := 4, pos := "laws.go:471", after := #[{ on := 16, ground := Ground.data }, { on := 20, ground := Ground.data }, { on := 9, ground := Ground.guard }], guard := some (9, false) }) (v := .bool false) rfl (by kernel_rfl) (by kernel_rfl) (by kernel_rfl) (fun _ _ _ h => h) (Or.inl ⟨by rfl, ?hy⟩) (by assumption) ?_
              case hy => (intro w hSw; (try dsimp only at hSw); go_simp <;> (try with_reducible rfl) <;> (try simp [d1]))
              try simp only [Act.put, List.setIfInBounds_toArray, List.set_cons_zero, List.set_cons_succ]
              refine wpAnyH_take (i := 22) (oi := { dst := some 76, op := Op.pick (Operand.tmp 63) (Operand.const (Value.bool true)) (Operand.tmp 75), type := 4, pos := "laws.go:471", after := #[{ on := 9, ground := Ground.data }, { on := 21, ground := Ground.data }], guard := none }) (v := .bool false) rfl (by kernel_rfl) (by kernel_rfl) (by kernel_rfl) (fun _ _ _ h => h) (Or.inl ⟨by rfl, ?hy⟩) (by assumption) ?_
              case hy => (intro w hSw; (try dsimp only at hSw); go_simp <;> (try with_reducible rfl) <;> (try simp [d1]))
              try simp only [Act.put, List.setIfInBounds_toArray, List.set_cons_zero, List.set_cons_succ]
              refine wpAnyH_done (by kernel_rfl) ?_ _
              refine NoPanic.normal ?_
              have HG2 := Lib.hid (HGD.out.trans hgA)
              have hct2 := hgA.cell (((Grew.refl wr).drew).cell hct)
              clear hOA hgA hoA
              go_wp2
              go_roundg (gk - 1)
              case measure => omega
              case rel => exact ⟨kk, k + 1, h3, by omega, by omega, rfl, by go_num, HN, HG2⟩
            · rw [h1] at hct
              have HE := Lib.hid (HED.out X wr (H9.out.2.2.trans HG.out) hX h2)
              have HGW := Lib.hid HG.out
              clear h1 h2 HGo HG
              go_wp2_with (fail)
              refine HE.out.mono ?_
              rintro e w10 ⟨rfl, hg10⟩
              have HG2 := Lib.hid (HGW.out.trans hg10)
              clear hg10
              go_wp2
              go_roundg (go - 1)
              case measure => omega
              case rel => exact ⟨I + 1, by omega, by omega, by go_num, HG2⟩
        · obtain rfl : I = N := by omega
          have HF := Lib.hid (H4.out.2.2.trans (H9.out.2.2.trans HG.out))
          go_wp2
          go_ret
          exact ⟨rfl, HF.out⟩
end Go.Proofs.YtlbnphbkcacfmaaDoor
