/- The contract of impl.gridOf. -/
import Derived.Test.YtlfoimjohdaofaaDoorRead
import Derived.Lib.OthersKept
namespace Go.Proofs.YtlfoimjohdaofaaDoor
open Go.RowKit

/-- H is the grid of n rows and m columns whose text is s. -/
def IsRead (s : ByteArray) (n m : Nat) (H : List (List Int)) : Prop := Grid H m ∧ H.length = n ∧ quadX H = s
theorem tabR_grid {n m : Nat} {f : Nat → Nat → Int} (hn1 : 1 ≤ n) (hn5 : n ≤ 5) (hm1 : 1 ≤ m) (hm5 : m ≤ 5) (hf : Hts f) : Grid (tabR n m f) m :=
  { n1 := by rw [tabR_len]; exact hn1
    n5 := by rw [tabR_len]; exact hn5
    m1 := hm1
    m5 := hm5
    len := fun r hr => by rw [tabR_len] at hr; exact tabR_rowlen n m f r hr
    num := fun r hr c hc => by rw [tabR_len] at hr; rw [tabR_at n m f r c hr hc]; exact hf r c }
theorem cellS_hts {H : List (List Int)} {m : Nat} (G : Grid H m) : Hts (cellS H) := by
  intro i j
  unfold cellS
  by_cases hi : i < H.length
  · by_cases hj : j < m
    · exact G.num i hi j hj
    · have : (H.getD i []).length ≤ j := by rw [G.len i hi]; omega
      rw [List.getD_eq_getElem?_getD (l := H.getD i []), List.getElem?_eq_none this]
      simp
  · have e : H.getD i [] = [] := by simp [List.getD_eq_getElem?_getD, List.getElem?_eq_none (Nat.le_of_not_lt hi)]
    rw [e]
    simp
theorem quadX_grid {H : List (List Int)} {m : Nat} (G : Grid H m) : quadX H = qT (cellS H) 11 0 0 H.length m := by
  unfold quadX
  rw [if_pos G.to]
  have : (H.getD 0 []).length = m := G.len 0 (by have := G.n1; omega)
  rw [this]
theorem runR_grid {s : ByteArray} {n m : Nat} {H : List (List Int)} (h : IsRead s n m H) : runR (codes s) (startR n m) = some ⟨overP (fun _ _ => 0) (cellS H) 0 n 0 m, [], 0⟩ := by
  obtain ⟨G, rfl, rfl⟩ := h
  have h1 := runR_qT (cellS H) (cellS_hts G) 11 0 0 H.length m (fun _ _ => 0) [] [] (Nat.zero_le _) (Nat.zero_le _) (by have := G.n5; have := G.m5; omega)
  rw [List.append_nil] at h1
  rw [quadX_grid G]
  exact h1
theorem tabR_over {n m : Nat} {H : List (List Int)} (G : Grid H m) (hn : H.length = n) : tabR n m (overP (fun _ _ => 0) (cellS H) 0 n 0 m) = H := by
  subst hn
  have h1 : tabR H.length m (overP (fun _ _ => 0) (cellS H) 0 H.length 0 m) = tabR H.length m (fun i j => (H.getD i []).getD j 0) := by
    apply tabR_congr
    intro i j hi hj
    unfold overP
    rw [if_pos (by omega)]
    rfl
  rw [h1]
  exact tabR_self G.len
/-- There is one grid at most. -/
theorem IsRead.tab {s : ByteArray} {n m : Nat} {H : List (List Int)} (h : IsRead s n m H) {st : RS} (hs : runR (codes s) (startR n m) = some st) : tabR n m st.f = H := by
  rw [runR_grid h] at hs
  cases hs
  exact tabR_over h.1 h.2.1
theorem IsRead.one {s : ByteArray} {n m : Nat} {H K : List (List Int)} (h : IsRead s n m H) (k : IsRead s n m K) : H = K := by
  have := h.tab (runR_grid k)
  rw [tabR_over k.1 k.2.1] at this
  exact this.symm
theorem text_ne {a b : ByteArray} (h : ¬ a = b) : (a.toList == b.toList) = false := by
  rw [beq_eq_false_iff_ne, ByteArray.toList_eq, ByteArray.toList_eq]
  intro e
  apply h
  obtain ⟨⟨a⟩⟩ := a
  obtain ⟨⟨b⟩⟩ := b
  simp only at e
  rw [e]
theorem text_eq {a b : ByteArray} (h : a = b) : (a.toList == b.toList) = true := by
  subst h
  simp
def GridOfPost (s : ByteArray) (n m : Nat) (w : World) (e : Ending) (w' : World) : Prop :=
  Grew w w' ∧ ((∃ v H, e = .returned (.tuple #[v, .nilIface]) ∧ RowsO 28 3 w.heap.size w'.heap.size w' v H ∧ IsRead s n m H) ∨ ((∀ H, ¬ IsRead s n m H) ∧ e = .returned (.tuple #[.slice none 0 0, .iface 51 (.string s)])))
theorem PartsV.iter {lo B k : Nat} {w : World} {v : Value} {q : List (Nat × Nat × Nat × Nat)} (h : PartsV lo B w v q) {s : ByteArray} {p : Nat} (hk : w.heap[k]? = some (.stringIter s p)) (p' : Nat) : PartsV lo B (w.iterAt k s p') v q :=
  h.keep fun g o x _ _ hc => by
    have hne : g ≠ k := by
      rintro rfl
      simp [World.cell?, hk] at hc
    have e : (w.iterAt k s p').heap[g]? = w.heap[g]? := Lib.iterAt_other w k g s p' hne
    simp only [World.cell?, e]
    exact hc
theorem iterAt_within {k : Nat} {w : World} (s : ByteArray) (p : Nat) : Within k (k + 1) w (w.iterAt k s p) :=
  ⟨rfl, rfl, rfl, by rw [Lib.iterAt_size]; exact Nat.le_refl _, fun i _ ho => Lib.iterAt_other w k i s p (by omega)⟩

set_option maxRecDepth 100000 in
set_option maxHeartbeats 4000000 in
theorem gridOf_any (s : ByteArray) (n m : Nat) (w : World) (hn1 : 1 ≤ n) (hn5 : n ≤ 5) (hm1 : 1 ≤ m) (hm5 : m ≤ 5) :
    Calls Tryd.prog 24 #[.string s, .int .i64 n, .int .i64 m] w (GridOfPost s n m w) := by
  have HN := Lib.hid (And.intro (And.intro hn1 hn5) (And.intro hm1 hm5))
  have HNO := Lib.hid (noughts_any n m w (by omega) hm1 (by omega))
  have HPQ : Hid (∀ e w', GridOfPost s n m w e w' ↔ (Grew w w' ∧ ((∃ v H, e = .returned (.tuple #[v, .nilIface]) ∧ RowsO 28 3 w.heap.size w'.heap.size w' v H ∧ IsRead s n m H) ∨ ((∀ H, ¬ IsRead s n m H) ∧ e = .returned (.tuple #[.slice none 0 0, .iface 51 (.string s)]))))) := Lib.hid fun _ _ => Iff.rfl
  clear hn1 hn5 hm1 hm5
  go_enter Tryd.func24, Tryd.ntmps24
  go_wp2_with (fail)
  refine HNO.out.mono ?_
  rintro e w1 ⟨v1, rfl, hO1, hg1⟩
  obtain ⟨g, c1, rfl, hgl, hgh, hgc, _⟩ := hO1.pos (by rw [tabR_len]; exact HN.out.1.1)
  rw [tabR_len] at hO1 hgc ⊢
  obtain ⟨u, hcu, hU⟩ := hO1.at rfl (i := 0) (by rw [tabR_len]; exact HN.out.1.1)
  obtain ⟨a1, cu, rfl⟩ : ∃ a c, u = .slice a m c := by
    obtain ⟨a, c, e⟩ := hU.pos (by rw [tabR_rowlen _ _ _ _ HN.out.1.1]; exact HN.out.2.1)
    rw [tabR_rowlen _ _ _ _ HN.out.1.1] at e
    exact ⟨_, _, e.1⟩
  have HO1 := Lib.hid hO1
  have HG1 := Lib.hid hg1
  have HWH := Lib.hid (wholeOf_any g 0 c1 n m a1 cu w1 HN.out.1.1 hcu)
  clear hO1 hg1 hcu hU HNO hgl hgh
  go_wp2_with (fail)
  refine HWH.out.mono ?_
  rintro e w2 ⟨rfl, hg2⟩
  have HG2 := Lib.hid hg2
  clear hg2 HWH
  go_wp2_with (fail)
  obtain ⟨B, eB⟩ : ∃ B, w2.heap.size + 1 = B := ⟨_, rfl⟩
  obtain ⟨HV, eHV⟩ : ∃ x, Value.slice (some ⟨g, 0, none⟩) n c1 = x := ⟨_, rfl⟩
  obtain ⟨W5, eW5⟩ : ∃ W, (((w2.alloc (.cells #[.int .i64 0, .int .i64 n, .int .i64 0, .int .i64 m] 44)).alloc (.cells #[HV, .slice (some ⟨w2.heap.size, 0, none⟩) 1 1, .int .i64 0] 72)).iter s 0) = W := ⟨_, rfl⟩
  have eW6 : ((w2.alloc (.cells #[.int .i64 0, .int .i64 n, .int .i64 0, .int .i64 m] 44)).alloc (.cells #[HV, .slice (some ⟨w2.heap.size, 0, none⟩) 1 1, .int .i64 0] 72)).alloc (.stringIter s 0) = W5 := eW5
  have hlohi : w.heap.size ≤ w1.heap.size := HG1.out.size
  have hhiB : w1.heap.size ≤ w2.heap.size := HG2.out.size
  have HLB : Hid (w.heap.size ≤ B ∧ w1.heap.size ≤ B) := Lib.hid ⟨by omega, by omega⟩
  have hG25 : Grew w2 W5 := by rw [← eW5]; exact (((Grew.refl w2).alloc _).alloc _).alloc _
  have HI0 : Hid (∃ lv st, runR ((codes s).take 0) (startR n m) = some st ∧ W5.heap[B + 1]? = some (.stringIter s 0) ∧ QR B W5 HV lv st.num ∧ PartsV w1.heap.size B W5 lv st.q ∧ RowsO 28 3 w.heap.size w1.heap.size W5 HV (tabR n m st.f) ∧ Grew w W5) := Lib.hid (by
    refine ⟨.slice (some ⟨w2.heap.size, 0, none⟩) 1 1, startR n m, rfl, ?_, ?_, ?_, ?_, (HG1.out.trans HG2.out).trans hG25⟩
    · rw [← eW6, ← eB]
      have := heap_alloc_new ((w2.alloc (.cells #[.int .i64 0, .int .i64 n, .int .i64 0, .int .i64 m] 44)).alloc (.cells #[HV, .slice (some ⟨w2.heap.size, 0, none⟩) 1 1, .int .i64 0] 72)) (.stringIter s 0)
      rwa [show ((w2.alloc (.cells #[.int .i64 0, .int .i64 n, .int .i64 0, .int .i64 m] 44)).alloc (.cells #[HV, .slice (some ⟨w2.heap.size, 0, none⟩) 1 1, .int .i64 0] 72)).heap.size = w2.heap.size + 1 + 1 by simp] at this
    · have eb : (w2.alloc (.cells #[.int .i64 0, .int .i64 n, .int .i64 0, .int .i64 m] 44)).heap.size = B := by simp [eB]
      have hbl : W5.heap[B]? = some (.cells #[HV, .slice (some ⟨w2.heap.size, 0, none⟩) 1 1, .int .i64 0] 72 (0, 0)) := by
        rw [← eW6, heap_alloc_old _ _ (by simp; omega)]
        have := heap_alloc_new (w2.alloc (.cells #[.int .i64 0, .int .i64 n, .int .i64 0, .int .i64 m] 44)) (.cells #[HV, .slice (some ⟨w2.heap.size, 0, none⟩) 1 1, .int .i64 0] 72)
        rwa [eb] at this
      simp [QR, startR, World.cell?, World.frozen?, hbl]
    · refine ⟨w2.heap.size, 0, 1, rfl, ⟨Nat.le_refl _, by decide⟩, ⟨hhiB, by omega⟩, fun i hi => ?_⟩
      have hi4 : i = 0 ∨ i = 1 ∨ i = 2 ∨ i = 3 := by have : i < 1 * 4 := hi; omega
      have hbl : W5.heap[w2.heap.size]? = some (.cells #[.int .i64 0, .int .i64 n, .int .i64 0, .int .i64 m] 44 (0, 0)) := by
        rw [← eW6, heap_alloc_old _ _ (by simp; omega), heap_alloc_old _ _ (by simp)]
        exact heap_alloc_new _ _
      rcases hi4 with rfl | rfl | rfl | rfl <;> simp [startR, flatP, World.cell?, hbl]
    · rw [← eHV]
      exact HO1.out.grew (HG2.out.trans hG25))
  have HEV : Hid (Value.slice (some ⟨g, 0, none⟩) n c1 = HV) := Lib.hid eHV
  rw [eHV, eB, eW5]
  clear eB eHV eW5 eW6 hlohi hhiB hG25 HO1 HG1 HG2 hgc
  go_loopg [11] s.size (fun gk cv wr => ∃ pos : Nat, cv = cv ∧ pos ≤ s.size ∧ s.size ≤ gk + pos ∧ Hid (∃ lv st, runR ((codes s).take pos) (startR n m) = some st ∧ wr.heap[B + 1]? = some (.stringIter s pos) ∧ QR B wr HV lv st.num ∧ PartsV w1.heap.size B wr lv st.q ∧ RowsO 28 3 w.heap.size w1.heap.size wr HV (tabR n m st.f) ∧ Grew w wr))
  case atStart => exact ⟨0, rfl, Nat.zero_le _, Nat.le_refl _, HI0⟩
  case round =>
    obtain ⟨pos, -, hp1, hp2, HI⟩ := hrel
    obtain ⟨lv, st, hrun, hit, hq, hpv, hO, hg⟩ := HI.out
    have hBl : B < wr.heap.size := World.block_lt_of_cell? _ _ hq.1
    have hIl : B + 1 < wr.heap.size := (Array.getElem?_eq_some_iff.1 hit).1
    have HP := Lib.hid (And.intro hp1 hp2)
    clear hp1 hp2
    by_cases hlt : pos < s.size
    · have hnx : ∀ ty, (Instr.next (.pointer (some ⟨B + 1, 0, none⟩)) true ty).run Tryd.prog wr = _ := fun ty => Lib.run_next_any_at wr (B + 1) s pos ty hit hlt
      obtain ⟨c, ec⟩ : ∃ c, (Utf8.decode s pos).1 = c := ⟨_, rfl⟩
      obtain ⟨wd, ewd⟩ : ∃ wd, (Utf8.decode s pos).2 = wd := ⟨_, rfl⟩
      have HC : Hid (stepR c st = stepR (s[pos]'hlt).toNat st ∧ (stepR c st ≠ none → wd = 1)) := Lib.hid (by
        by_cases ha : (s[pos]'hlt).toNat < 128
        · have hd := decode_ascii s pos hlt ha
          rw [← ec, ← ewd, hd]
          exact ⟨rfl, fun _ => rfl⟩
        · have hd := (decode_high s pos hlt (by omega)).1
          rw [ec] at hd
          rw [stepR_high c st hd, stepR_high _ st (by omega)]
          exact ⟨rfl, fun h => absurd rfl h⟩)
      rw [ec, ewd] at hnx
      obtain ⟨wi, ewi⟩ : ∃ wi, wr.iterAt (B + 1) s (pos + wd) = wi := ⟨_, rfl⟩
      rw [ewi] at hnx
      have hwi : Within (B + 1) (B + 1 + 1) wr wi := by rw [← ewi]; exact iterAt_within s _
      have HIT : Hid (wi.heap[B + 1]? = some (.stringIter s (pos + wd))) := Lib.hid (by rw [← ewi]; exact Lib.iterAt_heap wr (B + 1) s pos _ hit)
      have HQI : Hid (QR B wi HV lv st.num) := Lib.hid (hq.within hwi (.inl (Nat.lt_succ_self _)))
      have HPI : Hid (PartsV w1.heap.size B wi lv st.q) := Lib.hid (by rw [← ewi]; exact hpv.iter hit _)
      have HOI : Hid (RowsO 28 3 w.heap.size w1.heap.size wi HV (tabR n m st.f)) := Lib.hid (hO.within hwi (.inl (Nat.le_succ_of_le HLB.out.2)))
      have HGI : Hid (Grew w wi) := Lib.hid (Within.grew hg hwi (Nat.le_succ_of_le HLB.out.1))
      have HSI : Hid (B + 1 < wi.heap.size) := Lib.hid (by have := hwi.size; omega)
      have HINV : Hid (RInv n m st) := Lib.hid (runR_inv HN.out.1.2 HN.out.2.2 _ _ _ (startR_inv n m HN.out.1.2 HN.out.2.2) hrun)
      have HRUN := Lib.hid hrun
      have HRD := Lib.hid (read_any c B wi HV lv n m w.heap.size w1.heap.size st HN.out.1.1 HN.out.1.2 HN.out.2.1 HN.out.2.2 HLB.out.1 HLB.out.2 HINV.out HQI.out HPI.out HOI.out)
      have HLT := Lib.hid hlt
      clear hrun hit hq hpv hO hg hBl hIl ec ewd ewi hwi HI HI0
      go_wp2_with (fail)
      refine HRD.out.mono ?_
      rintro e w6 hpost
      cases hs : stepR c st with
      | none =>
        rw [hs] at hpost
        obtain ⟨rfl, hW6⟩ := hpost
        have HF : Hid (Grew w w6 ∧ ∀ H, ¬ IsRead s n m H) := Lib.hid ⟨Within.grew HGI.out hW6 (Nat.le_refl _), fun H h => by
          have h1 := runR_grid h
          rw [← List.take_append_drop (pos + 1) (codes s), runR_append, codes_take s pos HLT.out, runR_snoc, HRUN.out] at h1
          rw [show (some st).bind (stepR (s[pos]'HLT.out).toNat) = stepR (s[pos]'HLT.out).toNat st from rfl, ← HC.out.1, hs] at h1
          cases h1⟩
        clear hW6 hs
        go_wp2
        go_ret2
        exact (HPQ.out _ _).2 ⟨HF.out.1, .inr ⟨HF.out.2, rfl⟩⟩
      | some st' =>
        rw [hs] at hpost
        obtain ⟨rfl, lv', hq6, hp6, hO6, hW6⟩ := hpost
        have hwd : wd = 1 := HC.out.2 (by rw [hs]; simp)
        have HN6 : Hid (∃ lv st, runR ((codes s).take (pos + 1)) (startR n m) = some st ∧ w6.heap[B + 1]? = some (.stringIter s (pos + 1)) ∧ QR B w6 HV lv st.num ∧ PartsV w1.heap.size B w6 lv st.q ∧ RowsO 28 3 w.heap.size w1.heap.size w6 HV (tabR n m st.f) ∧ Grew w w6) := Lib.hid (by
          refine ⟨lv', st', ?_, ?_, hq6, hp6, hO6, Within.grew HGI.out hW6 (Nat.le_refl _)⟩
          · rw [codes_take s pos HLT.out, runR_snoc, HRUN.out]
            rw [show (some st).bind (stepR (s[pos]'HLT.out).toNat) = stepR (s[pos]'HLT.out).toNat st from rfl, ← HC.out.1, hs]
          · have := HIT.out
            rw [hwd] at this
            rw [hW6.block (B + 1) HSI.out (.inr (Nat.le_refl _))]
            exact this)
        clear hq6 hp6 hO6 hW6 hwd hs
        go_wp2
        go_roundg (gk - 1)
        case measure => have := HP.out; have := HLT.out; omega
        case rel => exact ⟨pos + 1, trivial, HLT.out, by have := HP.out; omega, HN6⟩
    · obtain rfl : pos = s.size := by have := HP.out; omega
      have hnx : ∀ ty, (Instr.next (.pointer (some ⟨B + 1, 0, none⟩)) true ty).run Tryd.prog wr = _ := fun ty => Lib.run_next_end_at wr (B + 1) s s.size ty hit hlt
      have hcl : (codes s).take s.size = codes s := by rw [← codes_len s, List.take_length]
      rw [hcl] at hrun
      have hinv := runR_inv HN.out.1.2 HN.out.2.2 _ _ _ (startR_inv n m HN.out.1.2 HN.out.2.2) hrun
      have HGR : Hid (Grid (tabR n m st.f) m) := Lib.hid (tabR_grid HN.out.1.1 HN.out.1.2 HN.out.2.1 HN.out.2.2 hinv.hts)
      have HRUN := Lib.hid hrun
      have HO := Lib.hid hO
      have HG := Lib.hid hg
      have HQD := Lib.hid (QuadOf_any HV (tabR n m st.f) wr hO.toV)
      unfold TextPost at HQD
      clear hit hq hpv hO hg hBl hIl HI HI0 hrun hinv hcl
      go_wp2_with (fail)
      refine HQD.out.mono ?_
      rintro e w6 ⟨rfl, hg6⟩
      have HG6 := Lib.hid hg6
      clear hg6 hnx
      by_cases hqs : quadX (tabR n m st.f) = s
      · have HF : Hid (Grew w w6 ∧ RowsO 28 3 w.heap.size w6.heap.size w6 HV (tabR n m st.f) ∧ IsRead s n m (tabR n m st.f)) := Lib.hid ⟨HG.out.trans HG6.out, (HO.out.own.grew HG6.out).wide (Nat.le_refl _) HG6.out.size, HGR.out, tabR_len _ _ _, hqs⟩
        rw [hqs]
        clear hqs
        go_wp2
        go_ret2
        exact (HPQ.out _ _).2 ⟨HF.out.1, .inl ⟨_, _, rfl, HF.out.2⟩⟩
      · have HF : Hid (Grew w w6 ∧ ∀ H, ¬ IsRead s n m H) := Lib.hid ⟨HG.out.trans HG6.out, fun H h => hqs (by rw [h.tab HRUN.out]; exact h.2.2)⟩
        obtain ⟨Z, eZ⟩ : ∃ Z, quadX (tabR n m st.f) = Z := ⟨_, rfl⟩
        rw [eZ] at hqs ⊢
        have hne : (Z.toList == s.toList) = false := text_ne hqs
        clear eZ hqs
        go_wp2
        go_ret2
        exact (HPQ.out _ _).2 ⟨HF.out.1, .inr ⟨HF.out.2, rfl⟩⟩
end Go.Proofs.YtlfoimjohdaofaaDoor
