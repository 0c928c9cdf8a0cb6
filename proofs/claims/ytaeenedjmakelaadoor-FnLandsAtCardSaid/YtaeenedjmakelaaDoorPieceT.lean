/- How many pieces there are, as lists: by first cells and by searches. -/
import Derived.Test.YtaeenedjmakelaaDoorPieceM
import Derived.Test.YtaeenedjmakelaaDoorTouchM
namespace Go.Proofs.YtaeenedjmakelaaDoor

/-- Two cells with a side in common, or one. -/
def touchS (m : Nat) (i k : Nat) : Bool := decide ((((i / m : Nat) : Int) - (k / m : Nat)) * (((i / m : Nat) : Int) - (k / m : Nat)) + (((i % m : Nat) : Int) - (k % m : Nat)) * (((i % m : Nat) : Int) - (k % m : Nat)) ≤ 1)
def touchChk (n m : Nat) : Bool := (List.range (n * m)).all fun i => (List.range (n * m)).all fun k => touchS m i k == (decide (i = k) || decide ((k : Int) ∈ aroundL n m i))
theorem touch_chk : ∀ n, n < 6 → ∀ m, m < 6 → touchChk n m = true := by decide +kernel
theorem touch_iff {n m i k : Nat} (hn : n ≤ 5) (hm : m ≤ 5) (hi : i < n * m) (hk : k < n * m) : touchS m i k = true ↔ i = k ∨ (k : Int) ∈ aroundL n m i := by
  have h := touch_chk n (by omega) m (by omega)
  unfold touchChk at h
  rw [List.all_eq_true] at h
  have h1 := h i (List.mem_range.2 hi)
  rw [List.all_eq_true] at h1
  have h2 := h1 k (List.mem_range.2 hk)
  rw [beq_iff_eq] at h2
  rw [h2, Bool.or_eq_true, decide_eq_true_eq, decide_eq_true_eq]
theorem rt_reach {n m c x : Nat} {B : Nat → Bool} (hn : n ≤ 5) (hm : m ≤ 5) (hc : c < n * m) (hb : B c = true) (h : RT (n * m) (touchS m) B c x) : x < n * m ∧ Reach n m (bothB B) c x := by
  induction h with
  | refl => exact ⟨hc, .refl⟩
  | @step j k hj hk hbk hT ih =>
    refine ⟨hk, ?_⟩
    rcases (touch_iff hn hm ih.1 hk).1 hT with rfl | hT
    · exact ih.2
    · exact .step ih.2 hT (by unfold bothB; rw [hj.bel hb, hbk]; rfl)
theorem reach_rt {n m c x : Nat} {B : Nat → Bool} (hn : n ≤ 5) (hm : m ≤ 5) (hc : c < n * m) (h : Reach n m (bothB B) c x) : RT (n * m) (touchS m) B c x := by
  induction h with
  | refl => exact .refl
  | @step j k hj hk he ih =>
    have hjN := hj.lt hn hm hc
    have hkN := around_lt hn hm hjN hk
    unfold bothB at he
    rw [Bool.and_eq_true] at he
    exact .step ih hkN he.2 ((touch_iff hn hm hjN hkN).2 (.inr hk))
/-- A search begins where a piece has its first cell. -/
theorem lead_iff {n m k : Nat} {B : Nat → Bool} {f : List Int} (hn : n ≤ 5) (hm : m ≤ 5) (F : Flats n m (bothB B) f) (hk : k < n * m) (hb : B k = true) : LeadT (n * m) (touchS m) B k ↔ f.getD k 0 = k := by
  obtain ⟨j, e, hj, hr⟩ := F.ok k hk
  constructor
  · intro h
    rw [e]
    by_cases hjk : j = k
    · rw [hjk]
    · have hbj : B j = true := by
        rcases reach_both hr with h1 | h1
        · exact absurd h1 hjk
        · exact h1.2
      exact absurd ⟨j, by omega, hbj, reach_rt hn hm (hr.lt hn hm hk) (hr.symm (bothB_symm B) hn hm hk)⟩ h.2
  · intro h
    refine ⟨hb, ?_⟩
    rintro ⟨c, h1, h2, h3⟩
    have hc : c < n * m := by omega
    have h4 := F.reach hn hm hc (rt_reach hn hm hc h2 h3).2
    obtain ⟨d, e2, hd, _⟩ := F.ok c hc
    rw [h, e2] at h4
    omega
theorem head_mem (l : List Int) (h : 0 < l.length) : l.getD 0 0 ∈ l := by
  rw [List.getD_eq_getElem?_getD, List.getElem?_eq_getElem h]
  exact List.getElem_mem h
theorem pieces_cnt {n m : Nat} {B : Nat → Bool} {f : List Int} (hn : n ≤ 5) (hm : m ≤ 5) (F : Flats n m (bothB B) f) : ∀ k, k ≤ n * m → ((piecesT f (whereL k B)).length : Int) = cntT (n * m) (touchS m) B k
  | 0, _ => rfl
  | k + 1, hk => by
    have ih := pieces_cnt hn hm F k (by omega)
    have P := pieces_inv hn hm F k (by omega)
    rw [whereL_succ]
    cases hB : B k with
    | false =>
      rw [cntT_no (fun h => by have h1 := h.1; rw [hB] at h1; cases h1)]
      simpa using ih
    | true =>
      rw [if_pos rfl, piecesT_snoc, Int.toNat_natCast]
      obtain ⟨j, e, hj, hr⟩ := F.ok k (by omega)
      have hheads : ∀ r, r < (piecesT f (whereL k B)).length → ((piecesT f (whereL k B)).getD r []).getD 0 0 ∈ whereL k B := fun r hrl => by
        obtain ⟨G, g1, g2, g3⟩ := P.fits r hrl
        have hm0 := head_mem _ g3
        exact (P.holds hrl hm0).1
      by_cases hl : f.getD k 0 = k
      · rw [cntT_yes ((lead_iff hn hm F (by omega) hB).2 hl), addAt_none, List.length_append, List.length_singleton]
        · omega
        · intro r hrl he
          obtain ⟨x, hx, _, ex⟩ := (whereL_mem _ _ _).1 (hheads r hrl)
          omega
      · rw [cntT_no (fun h => hl ((lead_iff hn hm F (by omega) hB).1 h))]
        have hjk : j < k := by
          rcases Nat.lt_or_ge j k with h | h
          · exact h
          · exact absurd (by rw [e, show j = k by omega]) hl
        have hBj : B j = true := by
          rcases reach_both hr with h | h
          · omega
          · exact h.2
        have hfj : f.getD j 0 = f.getD k 0 := F.reach hn hm (by omega) hr
        obtain ⟨r, hrl, hmr⟩ := P.all j ((whereL_mem _ _ _).2 ⟨j, hjk, hBj, rfl⟩)
        obtain ⟨G, g1, g2, g3⟩ := P.fits r hrl
        have hG : f.getD (j : Int).toNat 0 = G := by
          rw [g1, List.mem_filter] at hmr
          simpa using hmr.2
        rw [Int.toNat_natCast] at hG
        obtain ⟨r0, ⟨h1, h2⟩, h3⟩ := least_of (fun r => r < (piecesT f (whereL k B)).length ∧ ((piecesT f (whereL k B)).getD r []).getD 0 0 = f.getD k 0) r ⟨hrl, by rw [g2, ← hG, hfj]⟩
        rw [addAt_found _ _ _ r0 h1 (fun s hs he => by have := h3 s ⟨by omega, he⟩; omega) h2, List.length_set]
        exact ih
end Go.Proofs.YtaeenedjmakelaaDoor
