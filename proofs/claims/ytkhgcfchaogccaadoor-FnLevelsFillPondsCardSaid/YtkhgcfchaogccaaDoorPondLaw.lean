/- What the laws on ponds ask, of lists. -/
import Derived.Test.YtkhgcfchaogccaaDoorPondA
namespace Go.Proofs.YtkhgcfchaogccaaDoor

theorem cells_le25 {h : List (List Int)} (hg : vGrid h = true) : h.length * (h.getD 0 []).length ≤ 25 := by
  have G := Grid.of hg
  have := Nat.mul_le_mul G.n5 G.m5
  exact this
theorem pondOk_yes {h : List (List Int)} {i lv : Int} (hk : pondOk h i lv = true) : vGrid h = true ∧ 0 ≤ i ∧ i.toNat < h.length * (h.getD 0 []).length ∧ i.toNat < h.flatten.length ∧ 0 ≤ lv ∧ lv ≤ 12 := by
  unfold pondOk at hk
  rw [Bool.and_eq_true] at hk
  obtain ⟨h1, h2, h3, _⟩ := vCell_yes hk.1
  have h4 : 0 ≤ lv ∧ lv ≤ 12 := by simpa [inR] using hk.2
  exact ⟨h1, h2, h3, by rw [flat_grid_len (Grid.of h1)]; exact h3, h4.1, h4.2⟩
theorem pondAX_neg {h : List (List Int)} {i lv : Int} : pondAX h i lv < 0 ↔ ¬ pondOk h i lv = true := by
  unfold pondAX
  by_cases hk : pondOk h i lv = true
  · rw [if_pos hk]
    have := pondC_nonneg h.length (h.getD 0 []).length h.flatten lv i.toNat
    exact ⟨fun h => by omega, fun h => absurd hk h⟩
  · rw [if_neg hk]
    exact ⟨fun _ => hk, fun _ => by omega⟩
theorem pondBX_neg {h : List (List Int)} {i lv : Int} : pondBX h i lv < 0 ↔ ¬ pondOk h i lv = true := by
  unfold pondBX
  by_cases hk : pondOk h i lv = true
  · rw [if_pos hk]
    have := pondC_nonneg h.length (h.getD 0 []).length h.flatten lv i.toNat
    have := pondC_W h.length (h.getD 0 []).length h.flatten lv i.toNat
    exact ⟨fun h => by omega, fun h => absurd hk h⟩
  · rw [if_neg hk]
    exact ⟨fun _ => hk, fun _ => by omega⟩
theorem pondOk_small {h : List (List Int)} {i lv : Int} (hk : pondOk h i lv = true) : 0 ≤ pondAX h i lv ∧ pondAX h i lv ≤ 25 ∧ 0 ≤ pondBX h i lv ∧ pondBX h i lv ≤ 300 := by
  obtain ⟨hg, _, _, _, h1, h2⟩ := pondOk_yes hk
  have hc := cells_le25 hg
  unfold pondAX pondBX
  rw [if_pos hk, if_pos hk]
  have a1 := pondC_nonneg h.length (h.getD 0 []).length h.flatten lv i.toNat
  have a2 := pondC_le h.length (h.getD 0 []).length h.flatten lv i.toNat
  have a3 := pondW_bd (n := h.length) (m := (h.getD 0 []).length) (p := h.flatten) (lv := lv) (i := i.toNat) (fun k hk => (flat_bd hg k hk).1) ⟨h1, h2⟩
  omega
/-- FnPondAt. -/
theorem pond_law {h : List (List Int)} {i lv : Int} (hk : pondOk h i lv = true) : pondAX h i lv ≤ pondBX h i lv ∧ (pondAX h i lv = 0 ↔ lv ≤ h.flatten.getD i.toNat 0) ∧ (lv = 12 ∨ pondAX h i lv ≤ pondAX h i (lv + 1) ∧ pondBX h i lv + pondAX h i lv ≤ pondBX h i (lv + 1)) := by
  obtain ⟨hg, h0, hI, _, h1, h2⟩ := pondOk_yes hk
  have G := Grid.of hg
  have e1 : pondAX h i lv = pondC h.length (h.getD 0 []).length h.flatten lv i.toNat := if_pos hk
  have e2 : pondBX h i lv = pondW h.length (h.getD 0 []).length h.flatten lv i.toNat := if_pos hk
  rw [e1, e2]
  refine ⟨pondC_W _ _ _ _ _, pondC_zero hI, ?_⟩
  by_cases h12 : lv = 12
  · exact .inl h12
  · have hk2 : pondOk h i (lv + 1) = true := by
      unfold pondOk at hk ⊢
      rw [Bool.and_eq_true] at hk ⊢
      refine ⟨hk.1, ?_⟩
      simp [inR]
      omega
    have e3 : pondAX h i (lv + 1) = pondC h.length (h.getD 0 []).length h.flatten (lv + 1) i.toNat := if_pos hk2
    have e4 : pondBX h i (lv + 1) = pondW h.length (h.getD 0 []).length h.flatten (lv + 1) i.toNat := if_pos hk2
    rw [e3, e4]
    exact .inr ⟨(pond_up G.n5 G.m5 hI (by omega)).1, pond_one G.n5 G.m5 hI⟩
/-- FnLevelFor, and FnLevelsFillPonds. -/
theorem level_yes {h : List (List Int)} {i c : Int} (hl : ¬ levelX h i c < 0) : vCell h i = true ∧ 0 ≤ c := by
  unfold levelX at hl
  by_cases hk : (vCell h i && decide (0 ≤ c)) = true
  · rw [Bool.and_eq_true, decide_eq_true_eq] at hk; exact hk
  · rw [if_neg hk] at hl; omega
theorem level_law {h : List (List Int)} {i c : Int} (hv : vCell h i = true) (hc : 0 ≤ c) : 0 ≤ levelX h i c ∧ levelX h i c ≤ 12 ∧ pondOk h i (levelX h i c) = true ∧ pondBX h i (levelX h i c) ≤ c ∧ (∀ lv : Int, levelX h i c < lv → lv ≤ 12 → c < pondBX h i lv) := by
  obtain ⟨hg, h0, hI, _⟩ := vCell_yes hv
  have e : levelX h i c = ((topT (fun l => pondW h.length (h.getD 0 []).length h.flatten l i.toNat) c 12 : Nat) : Int) := if_pos (by rw [hv]; simpa using hc)
  have hz : (fun l : Nat => pondW h.length (h.getD 0 []).length h.flatten l i.toNat) 0 ≤ c := by
    have h2 := pondW_zero (n := h.length) (m := (h.getD 0 []).length) (p := h.flatten) (i := i.toNat) (flat_bd hg _ hI).1
    show pondW _ _ _ ((0 : Nat) : Int) _ ≤ _
    have : ((0 : Nat) : Int) = 0 := rfl
    rw [this, h2]
    exact hc
  have t1 := topT_le (fun l => pondW h.length (h.getD 0 []).length h.flatten l i.toNat) c 12
  have t2 := topT_ok (fun l => pondW h.length (h.getD 0 []).length h.flatten l i.toNat) c hz 12
  have t3 := topT_over (fun l => pondW h.length (h.getD 0 []).length h.flatten l i.toNat) c 12
  rw [e]
  obtain ⟨x, ex⟩ : ∃ x, topT (fun l => pondW h.length (h.getD 0 []).length h.flatten l i.toNat) c 12 = x := ⟨_, rfl⟩
  rw [ex] at t1 t2 t3 ⊢
  have hok : ∀ lv : Int, 0 ≤ lv → lv ≤ 12 → pondOk h i lv = true := fun lv a b => by
    unfold pondOk
    rw [hv]
    simp [inR]
    omega
  have hb : ∀ lv : Int, 0 ≤ lv → lv ≤ 12 → pondBX h i lv = pondW h.length (h.getD 0 []).length h.flatten lv i.toNat := fun lv a b => if_pos (hok lv a b)
  refine ⟨by omega, by omega, hok _ (by omega) (by omega), ?_, fun lv a b => ?_⟩
  · rw [hb _ (by omega) (by omega)]; exact t2
  · obtain ⟨k, rfl⟩ := Int.eq_ofNat_of_zero_le (show 0 ≤ lv by omega)
    rw [hb _ (by omega) (by omega)]
    exact t3 k (by omega) (by omega)
theorem fills_law {h : List (List Int)} {i lv : Int} (hk : pondOk h i lv = true) : lv ≤ levelX h i (pondBX h i lv) ∧ pondBX h i (levelX h i (pondBX h i lv)) = pondBX h i lv := by
  obtain ⟨hg, h0, hI, _, h1, h2⟩ := pondOk_yes hk
  have G := Grid.of hg
  have hv : vCell h i = true := by unfold pondOk at hk; rw [Bool.and_eq_true] at hk; exact hk.1
  obtain ⟨l1, l2, l3, l4, l5⟩ := level_law hv (pondOk_small hk).2.2.1
  obtain ⟨u, eu⟩ : ∃ u, levelX h i (pondBX h i lv) = u := ⟨_, rfl⟩
  rw [eu] at l1 l2 l3 l4 l5 ⊢
  have hle : lv ≤ u := by
    rcases Int.lt_or_le u lv with h | h
    · have := l5 lv h h2; omega
    · exact h
  refine ⟨hle, ?_⟩
  have e1 : pondBX h i u = pondW h.length (h.getD 0 []).length h.flatten u i.toNat := if_pos l3
  have e2 : pondBX h i lv = pondW h.length (h.getD 0 []).length h.flatten lv i.toNat := if_pos hk
  have := (pond_up (p := h.flatten) G.n5 G.m5 hI hle).2
  omega
end Go.Proofs.YtkhgcfchaogccaaDoor
