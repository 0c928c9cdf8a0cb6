/- Ponds, as lists: what they hold up to a level, and how that goes with the level. -/
import Derived.Test.YtkhgcfchaogccaaDoorPieceM
import Derived.Test.YtkhgcfchaogccaaDoorRiseM
namespace Go.Proofs.YtkhgcfchaogccaaDoor

def lowB (p : List Int) (lv : Int) (i : Nat) : Bool := decide (p.getD i 0 < lv)
/-- Is k in the pond of i up to the level? -/
noncomputable def inP (n m : Nat) (p : List Int) (lv : Int) (i k : Nat) : Bool := lowB p lv i && inB (lowB p lv) (flatsL n m (bothB (lowB p lv))) i k
noncomputable def pondL (n m : Nat) (p : List Int) (lv : Int) (i : Nat) : List Int := whereL (n * m) (inP n m p lv i)
noncomputable def pondC (n m : Nat) (p : List Int) (lv : Int) (i : Nat) : Int := sumTo (fun k => if inP n m p lv i k = true then 1 else 0) (n * m)
noncomputable def pondW (n m : Nat) (p : List Int) (lv : Int) (i : Nat) : Int := sumTo (fun k => if inP n m p lv i k = true then lv - p.getD k 0 else 0) (n * m)
theorem inP_low {n m : Nat} {p : List Int} {lv : Int} {i k : Nat} (h : inP n m p lv i k = true) : p.getD i 0 < lv ∧ p.getD k 0 < lv := by
  simp only [inP, inB, lowB, Bool.and_eq_true, decide_eq_true_eq] at h
  exact ⟨h.1, h.2.1⟩
/-- In the pond is what is reached over lower cells. -/
theorem inP_reach {n m : Nat} {p : List Int} {lv : Int} {i k : Nat} (hn : n ≤ 5) (hm : m ≤ 5) (hi : i < n * m) (hk : k < n * m) : inP n m p lv i k = true ↔ p.getD i 0 < lv ∧ Reach n m (bothB (lowB p lv)) i k := by
  have F := flatsL_ok (bothB_symm (lowB p lv)) hn hm
  constructor
  · intro h
    refine ⟨(inP_low h).1, ?_⟩
    simp only [inP, inB, Bool.and_eq_true, beq_iff_eq] at h
    obtain ⟨_, _, he⟩ := h
    obtain ⟨j, e1, _, h1⟩ := F.ok k hk
    obtain ⟨j2, e2, _, h2⟩ := F.ok i hi
    have : j = j2 := by rw [he, e2] at e1; omega
    subst this
    exact h2.trans (h1.symm (bothB_symm _) hn hm hk)
  · rintro ⟨h1, h2⟩
    have hl : lowB p lv i = true := decide_eq_true h1
    have hlk : lowB p lv k = true := by
      rcases reach_both h2 with rfl | h
      · exact hl
      · exact h.2
    simp only [inP, inB, Bool.and_eq_true, beq_iff_eq]
    exact ⟨hl, hlk, F.reach hn hm hi h2⟩
theorem pondL_eq {n m : Nat} {p : List Int} {lv : Int} {i : Nat} (h : lowB p lv i = true) : pondL n m p lv i = whereL (n * m) (inB (lowB p lv) (flatsL n m (bothB (lowB p lv))) i) := by
  unfold pondL
  congr 1
  funext k
  simp [inP, h]
theorem pondL_none {n m : Nat} {p : List Int} {lv : Int} {i : Nat} (h : lowB p lv i = false) : pondL n m p lv i = [] := by
  have : inP n m p lv i = fun _ => false := by funext k; simp [inP, h]
  unfold pondL whereL
  rw [this]
  simp
theorem pondL_len (n m : Nat) (p : List Int) (lv : Int) (i : Nat) : ((pondL n m p lv i).length : Int) = pondC n m p lv i := len_whereL _ _
theorem pondL_sum (n m : Nat) (p : List Int) (lv : Int) (i : Nat) : sumTo (fun j => lv - p.getD ((pondL n m p lv i).getD j 0).toNat 0) (pondL n m p lv i).length = pondW n m p lv i := by
  have := sumTo_whereL (inP n m p lv i) (fun x => lv - p.getD x.toNat 0) (n * m)
  unfold pondL pondW
  rw [this]
  rfl
theorem reach_up {n m : Nat} {p : List Int} {lv lv' : Int} (h : lv ≤ lv') {i k : Nat} (hr : Reach n m (bothB (lowB p lv)) i k) : Reach n m (bothB (lowB p lv')) i k := by
  induction hr with
  | refl => exact .refl
  | step _ hk he ih =>
    refine .step ih hk ?_
    simp only [bothB, lowB, Bool.and_eq_true, decide_eq_true_eq] at he ⊢
    omega
theorem inP_up {n m : Nat} {p : List Int} {lv lv' : Int} {i k : Nat} (hn : n ≤ 5) (hm : m ≤ 5) (hi : i < n * m) (hk : k < n * m) (h : lv ≤ lv') (hp : inP n m p lv i k = true) : inP n m p lv' i k = true := by
  rw [inP_reach hn hm hi hk] at hp ⊢
  exact ⟨by omega, reach_up h hp.2⟩
theorem inP_self {n m : Nat} {p : List Int} {lv : Int} {i : Nat} (h : p.getD i 0 < lv) : inP n m p lv i i = true := by
  simp only [inP, inB, lowB, Bool.and_eq_true, decide_eq_true_eq, beq_self_eq_true, and_true]
  exact ⟨h, h⟩
theorem pondC_zero {n m : Nat} {p : List Int} {lv : Int} {i : Nat} (hi : i < n * m) : pondC n m p lv i = 0 ↔ lv ≤ p.getD i 0 := by
  constructor
  · intro h
    have := sumTo_eq_zero (f := fun k => if inP n m p lv i k = true then 1 else 0) (k := n * m) (fun k _ => by split <;> omega) h i hi
    by_cases hl : p.getD i 0 < lv
    · rw [if_pos (inP_self hl)] at this; omega
    · omega
  · intro h
    unfold pondC
    rw [sumTo_congr (g := fun _ => 0), sumTo_zero]
    intro k _
    rw [if_neg]
    intro h2
    have := (inP_low h2).1
    omega
theorem pondC_nonneg (n m : Nat) (p : List Int) (lv : Int) (i : Nat) : 0 ≤ pondC n m p lv i := by rw [← pondL_len]; omega
theorem pondC_le (n m : Nat) (p : List Int) (lv : Int) (i : Nat) : pondC n m p lv i ≤ ((n * m : Nat) : Int) := by
  rw [← pondL_len]
  have := whereL_len (n * m) (inP n m p lv i)
  unfold pondL
  omega
theorem pondC_W (n m : Nat) (p : List Int) (lv : Int) (i : Nat) : pondC n m p lv i ≤ pondW n m p lv i := by
  refine sumTo_le fun k _ => ?_
  by_cases h : inP n m p lv i k = true
  · rw [if_pos h, if_pos h]; have := (inP_low h).2; omega
  · rw [if_neg h, if_neg h]; omega
theorem pondW_bd {n m : Nat} {p : List Int} {lv : Int} {i : Nat} (hp : ∀ k, k < n * m → 0 ≤ p.getD k 0) (hl : 0 ≤ lv ∧ lv ≤ 12) : 0 ≤ pondW n m p lv i ∧ pondW n m p lv i ≤ 12 * ((n * m : Nat) : Int) := by
  have := sumTo_bd (f := fun k => if inP n m p lv i k = true then lv - p.getD k 0 else 0) 0 12 (k := n * m) fun k hk => by
    have := hp k hk
    by_cases h : inP n m p lv i k = true
    · rw [if_pos h]; have := (inP_low h).2; omega
    · rw [if_neg h]; omega
  unfold pondW
  omega
theorem pond_up {n m : Nat} {p : List Int} {lv lv' : Int} {i : Nat} (hn : n ≤ 5) (hm : m ≤ 5) (hi : i < n * m) (h : lv ≤ lv') : pondC n m p lv i ≤ pondC n m p lv' i ∧ pondW n m p lv i ≤ pondW n m p lv' i := by
  constructor
  · refine sumTo_le fun k hk => ?_
    by_cases h2 : inP n m p lv i k = true
    · rw [if_pos h2, if_pos (inP_up hn hm hi hk h h2)]; omega
    · rw [if_neg h2]; split <;> omega
  · refine sumTo_le fun k hk => ?_
    by_cases h2 : inP n m p lv i k = true
    · rw [if_pos h2, if_pos (inP_up hn hm hi hk h h2)]; omega
    · rw [if_neg h2]
      by_cases h3 : inP n m p lv' i k = true
      · rw [if_pos h3]; have := (inP_low h3).2; omega
      · rw [if_neg h3]; omega
theorem pond_one {n m : Nat} {p : List Int} {lv : Int} {i : Nat} (hn : n ≤ 5) (hm : m ≤ 5) (hi : i < n * m) : pondW n m p lv i + pondC n m p lv i ≤ pondW n m p (lv + 1) i := by
  unfold pondW pondC
  rw [← sumTo_add]
  refine sumTo_le fun k hk => ?_
  by_cases h2 : inP n m p lv i k = true
  · rw [if_pos h2, if_pos h2, if_pos (inP_up hn hm hi hk (by omega) h2)]; omega
  · rw [if_neg h2, if_neg h2]
    by_cases h3 : inP n m p (lv + 1) i k = true
    · rw [if_pos h3]; have := (inP_low h3).2; omega
    · rw [if_neg h3]; omega
theorem pondW_zero {n m : Nat} {p : List Int} {i : Nat} (hp : 0 ≤ p.getD i 0) : pondW n m p 0 i = 0 := by
  unfold pondW
  rw [sumTo_congr (g := fun _ => 0), sumTo_zero]
  intro k _
  rw [if_neg]
  intro h2
  have := (inP_low h2).1
  omega
/-- The greatest number up to t at which g is at most c; 0 if there is none. -/
def topT (g : Nat → Int) (c : Int) : Nat → Nat
  | 0 => 0
  | t + 1 => if g (t + 1) ≤ c then t + 1 else topT g c t
theorem topT_le (g : Nat → Int) (c : Int) : ∀ t, topT g c t ≤ t
  | 0 => Nat.le_refl _
  | t + 1 => by
    rw [topT]
    split
    · exact Nat.le_refl _
    · have := topT_le g c t; omega
theorem topT_ok (g : Nat → Int) (c : Int) (h0 : g 0 ≤ c) : ∀ t, g (topT g c t) ≤ c
  | 0 => h0
  | t + 1 => by
    rw [topT]
    split
    · rename_i h; exact h
    · exact topT_ok g c h0 t
theorem topT_over (g : Nat → Int) (c : Int) : ∀ t k, topT g c t < k → k ≤ t → c < g k
  | 0, k, h, hk => by omega
  | t + 1, k, h, hk => by
    rw [topT] at h
    split at h
    · omega
    · rename_i h2
      by_cases e : k = t + 1
      · subst e; omega
      · exact topT_over g c t k h (by omega)
theorem topT_eq (g : Nat → Int) (c : Int) (t x : Nat) (hx : x ≤ t) (h1 : g x ≤ c) (h2 : ∀ k, x < k → k ≤ t → c < g k) (h0 : g 0 ≤ c) : topT g c t = x := by
  have a1 := topT_le g c t
  have a2 := topT_ok g c h0 t
  rcases Nat.lt_trichotomy (topT g c t) x with h | h | h
  · have := topT_over g c t x h hx; omega
  · exact h
  · have := h2 _ h a1; omega
/-- What PondAt and LevelFor answer. -/
noncomputable def pondOk (h : List (List Int)) (i lv : Int) : Bool := vCell h i && inR lv 0 12
noncomputable def pondAX (h : List (List Int)) (i lv : Int) : Int := if pondOk h i lv = true then pondC h.length (h.getD 0 []).length h.flatten lv i.toNat else -1
noncomputable def pondBX (h : List (List Int)) (i lv : Int) : Int := if pondOk h i lv = true then pondW h.length (h.getD 0 []).length h.flatten lv i.toNat else -1
noncomputable def levelX (h : List (List Int)) (i c : Int) : Int := if (vCell h i && decide (0 ≤ c)) = true then ((topT (fun l => pondW h.length (h.getD 0 []).length h.flatten l i.toNat) c 12 : Nat) : Int) else -1
end Go.Proofs.YtkhgcfchaogccaaDoor
