/- The least change to rows that do not fall, and to terraces, of numbers that are counted from 0. -/
import Derived.Test.YtkhgcfchaogccaaDoorSumTo
namespace Go.Proofs.YtkhgcfchaogccaaDoor

def iab (x : Int) : Int := max x (-x)
/-- The least of f 0, .., f t. -/
def mn (f : Nat → Int) : Nat → Int
  | 0 => f 0
  | t + 1 => min (mn f t) (f (t + 1))
theorem mn_le (f : Nat → Int) : ∀ (t y : Nat), y ≤ t → mn f t ≤ f y
  | 0, y, h => by obtain rfl : y = 0 := by omega
                  exact Int.le_refl _
  | t + 1, y, h => by
    rw [mn]
    by_cases e : y = t + 1
    · subst e; omega
    · have := mn_le f t y (by omega); omega
theorem mn_at (f : Nat → Int) : ∀ t : Nat, ∃ y, y ≤ t ∧ mn f t = f y
  | 0 => ⟨0, Nat.le_refl _, rfl⟩
  | t + 1 => by
    obtain ⟨y, hy, e⟩ := mn_at f t
    rw [mn]
    by_cases h : mn f t ≤ f (t + 1)
    · exact ⟨y, by omega, by omega⟩
    · exact ⟨t + 1, Nat.le_refl _, by omega⟩
theorem mn_congr {f g : Nat → Int} : ∀ {t : Nat}, (∀ y, y ≤ t → f y = g y) → mn f t = mn g t
  | 0, h => h 0 (Nat.le_refl _)
  | t + 1, h => by rw [mn, mn, mn_congr fun y hy => h y (by omega), h (t + 1) (Nat.le_refl _)]

theorem sumTo_nonneg {f : Nat → Int} : ∀ {k : Nat}, (∀ i, i < k → 0 ≤ f i) → 0 ≤ sumTo f k
  | 0, _ => Int.le_refl _
  | k + 1, h => by
    have := sumTo_nonneg (f := f) (k := k) fun i hi => h i (by omega)
    have := h k (by omega)
    rw [sumTo]; omega
theorem sumTo_eq_zero {f : Nat → Int} : ∀ {k : Nat}, (∀ i, i < k → 0 ≤ f i) → sumTo f k = 0 → ∀ i, i < k → f i = 0
  | 0, _, _, _, hi => absurd hi (Nat.not_lt_zero _)
  | k + 1, h, e, i, hi => by
    have h1 := sumTo_nonneg (f := f) (k := k) fun i hi => h i (by omega)
    have h2 := h k (by omega)
    rw [sumTo] at e
    by_cases e2 : i = k
    · rw [e2]; omega
    · exact sumTo_eq_zero (k := k) (fun i hi => h i (by omega)) (by omega) i (by omega)
theorem sumTo_first (f : Nat → Int) : ∀ k, sumTo f (k + 1) = f 0 + sumTo (fun i => f (i + 1)) k
  | 0 => by simp [sumTo]
  | k + 1 => by rw [sumTo, sumTo_first f k, sumTo]; omega
theorem sumTo_back (f : Nat → Int) : ∀ n, sumTo (fun i => f (n - 1 - i)) n = sumTo f n
  | 0 => rfl
  | n + 1 => by
    rw [sumTo_first, sumTo, ← sumTo_back f n, sumTo_congr (g := fun i => f (n - 1 - i)) fun i hi => by congr 1; omega]
    simp
    omega

/-- What the first k places of p cost, if none of them may be above t. -/
def riseT (p : Nat → Int) : Nat → Nat → Int
  | 0, _ => 0
  | k + 1, t => mn (fun x => riseT p k x + iab (p k - x)) t
def riseAt (p : Nat → Int) (k x : Nat) : Int := riseT p k x + iab (p k - x)
theorem riseT_zero (p : Nat → Int) (k : Nat) : riseT p (k + 1) 0 = riseT p k 0 + iab (p k - 0) := rfl
theorem riseT_succ (p : Nat → Int) (k t : Nat) : riseT p (k + 1) (t + 1) = min (riseT p (k + 1) t) (riseT p k (t + 1) + iab (p k - ((t + 1 : Nat) : Int))) := rfl
/-- x does not fall over the first n places. -/
def RiseN (x : Nat → Int) (n : Nat) : Prop := ∀ i, i + 1 < n → x i ≤ x (i + 1)
theorem riseT_le (p : Nat → Int) : ∀ (n t : Nat) (x : Nat → Int), RiseN x n → (∀ i, i < n → 0 ≤ x i ∧ x i ≤ t) → riseT p n t ≤ sumTo (fun i => iab (p i - x i)) n
  | 0, _, _, _, _ => Int.le_refl _
  | n + 1, t, x, hr, hb => by
    obtain ⟨h0, h1⟩ := hb n (by omega)
    obtain ⟨y, hy⟩ : ∃ y : Nat, x n = (y : Int) := ⟨(x n).toNat, by omega⟩
    have hm : ∀ d i, i + d = n → x i ≤ x n := by
      intro d
      induction d with
      | zero => intro i e; obtain rfl : i = n := by omega
                exact Int.le_refl _
      | succ d ih => intro i e; have := ih (i + 1) (by omega); have := hr i (by omega); omega
    have := riseT_le p n y x (fun i hi => hr i (by omega)) (fun i hi => ⟨(hb i (by omega)).1, by have := hm (n - i) i (by omega); omega⟩)
    have := mn_le (fun x => riseT p n x + iab (p n - x)) t y (by omega)
    simp only [riseT, sumTo]
    rw [hy]
    omega
theorem riseT_at (p : Nat → Int) : ∀ (n t : Nat), ∃ x : Nat → Int, RiseN x n ∧ (∀ i, i < n → 0 ≤ x i ∧ x i ≤ t) ∧ riseT p n t = sumTo (fun i => iab (p i - x i)) n
  | 0, _ => ⟨fun _ => 0, fun _ h => absurd h (by omega), fun _ h => absurd h (by omega), rfl⟩
  | n + 1, t => by
    obtain ⟨y, hy, e⟩ := mn_at (fun x => riseT p n x + iab (p n - x)) t
    obtain ⟨x, hr, hb, ex⟩ := riseT_at p n y
    refine ⟨fun i => if i < n then x i else y, fun i hi => ?_, fun i hi => ?_, ?_⟩
    · show (if i < n then x i else (y : Int)) ≤ (if i + 1 < n then x (i + 1) else (y : Int))
      rw [if_pos (show i < n by omega)]
      by_cases h : i + 1 < n
      · rw [if_pos h]; exact hr i h
      · rw [if_neg h]; exact (hb i (by omega)).2
    · show 0 ≤ (if i < n then x i else (y : Int)) ∧ (if i < n then x i else (y : Int)) ≤ (t : Int)
      by_cases h : i < n
      · rw [if_pos h]; have := hb i h; omega
      · rw [if_neg h]; omega
    · rw [riseT, e, sumTo, ex]
      congr 1
      · exact sumTo_congr fun i hi => by show _ = iab (p i - (if i < n then x i else (y : Int))); rw [if_pos hi]
      · show _ = iab (p n - (if n < n then x n else (y : Int))); rw [if_neg (Nat.lt_irrefl n)]
theorem iab_nonneg (x : Int) : 0 ≤ iab x := by unfold iab; omega
theorem iab_zero {x : Int} (h : iab x = 0) : x = 0 := by unfold iab at h; omega
theorem riseT_nonneg (p : Nat → Int) (n t : Nat) : 0 ≤ riseT p n t := by
  obtain ⟨x, _, _, e⟩ := riseT_at p n t
  rw [e]
  exact sumTo_nonneg fun i _ => iab_nonneg _
theorem riseT_le_const (p : Nat → Int) (n t x : Nat) (h : x ≤ t) : riseT p n t ≤ sumTo (fun i => iab (p i - x)) n :=
  riseT_le p n t (fun _ => x) (fun _ _ => Int.le_refl _) fun _ _ => by omega
/-- What rises costs nothing, and only that. -/
theorem rise_zero (p : Nat → Int) (n t : Nat) (hb : ∀ i, i < n → 0 ≤ p i ∧ p i ≤ t) : riseT p n t = 0 ↔ RiseN p n := by
  constructor
  · intro h
    obtain ⟨x, hr, _, e⟩ := riseT_at p n t
    rw [h] at e
    have hz := sumTo_eq_zero (fun i _ => iab_nonneg (p i - x i)) e.symm
    intro i hi
    have h1 := iab_zero (hz i (by omega))
    have h2 := iab_zero (hz (i + 1) hi)
    have := hr i hi
    omega
  · intro h
    have h1 := riseT_le p n t p h hb
    have h2 := riseT_nonneg p n t
    have h3 : sumTo (fun i => iab (p i - p i)) n = 0 := by
      rw [sumTo_congr (g := fun _ => 0) fun i _ => by simp [iab]]
      exact sumTo_zero n
    omega
theorem rise_flip_le (p q : Nat → Int) (n t : Nat) (hq : ∀ i, i < n → q i = t - p (n - 1 - i)) : riseT q n t ≤ riseT p n t := by
  obtain ⟨x, hr, hb, e⟩ := riseT_at p n t
  rw [e]
  have h1 := riseT_le q n t (fun i => t - x (n - 1 - i)) (fun i hi => by
    have := hr (n - 1 - (i + 1)) (by omega)
    rw [show n - 1 - (i + 1) + 1 = n - 1 - i by omega] at this
    show (t : Int) - x (n - 1 - i) ≤ t - x (n - 1 - (i + 1))
    omega) (fun i hi => by
    have := hb (n - 1 - i) (by omega)
    show 0 ≤ (t : Int) - x (n - 1 - i) ∧ (t : Int) - x (n - 1 - i) ≤ t
    omega)
  refine Int.le_trans h1 ?_
  rw [← sumTo_back (fun i => iab (p i - x i)) n]
  refine sumTo_le fun i hi => ?_
  rw [hq i hi]
  simp only [iab]
  omega
/-- Upside down the other way round it costs the same. -/
theorem rise_flip (p q : Nat → Int) (n t : Nat) (hq : ∀ i, i < n → q i = t - p (n - 1 - i)) : riseT q n t = riseT p n t := by
  have h1 := rise_flip_le p q n t hq
  have h2 := rise_flip_le q p n t fun i hi => by
    have := hq (n - 1 - i) (by omega)
    rw [show n - 1 - (n - 1 - i) = i by omega] at this
    omega
  omega
theorem riseT_bd (p : Nat → Int) (n t : Nat) (c : Nat) (hb : ∀ i, i < n → 0 ≤ p i ∧ p i ≤ c) (hc : t ≤ c) : riseT p n t ≤ c * n := by
  refine Int.le_trans (riseT_le_const p n t 0 (Nat.zero_le _)) ?_
  exact (sumTo_bd (f := fun i => iab (p i - ((0 : Nat) : Int))) 0 c fun i hi => by have := hb i hi; simp only [iab]; omega).2
end Go.Proofs.YtkhgcfchaogccaaDoor
