/- The least change to so many terraces, of numbers that are counted from 0. -/
import Derived.Test.YtlifjhhjkcmneaaRiseM
namespace Go.Proofs.Ytlifjhhjkcmneaa

/-- What one terrace of the places from a up to b costs: the least over the levels up to 12. -/
def awayT (p : Nat → Int) (a b : Nat) (x : Int) : Int := sumTo (fun i => iab (p (a + i) - x)) (b - a)
def levT (p : Nat → Int) (a b : Nat) : Int := mn (fun x => awayT p a b x) 12
/-- The least of c and of f 0, .., f (k - 1). -/
def mnTo (c : Int) (f : Nat → Int) : Nat → Int
  | 0 => c
  | k + 1 => min (mnTo c f k) (f k)
theorem mnTo_le (c : Int) (f : Nat → Int) : ∀ k, mnTo c f k ≤ c ∧ ∀ y, y < k → mnTo c f k ≤ f y
  | 0 => ⟨Int.le_refl _, fun y h => absurd h (Nat.not_lt_zero _)⟩
  | k + 1 => by
    obtain ⟨h1, h2⟩ := mnTo_le c f k
    rw [mnTo]
    refine ⟨by omega, fun y hy => ?_⟩
    by_cases e : y = k
    · subst e; omega
    · have := h2 y (by omega); omega
theorem mnTo_at (c : Int) (f : Nat → Int) : ∀ k, mnTo c f k = c ∨ ∃ y, y < k ∧ mnTo c f k = f y
  | 0 => .inl rfl
  | k + 1 => by
    rw [mnTo]
    by_cases h : mnTo c f k ≤ f k
    · rcases mnTo_at c f k with e | ⟨y, hy, e⟩
      · exact .inl (by omega)
      · exact .inr ⟨y, by omega, by omega⟩
    · exact .inr ⟨k, by omega, by omega⟩
theorem mnTo_congr {c : Int} {f g : Nat → Int} : ∀ {k : Nat}, (∀ y, y < k → f y = g y) → mnTo c f k = mnTo c g k
  | 0, _ => rfl
  | k + 1, h => by rw [mnTo, mnTo, mnTo_congr fun y hy => h y (by omega), h k (by omega)]
/-- What the first e places cost with at most k terraces; 109 for none. -/
def terrT (p : Nat → Int) : Nat → Nat → Int
  | 0, e => if e = 0 then 0 else 109
  | k + 1, e => mnTo (terrT p k e) (fun s => terrT p k s + levT p s e) e
theorem awayT_bd (p : Nat → Int) (n a b : Nat) (x : Int) (hb : ∀ i, i < n → 0 ≤ p i ∧ p i ≤ 12) (hbn : b ≤ n) (hx : 0 ≤ x ∧ x ≤ 12) : 0 ≤ awayT p a b x ∧ awayT p a b x ≤ 12 * ((b - a : Nat) : Int) := by
  have := sumTo_bd (f := fun i => iab (p (a + i) - x)) 0 12 (k := b - a) fun i hi => by have := hb (a + i) (by omega); simp only [iab]; omega
  simp only [awayT]
  omega
theorem levT_bd (p : Nat → Int) (n a b : Nat) (hb : ∀ i, i < n → 0 ≤ p i ∧ p i ≤ 12) (hbn : b ≤ n) : 0 ≤ levT p a b ∧ levT p a b ≤ 12 * ((b - a : Nat) : Int) := by
  unfold levT
  obtain ⟨y, hy, e⟩ := mn_at (fun x => awayT p a b x) 12
  rw [e]
  exact awayT_bd p n a b y hb hbn (by omega)
theorem terrT_zero (p : Nat → Int) : ∀ k, terrT p k 0 = 0
  | 0 => rfl
  | k + 1 => by rw [terrT, mnTo, terrT_zero p k]
theorem terrT_mono (p : Nat → Int) (k e : Nat) : terrT p (k + 1) e ≤ terrT p k e := (mnTo_le _ _ e).1
theorem terrT_one (p : Nat → Int) (n : Nat) (hb : ∀ i, i < n → 0 ≤ p i ∧ p i ≤ 12) (h9 : n ≤ 9) (e : Nat) (he : 1 ≤ e) (hen : e ≤ n) : terrT p 1 e = levT p 0 e := by
  have h0 : terrT p 0 e = 109 := by show (if e = 0 then (0 : Int) else 109) = 109; rw [if_neg (by omega)]
  have hl := levT_bd p n 0 e hb hen
  rw [terrT]
  have h1 := (mnTo_le (terrT p 0 e) (fun s => terrT p 0 s + levT p s e) e).2 0 (by omega)
  simp only [terrT_zero] at h1
  rcases mnTo_at (terrT p 0 e) (fun s => terrT p 0 s + levT p s e) e with h | ⟨y, hy, h⟩
  · rw [h, h0] at h1 ⊢; omega
  · rw [h]
    show terrT p 0 y + levT p y e = _
    by_cases hy0 : y = 0
    · rw [hy0, terrT_zero]; omega
    · exfalso
      rw [h] at h1
      have h2 : terrT p 0 y = 109 := by show (if y = 0 then (0 : Int) else 109) = 109; rw [if_neg hy0]
      have := levT_bd p n y e hb hen
      simp only [h2] at h1
      omega
theorem terrT_le_one (p : Nat → Int) (k e : Nat) : terrT p (k + 1) e ≤ terrT p 1 e := by
  induction k with
  | zero => exact Int.le_refl _
  | succ k ih => have := terrT_mono p (k + 1) e; omega
/-- As the model counts: never from the first place on. -/
theorem terrT_model (p : Nat → Int) (n : Nat) (hb : ∀ i, i < n → 0 ≤ p i ∧ p i ≤ 12) (h9 : n ≤ 9) (k e : Nat) (he : 1 ≤ e) (hen : e ≤ n) :
    terrT p (k + 2) e = mnTo (terrT p (k + 1) e) (fun d => terrT p (k + 1) (d + 1) + levT p (d + 1) e) (e - 1) := by
  have hone := terrT_one p n hb h9 e he hen
  have hle := terrT_le_one p k e
  rw [terrT]
  apply Int.le_antisymm
  · rcases mnTo_at (terrT p (k + 1) e) (fun d => terrT p (k + 1) (d + 1) + levT p (d + 1) e) (e - 1) with h | ⟨y, hy, h⟩
    · rw [h]; exact (mnTo_le _ _ e).1
    · rw [h]; exact (mnTo_le _ (fun s => terrT p (k + 1) s + levT p s e) e).2 (y + 1) (by omega)
  · have g1 := (mnTo_le (terrT p (k + 1) e) (fun d => terrT p (k + 1) (d + 1) + levT p (d + 1) e) (e - 1)).1
    rcases mnTo_at (terrT p (k + 1) e) (fun s => terrT p (k + 1) s + levT p s e) e with h | ⟨y, hy, h⟩
    · rw [h]; exact g1
    · rw [h]
      by_cases hy0 : y = 0
      · show _ ≤ terrT p (k + 1) y + levT p y e
        rw [hy0, terrT_zero]; omega
      · have := (mnTo_le (terrT p (k + 1) e) (fun d => terrT p (k + 1) (d + 1) + levT p (d + 1) e) (e - 1)).2 (y - 1) (by omega)
        simp only [show y - 1 + 1 = y by omega] at this
        exact this
theorem ite_one (c : Prop) [Decidable c] : (if c then 1 else 0 : Nat) ≤ 1 := by split <;> omega
/-- How many terraces the first e places of x are. -/
def runsN (x : Nat → Int) : Nat → Nat
  | 0 => 0
  | e + 1 => runsN x e + (if e = 0 ∨ x e ≠ x (e - 1) then 1 else 0)
theorem runsN_le (x : Nat → Int) : ∀ e, runsN x e ≤ e
  | 0 => Nat.le_refl _
  | e + 1 => by
    have := runsN_le x e
    rw [runsN]
    split <;> omega
theorem runsN_pos (x : Nat → Int) : ∀ e, 1 ≤ e → 1 ≤ runsN x e
  | 0, h => absurd h (by decide)
  | e + 1, _ => by
    rw [runsN]
    by_cases h : e = 0
    · rw [if_pos (.inl h)]; omega
    · have := runsN_pos x e (by omega); omega
theorem runsN_congr {x y : Nat → Int} : ∀ {e : Nat}, (∀ i, i < e → x i = y i) → runsN x e = runsN y e
  | 0, _ => rfl
  | e + 1, h => by
    rw [runsN, runsN, runsN_congr fun i hi => h i (by omega)]
    by_cases h0 : e = 0
    · rw [if_pos (.inl h0), if_pos (.inl h0)]
    · rw [h e (by omega), h (e - 1) (by omega)]
/-- The last terrace: it begins at s. -/
theorem last_run (x : Nat → Int) : ∀ e, 1 ≤ e → ∃ s, s < e ∧ runsN x e = runsN x s + 1 ∧ ∀ i, s ≤ i → i < e → x i = x (e - 1)
  | 0, h => absurd h (by decide)
  | e + 1, _ => by
    by_cases h : e = 0 ∨ x e ≠ x (e - 1)
    · refine ⟨e, by omega, by rw [runsN, if_pos h], fun i h1 h2 => ?_⟩
      rw [show i = e by omega]; rfl
    · obtain ⟨s, hs, hr, hx⟩ := last_run x e (by omega)
      refine ⟨s, by omega, by rw [runsN, if_neg h, hr], fun i h1 h2 => ?_⟩
      have he : x e = x (e - 1) := Classical.byContradiction fun c => h (.inr c)
      show x i = x e
      by_cases e2 : i = e
      · rw [e2]
      · rw [hx i h1 (by omega), he]
theorem sumTo_split (f : Nat → Int) (s : Nat) : ∀ d, sumTo f (s + d) = sumTo f s + sumTo (fun i => f (s + i)) d
  | 0 => by simp [sumTo]
  | d + 1 => by rw [← Nat.add_assoc, sumTo, sumTo_split f s d, sumTo]; omega
/-- No change to so few terraces costs less. -/
theorem terrT_le (p : Nat → Int) : ∀ (k e : Nat) (x : Nat → Int), runsN x e ≤ k → (∀ i, i < e → 0 ≤ x i ∧ x i ≤ 12) → terrT p k e ≤ sumTo (fun i => iab (p i - x i)) e := by
  intro k
  induction k with
  | zero =>
    intro e x hr hx
    by_cases he : e = 0
    · subst he; exact Int.le_refl _
    · have := runsN_pos x e (by omega); omega
  | succ k ih =>
    intro e x hr hx
    by_cases he : e = 0
    · subst he; rw [terrT_zero]; exact Int.le_refl _
    · obtain ⟨s, hs, hrs, hc⟩ := last_run x e (by omega)
      have h1 := ih s x (by omega) (fun i hi => hx i (by omega))
      have h2 := (mnTo_le (terrT p k e) (fun s => terrT p k s + levT p s e) e).2 s hs
      have h3 : levT p s e ≤ awayT p s e (x (e - 1)) := by
        have hb := hx (e - 1) (by omega)
        have := mn_le (fun x => awayT p s e x) 12 (x (e - 1)).toNat (by omega)
        simp only [show (((x (e - 1)).toNat : Nat) : Int) = x (e - 1) by omega] at this
        exact this
      have h4 : awayT p s e (x (e - 1)) = sumTo (fun i => iab (p (s + i) - x (s + i))) (e - s) := sumTo_congr fun i hi => by rw [hc (s + i) (by omega) (by omega)]
      have h5 := sumTo_split (fun i => iab (p i - x i)) s (e - s)
      rw [show s + (e - s) = e by omega] at h5
      rw [terrT, h5, ← h4]
      omega
theorem terrT_at (p : Nat → Int) (n : Nat) (hb : ∀ i, i < n → 0 ≤ p i ∧ p i ≤ 12) (h9 : n ≤ 9) : ∀ (k e : Nat), e ≤ n → (e = 0 ∨ 1 ≤ k) → ∃ x : Nat → Int, runsN x e ≤ k ∧ (∀ i, i < e → 0 ≤ x i ∧ x i ≤ 12) ∧ terrT p k e = sumTo (fun i => iab (p i - x i)) e := by
  intro k
  induction k with
  | zero =>
    intro e hen h
    obtain rfl : e = 0 := by omega
    exact ⟨fun _ => 0, Nat.le_refl _, fun i hi => absurd hi (Nat.not_lt_zero _), rfl⟩
  | succ k ih =>
    intro e hen h
    by_cases he : e = 0
    · subst he
      refine ⟨fun _ => 0, Nat.zero_le _, fun i hi => absurd hi (Nat.not_lt_zero _), ?_⟩
      rw [terrT_zero]; rfl
    · -- one terrace from s on behind what k cost
      have build : ∀ s, s < e → (s = 0 ∨ 1 ≤ k) → ∃ x : Nat → Int, runsN x e ≤ k + 1 ∧ (∀ i, i < e → 0 ≤ x i ∧ x i ≤ 12) ∧ terrT p k s + levT p s e = sumTo (fun i => iab (p i - x i)) e := by
        intro s hs hk
        obtain ⟨x, hr, hx, ex⟩ := ih s (by omega) hk
        obtain ⟨y, hy, ey⟩ := mn_at (fun x => awayT p s e x) 12
        refine ⟨fun i => if i < s then x i else y, ?_, fun i hi => ?_, ?_⟩
        · have key : ∀ d, s + d ≤ e → runsN (fun i => if i < s then x i else (y : Int)) (s + d) ≤ runsN x s + (if d = 0 then 0 else 1) := by
            intro d
            induction d with
            | zero =>
              intro _
              rw [Nat.add_zero, if_pos rfl, Nat.add_zero, runsN_congr (y := x) fun i hi => if_pos hi]
              exact Nat.le_refl _
            | succ d ih2 =>
              intro hd
              have := ih2 (by omega)
              rw [← Nat.add_assoc, runsN, show (if d + 1 = 0 then 0 else 1) = 1 from if_neg (by omega)]
              by_cases h0 : d = 0
              · rw [if_pos h0] at this
                exact Nat.le_trans (Nat.add_le_add_left (ite_one _) _) (by omega)
              · rw [if_neg h0] at this
                rw [if_neg]
                · omega
                · rintro (h1 | h1)
                  · omega
                  · apply h1
                    show (if s + d < s then x (s + d) else (y : Int)) = (if s + d - 1 < s then x (s + d - 1) else (y : Int))
                    rw [if_neg (by omega), if_neg (by omega)]
          have := key (e - s) (by omega)
          rw [show s + (e - s) = e by omega, if_neg (by omega)] at this
          omega
        · show 0 ≤ (if i < s then x i else (y : Int)) ∧ (if i < s then x i else (y : Int)) ≤ 12
          by_cases h : i < s
          · rw [if_pos h]; exact hx i h
          · rw [if_neg h]; omega
        · have h5 := sumTo_split (fun i => iab (p i - (if i < s then x i else (y : Int)))) s (e - s)
          rw [show s + (e - s) = e by omega] at h5
          show _ = sumTo (fun i => iab (p i - (if i < s then x i else (y : Int)))) e
          rw [h5, ex, show levT p s e = awayT p s e y from ey]
          congr 1
          · exact sumTo_congr fun i hi => by rw [if_pos hi]
          · exact sumTo_congr fun i hi => by rw [if_neg (by omega)]
      by_cases hk : k = 0
      · subst hk
        obtain ⟨x, h1, h2, h3⟩ := build 0 (by omega) (.inl rfl)
        refine ⟨x, h1, h2, ?_⟩
        rw [terrT_one p n hb h9 e (by omega) hen, ← h3, terrT_zero]; omega
      · rcases mnTo_at (terrT p k e) (fun s => terrT p k s + levT p s e) e with h1 | ⟨s, hs, h1⟩
        · obtain ⟨x, g1, g2, g3⟩ := ih e hen (.inr (by omega))
          exact ⟨x, by omega, g2, by rw [terrT, h1, g3]⟩
        · obtain ⟨x, g1, g2, g3⟩ := build s hs (.inr (by omega))
          exact ⟨x, g1, g2, by rw [terrT, h1, ← g3]⟩
theorem terrT_nonneg (p : Nat → Int) (n : Nat) (hb : ∀ i, i < n → 0 ≤ p i ∧ p i ≤ 12) (h9 : n ≤ 9) (k e : Nat) (he : e ≤ n) (hk : 1 ≤ k) : 0 ≤ terrT p k e := by
  obtain ⟨x, _, _, h⟩ := terrT_at p n hb h9 k e he (.inr hk)
  rw [h]; exact sumTo_nonneg fun i _ => iab_nonneg _
/-- It costs nothing exactly if so many terraces are there. -/
theorem terr_zero (p : Nat → Int) (n : Nat) (hb : ∀ i, i < n → 0 ≤ p i ∧ p i ≤ 12) (h9 : n ≤ 9) (k : Nat) (hk : 1 ≤ k) : terrT p k n = 0 ↔ runsN p n ≤ k := by
  constructor
  · intro h
    obtain ⟨x, hr, _, e⟩ := terrT_at p n hb h9 k n (Nat.le_refl _) (.inr hk)
    rw [h] at e
    have hz := sumTo_eq_zero (fun i _ => iab_nonneg (p i - x i)) e.symm
    rw [runsN_congr (y := x) fun i hi => by have := iab_zero (hz i hi); omega]
    exact hr
  · intro h
    have h1 := terrT_le p k n p h hb
    have h2 := terrT_nonneg p n hb h9 k n (Nat.le_refl _) hk
    have h3 : sumTo (fun i => iab (p i - p i)) n = 0 := by
      rw [sumTo_congr (g := fun _ => 0) fun i _ => by simp [iab]]
      exact sumTo_zero n
    omega
theorem runsN_first (x : Nat → Int) : ∀ e, 1 ≤ e → runsN x (e + 1) = runsN (fun i => x (i + 1)) e + (if x 1 ≠ x 0 then 1 else 0)
  | 0, h => absurd h (by decide)
  | 1, _ => by simp [runsN]
  | e + 2, _ => by
    have ih := runsN_first x (e + 1) (by omega)
    rw [runsN, ih]
    conv => rhs; rw [runsN]
    have e1 : (e + 1 + 1 = 0 ∨ x (e + 1 + 1) ≠ x (e + 1 + 1 - 1)) ↔ (e + 1 = 0 ∨ x (e + 1 + 1) ≠ x (e + 1 - 1 + 1)) := by
      simp
    by_cases h : e + 1 = 0 ∨ x (e + 1 + 1) ≠ x (e + 1 - 1 + 1)
    · rw [if_pos (e1.2 h), if_pos h]; omega
    · rw [if_neg (fun c => h (e1.1 c)), if_neg h]; omega
theorem runsN_back : ∀ (n : Nat) (x : Nat → Int), runsN (fun i => x (n - 1 - i)) n = runsN x n
  | 0, _ => rfl
  | 1, _ => by simp [runsN]
  | n + 2, x => by
    rw [runsN_first x (n + 1) (by omega), runsN, ← runsN_back (n + 1) (fun i => x (i + 1))]
    congr 1
    · exact runsN_congr fun i hi => by congr 1; omega
    · have e1 : (n + 1 = 0 ∨ x (n + 2 - 1 - (n + 1)) ≠ x (n + 2 - 1 - (n + 1 - 1))) ↔ x 1 ≠ x 0 := by
        rw [show n + 2 - 1 - (n + 1) = 0 by omega, show n + 2 - 1 - (n + 1 - 1) = 1 by omega]
        constructor
        · rintro (h | h)
          · omega
          · exact Ne.symm h
        · exact fun h => .inr (Ne.symm h)
      by_cases h : x 1 ≠ x 0
      · rw [if_pos h, if_pos (e1.2 h)]
      · rw [if_neg h, if_neg (fun c => h (e1.1 c))]
theorem terr_back_le (p q : Nat → Int) (n : Nat) (hb : ∀ i, i < n → 0 ≤ p i ∧ p i ≤ 12) (h9 : n ≤ 9) (k : Nat) (hk : 1 ≤ k) (hq : ∀ i, i < n → q i = p (n - 1 - i)) : terrT q k n ≤ terrT p k n := by
  obtain ⟨x, hr, hx, e⟩ := terrT_at p n hb h9 k n (Nat.le_refl _) (.inr hk)
  rw [e]
  refine Int.le_trans (terrT_le q k n (fun i => x (n - 1 - i)) (by rw [runsN_back]; exact hr) fun i hi => hx _ (by omega)) ?_
  rw [← sumTo_back (fun i => iab (p i - x i)) n]
  exact sumTo_le fun i hi => by rw [hq i hi]; exact Int.le_refl _
/-- The other way round it costs the same. -/
theorem terr_back (p q : Nat → Int) (n : Nat) (hb : ∀ i, i < n → 0 ≤ p i ∧ p i ≤ 12) (h9 : n ≤ 9) (k : Nat) (hk : 1 ≤ k) (hq : ∀ i, i < n → q i = p (n - 1 - i)) : terrT q k n = terrT p k n := by
  refine Int.le_antisymm (terr_back_le p q n hb h9 k hk hq) (terr_back_le q p n (fun i hi => by rw [hq i hi]; exact hb _ (by omega)) h9 k hk fun i hi => ?_)
  rw [hq (n - 1 - i) (by omega), show n - 1 - (n - 1 - i) = i by omega]
theorem rise_le_terr (p : Nat → Int) (n : Nat) (hb : ∀ i, i < n → 0 ≤ p i ∧ p i ≤ 12) (h9 : n ≤ 9) (hn : 1 ≤ n) : riseT p n 12 ≤ terrT p 1 n := by
  rw [terrT_one p n hb h9 n hn (Nat.le_refl _)]
  obtain ⟨y, hy, e⟩ := mn_at (fun x => awayT p 0 n x) 12
  rw [show levT p 0 n = awayT p 0 n y from e]
  have := riseT_le_const p n 12 y hy
  simpa [awayT] using this
end Go.Proofs.Ytlifjhhjkcmneaa
