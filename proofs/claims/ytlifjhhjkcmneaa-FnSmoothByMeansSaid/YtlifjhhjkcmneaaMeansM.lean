/- Means as fractions: least, greatest, upside down (lists only). -/
import Derived.Test.YtlifjhhjkcmneaaLeast
namespace Go.Proofs.Ytlifjhhjkcmneaa
open Go.RowKit

/-- The fraction a is no greater than b (both with a denominator of at least 1). -/
def leF (a b : Int × Int) : Prop := a.1 * b.2 ≤ b.1 * a.2
theorem leF_refl (a : Int × Int) : leF a a := Int.le_refl _
theorem leF_of_not_lt {a b : Int × Int} (h : ¬ ltF a b) : leF b a := by unfold ltF at h; unfold leF; omega
theorem leF_of_lt {a b : Int × Int} (h : ltF a b) : leF a b := by unfold ltF at h; unfold leF; omega
theorem leF_trans {a b c : Int × Int} (ha : 1 ≤ a.2) (hb : 1 ≤ b.2) (hc : 1 ≤ c.2) (h1 : leF a b) (h2 : leF b c) : leF a c := by
  unfold leF at h1 h2 ⊢
  have h3 := Int.mul_le_mul_of_nonneg_right h1 (show 0 ≤ c.2 by omega)
  have h4 := Int.mul_le_mul_of_nonneg_right h2 (show 0 ≤ a.2 by omega)
  refine Int.le_of_mul_le_mul_right (a := b.2) ?_ (by omega)
  grind
theorem minFn_le {g : Nat → Int × Int} : ∀ {k : Nat}, (∀ j, j ≤ k → 1 ≤ (g j).2) → ∀ j, j ≤ k → leF (minFn g k) (g j)
  | 0, _, j, hj => by obtain rfl : j = 0 := by omega
                      exact leF_refl _
  | k + 1, hg, j, hj => by
    have ih := minFn_le (g := g) (k := k) (fun j hj => hg j (by omega))
    obtain ⟨y, hy, ey⟩ := minFn_is g k
    rw [minFn]
    by_cases h : ltF (g (k + 1)) (minFn g k)
    · rw [if_pos h]
      by_cases e : j = k + 1
      · rw [e]; exact leF_refl _
      · exact leF_trans (hg _ (Nat.le_refl _)) (by rw [ey]; exact hg y (by omega)) (hg j hj) (leF_of_lt h) (ih j (by omega))
    · rw [if_neg h]
      by_cases e : j = k + 1
      · rw [e]; exact leF_of_not_lt h
      · exact ih j (by omega)
theorem maxFn_ge {g : Nat → Int × Int} : ∀ {k : Nat}, (∀ j, j ≤ k → 1 ≤ (g j).2) → ∀ j, j ≤ k → leF (g j) (maxFn g k)
  | 0, _, j, hj => by obtain rfl : j = 0 := by omega
                      exact leF_refl _
  | k + 1, hg, j, hj => by
    have ih := maxFn_ge (g := g) (k := k) (fun j hj => hg j (by omega))
    obtain ⟨y, hy, ey⟩ := maxFn_is g k
    rw [maxFn]
    by_cases h : ltF (maxFn g k) (g (k + 1))
    · rw [if_pos h]
      by_cases e : j = k + 1
      · rw [e]; exact leF_refl _
      · exact leF_trans (hg j hj) (by rw [ey]; exact hg y (by omega)) (hg _ (Nat.le_refl _)) (ih j (by omega)) (leF_of_lt h)
    · rw [if_neg h]
      by_cases e : j = k + 1
      · rw [e]; exact leF_of_not_lt h
      · exact ih j (by omega)
theorem frL_pos' {u d : Nat} (hd : 1 ≤ d) : 1 ≤ (frL u d).2 := by
  have h1 : Nat.gcd u d ≤ d := Nat.gcd_le_right _ hd
  have h2 := gcd_one (u := u) hd
  have h3 : 1 ≤ d / Nat.gcd u d := Nat.div_pos h1 h2
  unfold frL
  show (1 : Int) ≤ ((d / Nat.gcd u d : Nat) : Int)
  omega
theorem frL_val (u d : Nat) : (frL u d).1 * (d : Int) = (u : Int) * (frL u d).2 := by
  unfold frL
  show ((u / Nat.gcd u d : Nat) : Int) * (d : Int) = (u : Int) * ((d / Nat.gcd u d : Nat) : Int)
  have h1 : u / Nat.gcd u d * d = u * (d / Nat.gcd u d) := by
    have hu := Nat.div_mul_cancel (Nat.gcd_dvd_left u d)
    have hd := Nat.div_mul_cancel (Nat.gcd_dvd_right u d)
    obtain ⟨x, hx⟩ : ∃ x, u / Nat.gcd u d = x := ⟨_, rfl⟩
    obtain ⟨y, hy⟩ : ∃ y, d / Nat.gcd u d = y := ⟨_, rfl⟩
    obtain ⟨g, hg⟩ : ∃ g, Nat.gcd u d = g := ⟨_, rfl⟩
    rw [hg] at hx hy hu hd ⊢
    rw [hx] at hu ⊢
    rw [hy] at hd ⊢
    rw [← hu, ← hd]
    grind
  exact_mod_cast h1
theorem cross {f1 f2 m1 m2 S L : Int} (hm : 1 ≤ m2) (hL : 1 ≤ L) (he : m1 * L = S * m2) : f1 * m2 ≤ m1 * f2 ↔ f1 * L ≤ S * f2 := by
  constructor
  · intro h
    have h3 := Int.mul_le_mul_of_nonneg_right h (show 0 ≤ L by omega)
    refine Int.le_of_mul_le_mul_right (a := m2) ?_ (by omega)
    grind
  · intro h
    have h3 := Int.mul_le_mul_of_nonneg_right h (show 0 ≤ m2 by omega)
    refine Int.le_of_mul_le_mul_right (a := L) ?_ (by omega)
    grind
theorem cross2 {f1 f2 m1 m2 S L : Int} (hm : 1 ≤ m2) (hL : 1 ≤ L) (he : m1 * L = S * m2) : m1 * f2 ≤ f1 * m2 ↔ S * f2 ≤ f1 * L := by
  constructor
  · intro h
    have h3 := Int.mul_le_mul_of_nonneg_right h (show 0 ≤ L by omega)
    refine Int.le_of_mul_le_mul_right (a := m2) ?_ (by omega)
    grind
  · intro h
    have h3 := Int.mul_le_mul_of_nonneg_right h (show 0 ≤ m2 by omega)
    refine Int.le_of_mul_le_mul_right (a := L) ?_ (by omega)
    grind
/-- The sum of the first k. -/
def sumK (p : List Int) (k : Nat) : Int := sumTo (fun i => p.getD i 0) k
theorem sumP_K (p : List Int) (a : Nat) : ∀ d, sumP p a (a + d) = sumK p (a + d) - sumK p a
  | 0 => by show sumTo _ (a + 0 - a) = sumK p a - sumK p a; rw [show a + 0 - a = 0 by omega]; show (0 : Int) = _; omega
  | d + 1 => by
    have ih := sumP_K p a d
    unfold sumP sumK at ih ⊢
    rw [show a + d - a = d by omega] at ih
    rw [show a + (d + 1) - a = d + 1 by omega, show a + (d + 1) = a + d + 1 by omega, sumTo, sumTo, ih]
    omega
theorem mF_le {p : List Int} (hp : vProf p = true) (f : Int × Int) (a b : Nat) (hab : a ≤ b) (hb : b < p.length) :
    (leF f (mF p a b) ↔ f.1 * ((b : Int) + 1 - a) ≤ (sumK p (b + 1) - sumK p a) * f.2) ∧ (leF (mF p a b) f ↔ (sumK p (b + 1) - sumK p a) * f.2 ≤ f.1 * ((b : Int) + 1 - a)) := by
  have hs := sumP_bd hp a (b + 1) (by omega)
  have hk := sumP_K p a (b + 1 - a)
  rw [show a + (b + 1 - a) = b + 1 by omega] at hk
  have hv := frL_val (sumP p a (b + 1)).toNat (b + 1 - a)
  have hpos := frL_pos' (u := (sumP p a (b + 1)).toNat) (d := b + 1 - a) (by omega)
  have e1 : ((sumP p a (b + 1)).toNat : Int) = sumK p (b + 1) - sumK p a := by omega
  have e2 : ((b + 1 - a : Nat) : Int) = (b : Int) + 1 - a := by omega
  rw [e1, e2] at hv
  unfold leF mF
  exact ⟨cross hpos (by omega) hv, cross2 hpos (by omega) hv⟩
theorem mF_one (p : List Int) (a b : Nat) (hab : a ≤ b) : 1 ≤ (mF p a b).2 := frL_pos' (by omega)
theorem leastF_is (p : List Int) (a i : Nat) (hai : a ≤ i) (hi : i < p.length) : (∀ b, i ≤ b → b < p.length → leF (leastF p a i) (mF p a b)) ∧ ∃ b, i ≤ b ∧ b < p.length ∧ leastF p a i = mF p a b := by
  constructor
  · intro b hb hbl
    have := minFn_le (g := fun d => mF p a (i + d)) (k := p.length - 1 - i) (fun j hj => mF_one p a (i + j) (by omega)) (b - i) (by omega)
    simp only [show i + (b - i) = b by omega] at this
    exact this
  · obtain ⟨y, hy, e⟩ := minFn_is (fun d => mF p a (i + d)) (p.length - 1 - i)
    exact ⟨i + y, by omega, by omega, e⟩
theorem leastF_one (p : List Int) (a i : Nat) (hai : a ≤ i) (hi : i < p.length) : 1 ≤ (leastF p a i).2 := by
  obtain ⟨_, b, h1, _, e⟩ := leastF_is p a i hai hi
  rw [e]; exact mF_one p a b (by omega)
/-- What the smooth height is: from some place on no mean is less; from no place on all are greater. -/
theorem bestF_is (p : List Int) (i : Nat) (hi : i < p.length) : (∃ a, a ≤ i ∧ ∀ b, i ≤ b → b < p.length → leF (bestF' p i) (mF p a b)) ∧ (∀ a, a ≤ i → ∃ b, i ≤ b ∧ b < p.length ∧ leF (mF p a b) (bestF' p i)) ∧ ∃ a b, a ≤ i ∧ i ≤ b ∧ b < p.length ∧ bestF' p i = mF p a b := by
  obtain ⟨y, hy, e⟩ := maxFn_is (fun a => leastF p a i) i
  refine ⟨⟨y, hy, fun b h1 h2 => ?_⟩, fun a ha => ?_, ?_⟩
  · unfold bestF'
    rw [e]
    exact (leastF_is p y i hy hi).1 b h1 h2
  · obtain ⟨_, b, h1, h2, e2⟩ := leastF_is p a i ha hi
    refine ⟨b, h1, h2, ?_⟩
    rw [← e2]
    exact maxFn_ge (g := fun a => leastF p a i) (k := i) (fun j hj => leastF_one p j i hj hi) a ha
  · obtain ⟨_, b, h1, h2, e2⟩ := leastF_is p y i hy hi
    refine ⟨y, b, hy, h1, h2, ?_⟩
    unfold bestF'
    rw [e]
    exact e2
theorem least_at (h : Nat → Int) : ∀ k, ∃ y, y ≤ k ∧ ∀ j, j ≤ k → h y ≤ h j
  | 0 => ⟨0, Nat.le_refl _, fun j hj => by obtain rfl : j = 0 := by omega
                                           exact Int.le_refl _⟩
  | k + 1 => by
    obtain ⟨y, hy, hl⟩ := least_at h k
    by_cases e : h (k + 1) ≤ h y
    · exact ⟨k + 1, Nat.le_refl _, fun j hj => by
        by_cases ej : j = k + 1
        · rw [ej]; exact Int.le_refl _
        · exact Int.le_trans e (hl j (by omega))⟩
    · exact ⟨y, by omega, fun j hj => by
        by_cases ej : j = k + 1
        · rw [ej]; omega
        · exact hl j (by omega)⟩
/-- The smooth height is the one number that both sides allow. -/
theorem mid_unique {p : List Int} (hp : vProf p = true) (i : Nat) (_hi : i < p.length) (f t : Int × Int) (hf : 1 ≤ f.2) (ht : 1 ≤ t.2)
    (f1 : ∃ a, a ≤ i ∧ ∀ b, i ≤ b → b < p.length → leF f (mF p a b)) (f2 : ∀ a, a ≤ i → ∃ b, i ≤ b ∧ b < p.length ∧ leF (mF p a b) f)
    (t1 : ∃ b, i ≤ b ∧ b < p.length ∧ ∀ a, a ≤ i → (sumK p (b + 1) - sumK p a) * t.2 ≤ t.1 * ((b : Int) + 1 - a))
    (t2 : ∀ b, i ≤ b → b < p.length → ∃ a, a ≤ i ∧ t.1 * ((b : Int) + 1 - a) ≤ (sumK p (b + 1) - sumK p a) * t.2) : f.1 * t.2 = t.1 * f.2 := by
  obtain ⟨x1, x2⟩ := f
  obtain ⟨y1, y2⟩ := t
  have hA : x1 * y2 ≤ y1 * x2 := by
    obtain ⟨a, ha, h1⟩ := f1
    obtain ⟨b, hb, hbl, h2⟩ := t1
    have h3 := (mF_le hp (x1, x2) a b (by omega) hbl).1.1 (h1 b hb hbl)
    have h4 := h2 a ha
    simp only at h3 h4 hf ht
    obtain ⟨L, eL⟩ : ∃ L, (b : Int) + 1 - a = L := ⟨_, rfl⟩
    obtain ⟨S, eS⟩ : ∃ S, sumK p (b + 1) - sumK p a = S := ⟨_, rfl⟩
    have hL : 0 < L := by omega
    rw [eL, eS] at h3 h4
    have h5 := Int.mul_le_mul_of_nonneg_right h3 (show 0 ≤ y2 by omega)
    have h6 := Int.mul_le_mul_of_nonneg_right h4 (show 0 ≤ x2 by omega)
    refine Int.le_of_mul_le_mul_right (a := L) ?_ hL
    grind
  by_cases hlt : x1 * y2 < y1 * x2
  · exfalso
    obtain ⟨a, ha, hmin⟩ := least_at (fun k => x2 * sumK p k - x1 * k) i
    obtain ⟨b, hb, hbl, h1⟩ := f2 a ha
    have h1 := (mF_le hp (x1, x2) a b (by omega) hbl).2.1 h1
    obtain ⟨c, hc, h2⟩ := t2 b hb hbl
    have h3 := hmin c hc
    simp only at h1 h2 h3 hf ht
    obtain ⟨L, eL⟩ : ∃ L, (b : Int) + 1 - c = L := ⟨_, rfl⟩
    obtain ⟨S, eS⟩ : ∃ S, sumK p (b + 1) - sumK p c = S := ⟨_, rfl⟩
    have hL : 0 < L := by omega
    rw [eL, eS] at h2
    have h5 := Int.mul_le_mul_of_nonneg_right h2 (show 0 ≤ x2 by omega)
    have h6 := Int.mul_lt_mul_of_pos_right hlt hL
    have h7 : x1 * L < S * x2 := by
      refine Int.lt_of_mul_lt_mul_right (a := y2) ?_ (by omega)
      grind
    have h8 : (sumK p (b + 1) - sumK p c) * x2 ≤ x1 * ((b : Int) + 1 - c) := by grind
    rw [eL, eS] at h8
    omega
  · show x1 * y2 = y1 * x2
    omega
/-- Upside down the other way round. -/
def flipD (p : List Int) : List Int := (List.range p.length).map fun j => 12 - p.getD (p.length - 1 - j) 0
theorem flipD_len (p : List Int) : (flipD p).length = p.length := by simp [flipD]
theorem flipD_at (p : List Int) (j : Nat) (h : j < p.length) : (flipD p).getD j 0 = 12 - p.getD (p.length - 1 - j) 0 := by simp [flipD, h]
theorem flipD_take (p : List Int) (j : Nat) (h : j < p.length) : (flipD p).take j ++ [12 - p.getD (p.length - 1 - j) 0] = (flipD p).take (j + 1) := by
  have hk : j < (flipD p).length := by rw [flipD_len]; exact h
  rw [List.take_succ_eq_append_getElem hk]
  congr 2
  have := flipD_at p j h
  simp only [List.getD_eq_getElem?_getD, List.getElem?_eq_getElem hk, Option.getD_some] at this
  simp only [List.getD_eq_getElem?_getD]
  exact this.symm
theorem vProf_flipD {p : List Int} (h : vProf p = true) : vProf (flipD p) = true := by
  obtain ⟨h1, h9, hb⟩ := (vProf_iff p).1 h
  refine (vProf_iff _).2 ⟨by rw [flipD_len]; exact h1, by rw [flipD_len]; exact h9, fun i hi => ?_⟩
  rw [flipD_len] at hi
  rw [flipD_at p i hi]
  have := hb (p.length - 1 - i) (by omega)
  omega
theorem sumK_flip (p : List Int) : ∀ k, k ≤ p.length → sumK (flipD p) k = 12 * (k : Int) - (sumK p p.length - sumK p (p.length - k))
  | 0, _ => by unfold sumK; simp only [sumTo, Nat.sub_zero]; omega
  | k + 1, h => by
    have ih := sumK_flip p k (by omega)
    have ha := flipD_at p k (by omega)
    have e : p.length - k = p.length - (k + 1) + 1 := by omega
    have e2 : p.length - 1 - k = p.length - (k + 1) := by omega
    rw [e] at ih
    rw [e2] at ha
    have s1 : sumK (flipD p) (k + 1) = sumK (flipD p) k + (flipD p).getD k 0 := rfl
    have s2 : sumK p (p.length - (k + 1) + 1) = sumK p (p.length - (k + 1)) + p.getD (p.length - (k + 1)) 0 := rfl
    rw [s2] at ih
    rw [s1, ih, ha]
    omega
theorem best_flip {p : List Int} (hp : vProf p = true) (i : Nat) (hi : i < p.length) : (bestF' p i).1 * (bestF' (flipD p) (p.length - 1 - i)).2 + (bestF' (flipD p) (p.length - 1 - i)).1 * (bestF' p i).2 = 12 * ((bestF' p i).2 * (bestF' (flipD p) (p.length - 1 - i)).2) := by
  have hq := vProf_flipD hp
  have hl := flipD_len p
  obtain ⟨f1, f2, fa, fb, fh1, fh2, fh3, ef⟩ := bestF_is p i hi
  obtain ⟨g1, g2, ga, gb, gh1, gh2, gh3, eg⟩ := bestF_is (flipD p) (p.length - 1 - i) (by omega)
  have hf : 1 ≤ (bestF' p i).2 := by rw [ef]; exact mF_one p fa fb (by omega)
  have hg : 1 ≤ (bestF' (flipD p) (p.length - 1 - i)).2 := by rw [eg]; exact mF_one _ ga gb (by omega)
  obtain ⟨F, eF⟩ : ∃ F, bestF' p i = F := ⟨_, rfl⟩
  obtain ⟨G, eG⟩ : ∃ G, bestF' (flipD p) (p.length - 1 - i) = G := ⟨_, rfl⟩
  rw [eF] at f1 f2 hf ⊢
  rw [eG] at g1 g2 hg ⊢
  have hmid := mid_unique hp i hi F (12 * G.2 - G.1, G.2) hf hg f1 f2 (by
    obtain ⟨a', ha', h⟩ := g1
    refine ⟨p.length - 1 - a', by omega, by omega, fun a ha => ?_⟩
    have h1 := (mF_le hq G a' (p.length - 1 - a) (by omega) (by omega)).1.1 (h (p.length - 1 - a) (by omega) (by omega))
    have k1 := sumK_flip p (p.length - 1 - a + 1) (by omega)
    have k2 := sumK_flip p a' (by omega)
    rw [k1, k2, show p.length - (p.length - 1 - a + 1) = a by omega] at h1
    rw [show p.length - 1 - a' + 1 = p.length - a' by omega]
    have e1 : ((p.length - 1 - a : Nat) : Int) = (p.length : Int) - 1 - a := by omega
    have e2 : ((p.length - 1 - a' : Nat) : Int) = (p.length : Int) - 1 - a' := by omega
    have e3 : ((p.length - 1 - a + 1 : Nat) : Int) = (p.length : Int) - a := by omega
    rw [e3, e1] at h1
    rw [e2]
    simp only
    grind) (by
    intro b hb hbl
    obtain ⟨b', hb', hbl', h⟩ := g2 (p.length - 1 - b) (by omega)
    refine ⟨p.length - 1 - b', by omega, ?_⟩
    have h1 := (mF_le hq G (p.length - 1 - b) b' (by omega) (by omega)).2.1 h
    have k1 := sumK_flip p (b' + 1) (by omega)
    have k2 := sumK_flip p (p.length - 1 - b) (by omega)
    rw [k1, k2, show p.length - (p.length - 1 - b) = b + 1 by omega, show p.length - (b' + 1) = p.length - 1 - b' by omega] at h1
    have e1 : ((p.length - 1 - b : Nat) : Int) = (p.length : Int) - 1 - b := by omega
    have e2 : ((p.length - 1 - b' : Nat) : Int) = (p.length : Int) - 1 - b' := by omega
    have e3 : ((b' + 1 : Nat) : Int) = (b' : Int) + 1 := by omega
    rw [e1, e3] at h1
    rw [e2]
    simp only
    grind)
  simp only at hmid
  grind
end Go.Proofs.Ytlifjhhjkcmneaa
