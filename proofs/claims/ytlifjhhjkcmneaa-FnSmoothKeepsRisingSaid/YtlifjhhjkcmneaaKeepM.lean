/- What rises is smooth: lists. -/
import Derived.Test.YtlifjhhjkcmneaaSumF
import Derived.Test.YtlifjhhjkcmneaaRiseM
namespace Go.Proofs.Ytlifjhhjkcmneaa

/-- A fraction rounded. -/
def roundF (e : Int × Int) : Int := (2 * e.1 + e.2) / (2 * e.2)
theorem round_mono {a b : Int × Int} (h : leF a b) (ha : 1 ≤ a.2) (hb : 1 ≤ b.2) : roundF a ≤ roundF b := by
  obtain ⟨u, d⟩ := a
  obtain ⟨u', d'⟩ := b
  unfold leF at h
  simp only at h ha hb
  unfold roundF
  simp only
  refine Int.le_ediv_of_mul_le (by omega) ?_
  have h1 := Int.ediv_mul_le (2 * u + d) (show 2 * d ≠ 0 by omega)
  obtain ⟨x, hx⟩ : ∃ x, (2 * u + d) / (2 * d) = x := ⟨_, rfl⟩
  rw [hx] at h1 ⊢
  have h2 := Int.mul_le_mul_of_nonneg_right h1 (show 0 ≤ d' by omega)
  refine Int.le_of_mul_le_mul_left (a := d) ?_ (by omega)
  have e1 : x * (2 * d) * d' = d * (x * (2 * d')) := by grind
  have e2 : (2 * u + d) * d' = 2 * (u * d') + d * d' := by grind
  have e3 : d * (2 * u' + d') = 2 * (u' * d) + d * d' := by grind
  omega
theorem round_bd {a : Int × Int} (h0 : 0 ≤ a.1) (h1 : 1 ≤ a.2) (h : a.1 ≤ 12 * a.2) : 0 ≤ roundF a ∧ roundF a ≤ 12 := by
  unfold roundF
  refine ⟨Int.ediv_nonneg (by omega) (by omega), ?_⟩
  have := Int.ediv_lt_of_lt_mul (a := 2 * a.1 + a.2) (b := 13) (c := 2 * a.2) (by omega) (by omega)
  omega
theorem best_le {p : List Int} (hp : vProf p = true) (i : Nat) (hi : i < p.length) : (bestF' p i).1 ≤ 12 * (bestF' p i).2 := by
  obtain ⟨_, _, a, b, h1, h2, h3, e⟩ := bestF_is p i hi
  rw [e]
  have hs := sumP_bd hp a (b + 1) (by omega)
  have hv := frL_val (sumP p a (b + 1)).toNat (b + 1 - a)
  have ho := mF_one p a b (by omega)
  unfold mF at ho ⊢
  obtain ⟨x, hx⟩ : ∃ x, (frL (sumP p a (b + 1)).toNat (b + 1 - a)).1 = x := ⟨_, rfl⟩
  obtain ⟨y, hy⟩ : ∃ y, (frL (sumP p a (b + 1)).toNat (b + 1 - a)).2 = y := ⟨_, rfl⟩
  rw [hx, hy] at hv
  rw [hy] at ho
  rw [hx, hy]
  refine Int.le_of_mul_le_mul_right (a := ((b + 1 - a : Nat) : Int)) ?_ (by omega)
  rw [hv]
  have h4 : ((sumP p a (b + 1)).toNat : Int) ≤ 12 * ((b + 1 - a : Nat) : Int) := by omega
  have h5 := Int.mul_le_mul_of_nonneg_right h4 (show 0 ≤ y by omega)
  have e1 : 12 * ((b + 1 - a : Nat) : Int) * y = 12 * y * ((b + 1 - a : Nat) : Int) := by grind
  omega
theorem round_rise {p : List Int} : RiseN (fun i => roundF (bestF' p i)) p.length := fun i hi => round_mono (best_rise i hi) (best_one i (by omega)) (best_one (i + 1) hi)
theorem riseN_le {p : Nat → Int} {n : Nat} (h : RiseN p n) (i : Nat) : ∀ d, i + d < n → p i ≤ p (i + d)
  | 0, _ => Int.le_refl _
  | d + 1, hd => by
    have h1 := riseN_le h i d (by omega)
    have h2 := h (i + d) (by omega)
    rw [show i + (d + 1) = i + d + 1 by omega]
    omega
/-- Where the profile rises, a smooth height is the height. -/
theorem best_rising {p : List Int} (hp : vProf p = true) (hr : RiseN (fun i => p.getD i 0) p.length) (i : Nat) (hi : i < p.length) : bestF' p i = (p.getD i 0, 1) := by
  obtain ⟨⟨a, ha, hA⟩, hBB, a1, b1, h1, h2, h3, e⟩ := bestF_is p i hi
  obtain ⟨b, hb1, hb2, hb3⟩ := hBB i (Nat.le_refl _)
  have hA' := hA i (Nat.le_refl _) hi
  have hx := ((vProf_iff p).1 hp).2.2 i hi
  have hone := best_one (p := p) i hi
  obtain ⟨x, ex⟩ : ∃ x, p.getD i 0 = x := ⟨_, rfl⟩
  have hr' := fun j d h => riseN_le hr j d h
  have m1 := mF_one p i b (by omega)
  have m2 := mF_one p a i (by omega)
  -- the mean from i on is at least x, the mean up to i is at most x
  have s1 : x * ((b + 1 - i : Nat) : Int) ≤ sumP p i (b + 1) := by
    unfold sumP
    refine (sumTo_bd (f := fun j => p.getD (i + j) 0) x 12 (k := b + 1 - i) fun j hj => ?_).1
    have := hr' i j (by omega)
    have := ((vProf_iff p).1 hp).2.2 (i + j) (by omega)
    omega
  have s2 : sumP p a (i + 1) ≤ x * ((i + 1 - a : Nat) : Int) := by
    unfold sumP
    refine (sumTo_bd (f := fun j => p.getD (a + j) 0) 0 x (k := i + 1 - a) fun j hj => ?_).2
    have := hr' (a + j) (i - (a + j)) (by omega)
    rw [show a + j + (i - (a + j)) = i by omega] at this
    have := ((vProf_iff p).1 hp).2.2 (a + j) (by omega)
    omega
  have v1 := frL_val (sumP p i (b + 1)).toNat (b + 1 - i)
  have v2 := frL_val (sumP p a (i + 1)).toNat (i + 1 - a)
  have n1 := (sumP_bd hp i (b + 1) (by omega)).1
  have n2 := (sumP_bd hp a (i + 1) (by omega)).1
  unfold leF mF at hb3 hA'
  unfold mF at m1 m2
  obtain ⟨u, hu⟩ : ∃ u, (bestF' p i).1 = u := ⟨_, rfl⟩
  obtain ⟨d, hd⟩ : ∃ d, (bestF' p i).2 = d := ⟨_, rfl⟩
  rw [hu, hd] at hb3 hA'
  rw [hd] at hone
  have key : u = x * d := by
    obtain ⟨x1, hx1⟩ : ∃ z, (frL (sumP p i (b + 1)).toNat (b + 1 - i)).1 = z := ⟨_, rfl⟩
    obtain ⟨y1, hy1⟩ : ∃ z, (frL (sumP p i (b + 1)).toNat (b + 1 - i)).2 = z := ⟨_, rfl⟩
    obtain ⟨x2, hx2⟩ : ∃ z, (frL (sumP p a (i + 1)).toNat (i + 1 - a)).1 = z := ⟨_, rfl⟩
    obtain ⟨y2, hy2⟩ : ∃ z, (frL (sumP p a (i + 1)).toNat (i + 1 - a)).2 = z := ⟨_, rfl⟩
    rw [hx1, hy1] at hb3 v1
    rw [hy1] at m1
    rw [hx2, hy2] at hA' v2
    rw [hy2] at m2
    obtain ⟨t1, ht1⟩ : ∃ t : Int, ((b + 1 - i : Nat) : Int) = t := ⟨_, rfl⟩
    obtain ⟨t2, ht2⟩ : ∃ t : Int, ((i + 1 - a : Nat) : Int) = t := ⟨_, rfl⟩
    have p1 : 1 ≤ t1 := by omega
    have p2 : 1 ≤ t2 := by omega
    have S1 : (((sumP p i (b + 1)).toNat : Nat) : Int) = sumP p i (b + 1) := by omega
    have S2 : (((sumP p a (i + 1)).toNat : Nat) : Int) = sumP p a (i + 1) := by omega
    rw [S1, ht1] at v1
    rw [S2, ht2] at v2
    rw [ht1] at s1
    rw [ht2] at s2
    -- x y1 <= x1, x2 <= x y2
    have q1 : x * y1 ≤ x1 := by
      refine Int.le_of_mul_le_mul_right (a := t1) ?_ (by omega)
      rw [v1]
      have := Int.mul_le_mul_of_nonneg_right s1 (show 0 ≤ y1 by omega)
      have e1 : x * t1 * y1 = x * y1 * t1 := by grind
      omega
    have q2 : x2 ≤ x * y2 := by
      refine Int.le_of_mul_le_mul_right (a := t2) ?_ (by omega)
      rw [v2]
      have := Int.mul_le_mul_of_nonneg_right s2 (show 0 ≤ y2 by omega)
      have e1 : x * t2 * y2 = x * y2 * t2 := by grind
      omega
    have r1 : x * d ≤ u := by
      refine Int.le_of_mul_le_mul_right (a := y1) ?_ (by omega)
      have := Int.mul_le_mul_of_nonneg_right q1 (show 0 ≤ d by omega)
      have e1 : x * d * y1 = x * y1 * d := by grind
      omega
    have r2 : u ≤ x * d := by
      refine Int.le_of_mul_le_mul_right (a := y2) ?_ (by omega)
      have := Int.mul_le_mul_of_nonneg_right q2 (show 0 ≤ d by omega)
      have e1 : x * d * y2 = x * y2 * d := by grind
      omega
    omega
  rw [ex]
  rw [e] at hu hd
  unfold mF at hu hd
  have hv := frL_val (sumP p a1 (b1 + 1)).toNat (b1 + 1 - a1)
  rw [hu, hd, key] at hv
  have hU : sumP p a1 (b1 + 1) = x * ((b1 + 1 - a1 : Nat) : Int) := by
    have n3 := (sumP_bd hp a1 (b1 + 1) (by omega)).1
    have S3 : (((sumP p a1 (b1 + 1)).toNat : Nat) : Int) = sumP p a1 (b1 + 1) := by omega
    rw [S3] at hv
    refine (Int.eq_of_mul_eq_mul_right (a := d) (by omega) ?_)
    rw [← hv]
    grind
  rw [e]
  unfold mF
  obtain ⟨nx, rfl⟩ := Int.eq_ofNat_of_zero_le (show 0 ≤ x by omega)
  have eU : (sumP p a1 (b1 + 1)).toNat = nx * (b1 + 1 - a1) := by
    rw [hU]
    exact_mod_cast Int.toNat_natCast (nx * (b1 + 1 - a1))
  rw [eU]
  exact frL_whole nx (b1 + 1 - a1) (by omega)
/-- Where all smooth heights are the heights, the profile rises. -/
theorem rising_best {p : List Int} (h : ∀ i, i < p.length → bestF' p i = (p.getD i 0, 1)) : RiseN (fun i => p.getD i 0) p.length := fun i hi => by
  have := best_rise (p := p) i hi
  rw [h i (by omega), h (i + 1) hi] at this
  unfold leF at this
  simpa using this
def sameK (p : List Int) : Nat → Bool
  | 0 => true
  | k + 1 => sameK p k && decide (bestF' p k = (p.getD k 0, 1))
theorem sameK_iff (p : List Int) : ∀ k, sameK p k = true ↔ ∀ i, i < k → bestF' p i = (p.getD i 0, 1)
  | 0 => by simp [sameK]
  | k + 1 => by
    rw [sameK, Bool.and_eq_true, decide_eq_true_eq, sameK_iff p k]
    constructor
    · rintro ⟨h1, h2⟩ i hi
      by_cases e : i = k
      · rw [e]; exact h2
      · exact h1 i (by omega)
    · exact fun h => ⟨fun i hi => h i (by omega), h k (by omega)⟩
def costK (p : List Int) (k : Nat) : Int := sumTo (fun i => iab (p.getD i 0 - roundF (bestF' p i))) k
theorem best_round {p : List Int} (hp : vProf p = true) (i : Nat) (hi : i < p.length) : 0 ≤ roundF (bestF' p i) ∧ roundF (bestF' p i) ≤ 12 := by
  refine round_bd ?_ (best_one i hi) (best_le hp i hi)
  obtain ⟨_, _, a, b, h1, h2, h3, e⟩ := bestF_is p i hi
  rw [e]
  exact (mF_bd hp a b h3).1.1
theorem costK_bd {p : List Int} (hp : vProf p = true) (k : Nat) (hk : k ≤ p.length) : 0 ≤ costK p k ∧ costK p k ≤ 12 * k := by
  have := sumTo_bd (f := fun i => iab (p.getD i 0 - roundF (bestF' p i))) 0 12 (k := k) fun i hi => by
    have h1 := best_round hp i (by omega)
    have h2 := ((vProf_iff p).1 hp).2.2 i (by omega)
    unfold iab
    omega
  unfold costK
  omega
theorem keeps {p : List Int} (hp : vProf p = true) : riseT (fun i => p.getD i 0) p.length 12 ≤ costK p p.length ∧ sameK p p.length = decide (riseT (fun i => p.getD i 0) p.length 12 = 0) := by
  refine ⟨riseT_le _ _ 12 _ round_rise fun i hi => best_round hp i hi, ?_⟩
  rw [Bool.eq_iff_iff, sameK_iff, decide_eq_true_eq, rise_zero _ _ 12 fun i hi => ((vProf_iff p).1 hp).2.2 i hi]
  exact ⟨rising_best, fun h i hi => best_rising hp h i hi⟩
end Go.Proofs.Ytlifjhhjkcmneaa
