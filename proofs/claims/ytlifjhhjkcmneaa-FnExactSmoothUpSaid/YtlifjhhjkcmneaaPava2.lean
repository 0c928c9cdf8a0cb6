/- Smooth rows by blocks are smooth rows by means (lists only). -/
import Derived.Test.YtlifjhhjkcmneaaPava
namespace Go.Proofs.Ytlifjhhjkcmneaa
open Go.RowKit

theorem scale_up {s t s' t' d D : Int} (h : s' * d ≤ D * t') (hm : s * t' ≤ s' * t) (hd : 0 ≤ d) (ht : 0 ≤ t) (ht' : 0 < t') : s * d ≤ D * t := by
  have h1 := Int.mul_le_mul_of_nonneg_right hm hd
  have h2 := Int.mul_le_mul_of_nonneg_right h ht
  refine Int.le_of_mul_le_mul_right (a := t') ?_ ht'
  have e1 : s * d * t' = s * t' * d := by grind
  have e2 : s' * t * d = s' * d * t := by grind
  have e3 : D * t * t' = D * t' * t := by grind
  omega
theorem scale_down {s t s' t' d D : Int} (h : D * t' ≤ s' * d) (hm : s' * t ≤ s * t') (hd : 0 ≤ d) (ht : 0 ≤ t) (ht' : 0 < t') : D * t ≤ s * d := by
  have h1 := Int.mul_le_mul_of_nonneg_right hm hd
  have h2 := Int.mul_le_mul_of_nonneg_right h ht
  refine Int.le_of_mul_le_mul_right (a := t') ?_ ht'
  have e1 : s * d * t' = s * t' * d := by grind
  have e2 : s' * t * d = s' * d * t := by grind
  have e3 : D * t * t' = D * t' * t := by grind
  omega
section
variable {p : List Int} {L : List (Int × Int)} {m k : Nat} {st : Nat → Nat}
theorem Cover.pos (h : Cover p L m k st) {j : Nat} (hj : j < m) : 0 < (L.getD j (0, 0)).2 ∧ st j < st (j + 1) := by
  obtain ⟨⟨_, e2, e3⟩, _⟩ := h.2.2.1 j hj
  omega
theorem Cover.rise (h : Cover p L m k st) (r : Nat) : ∀ d, r + d < m → (L.getD r (0, 0)).1 * (L.getD (r + d) (0, 0)).2 ≤ (L.getD (r + d) (0, 0)).1 * (L.getD r (0, 0)).2
  | 0, _ => Int.le_refl _
  | d + 1, hd => by
    have ih := Cover.rise h r d (by omega)
    have hn := h.2.2.2 (r + d) (by omega)
    have p1 := (h.pos (show r + d < m by omega)).1
    have p2 := (h.pos (show r + d + 1 < m by omega)).1
    have p0 := (h.pos (show r < m by omega)).1
    unfold mustJ at hn
    rw [show r + (d + 1) = r + d + 1 by omega]
    exact leF_trans (a := L.getD r (0, 0)) (b := L.getD (r + d) (0, 0)) (c := L.getD (r + d + 1) (0, 0)) (by omega) (by omega) (by omega) ih (by unfold leF; omega)
theorem Cover.up (h : Cover p L m k st) (j : Nat) : ∀ d, j + d < m → ∀ x, st (j + d) ≤ x → x ≤ st (j + d + 1) → (L.getD j (0, 0)).1 * ((x : Int) - st j) ≤ (sumK p x - sumK p (st j)) * (L.getD j (0, 0)).2
  | 0, hd, x, h1, h2 => (h.2.2.1 j hd).2 x h1 h2
  | d + 1, hd, x, h1, h2 => by
    have hp := (h.pos (show j + d < m by omega)).2
    have ih := Cover.up h j d (by omega) (st (j + d + 1)) (by omega) (Nat.le_refl _)
    have hb := (h.2.2.1 (j + (d + 1)) hd).2 x h1 h2
    have hr := h.rise j (d + 1) hd
    rw [show j + (d + 1) = j + d + 1 by omega] at hb hr h1
    have hs := scale_up hb hr (by omega) (Int.le_of_lt (h.pos (show j < m by omega)).1) (h.pos (show j + d + 1 < m by omega)).1
    obtain ⟨F, eF⟩ : ∃ F, L.getD j (0, 0) = F := ⟨_, rfl⟩
    rw [eF] at ih hs ⊢
    obtain ⟨s, t⟩ := F
    simp only at ih hs ⊢
    have e1 : s * ((x : Int) - st j) = s * ((x : Int) - st (j + d + 1)) + s * ((st (j + d + 1) : Int) - st j) := by grind
    have e2 : (sumK p x - sumK p (st j)) * t = (sumK p x - sumK p (st (j + d + 1))) * t + (sumK p (st (j + d + 1)) - sumK p (st j)) * t := by grind
    rw [e1, e2]
    exact Int.add_le_add hs ih
theorem Cover.down (h : Cover p L m k st) : ∀ (d r : Nat), r + d < m → ∀ x, st r ≤ x → x ≤ st (r + 1) → (sumK p (st (r + d + 1)) - sumK p x) * (L.getD (r + d) (0, 0)).2 ≤ (L.getD (r + d) (0, 0)).1 * ((st (r + d + 1) : Int) - x)
  | 0, r, hd, x, h1, h2 => (h.2.2.1 r hd).back x h1 h2
  | d + 1, r, hd, x, h1, h2 => by
    have hp := (h.pos (show r + 1 < m by omega)).2
    have ih := Cover.down h d (r + 1) (by omega) (st (r + 1)) (Nat.le_refl _) (by omega)
    rw [show r + 1 + d = r + (d + 1) by omega] at ih
    have hb := (h.2.2.1 r (by omega)).back x h1 h2
    have hr := h.rise r (d + 1) hd
    have hs := scale_down hb hr (by omega) (Int.le_of_lt (h.pos hd).1) (h.pos (show r < m by omega)).1
    obtain ⟨F, eF⟩ : ∃ F, L.getD (r + (d + 1)) (0, 0) = F := ⟨_, rfl⟩
    rw [eF] at ih hs ⊢
    obtain ⟨s, t⟩ := F
    simp only at ih hs ⊢
    have e1 : s * ((st (r + (d + 1) + 1) : Int) - x) = s * ((st (r + (d + 1) + 1) : Int) - st (r + 1)) + s * ((st (r + 1) : Int) - x) := by grind
    have e2 : (sumK p (st (r + (d + 1) + 1)) - sumK p x) * t = (sumK p (st (r + (d + 1) + 1)) - sumK p (st (r + 1))) * t + (sumK p (st (r + 1)) - sumK p x) * t := by grind
    rw [e1, e2]
    exact Int.add_le_add ih hs
theorem Cover.find (h : Cover p L m k st) : ∀ n, n ≤ m → ∀ x, x < st n → ∃ j, j < n ∧ st j ≤ x ∧ x < st (j + 1)
  | 0, _, x, hx => by rw [h.1] at hx; omega
  | n + 1, hn, x, hx => by
    by_cases e : x < st n
    · obtain ⟨j, h1, h2⟩ := Cover.find h n (by omega) x e
      exact ⟨j, by omega, h2⟩
    · exact ⟨n, Nat.lt_succ_self _, by omega, hx⟩
theorem Cover.mono (h : Cover p L m k st) (r : Nat) : ∀ d, r + d ≤ m → st r ≤ st (r + d)
  | 0, _ => Nat.le_refl _
  | d + 1, hd => by
    have ih := Cover.mono h r d (by omega)
    have := (h.pos (show r + d < m by omega)).2
    rw [show r + (d + 1) = r + d + 1 by omega]
    omega
end
theorem cross_eq {X1 X2 Y1 Y2 s t u v : Int} (h1 : X1 * t = s * X2) (h2 : Y1 * v = u * Y2) (hX : 1 ≤ X2) (hY : 1 ≤ Y2) (ht : 1 ≤ t) (hv : 1 ≤ v) (he : X1 * Y2 = Y1 * X2) : s * v = u * t := by
  have c1 := (cmp4 h1 h2 hX hY ht hv).1 (by omega)
  have c2 := (cmp4 h2 h1 hY hX hv ht).1 (by omega)
  omega
theorem frL_eq {s t u v : Nat} (ht : 1 ≤ t) (hv : 1 ≤ v) (h : s * v = u * t) : frL s t = frL u v := by
  rw [← frL_scale s t v hv, h, Nat.mul_comm t v, frL_scale u v t ht]
theorem stack_best {p : List Int} (hp : vProf p = true) {L : List (Int × Int)} {m : Nat} {st : Nat → Nat} (h : Cover p L m p.length st) (hL : ∀ j, j < m → okB (L.getD j (0, 0))) (j : Nat) (hj : j < m) (i : Nat) (h1 : st j ≤ i) (h2 : i < st (j + 1)) :
    bestF' p i = frL (L.getD j (0, 0)).1.toNat (L.getD j (0, 0)).2.toNat := by
  have hend := h.mono (j + 1) (m - (j + 1)) (by omega)
  rw [show j + 1 + (m - (j + 1)) = m by omega, h.2.1] at hend
  have hi : i < p.length := by omega
  have hok := hL j hj
  obtain ⟨F, eF⟩ : ∃ F, L.getD j (0, 0) = F := ⟨_, rfl⟩
  have hF2 := (h.pos hj).1
  have up : ∀ b, i ≤ b → b < p.length → leF F (mF p (st j) b) := fun b hb hbl => by
    refine (mF_le hp F (st j) b (by omega) hbl).1.2 ?_
    obtain ⟨r, hr, hr1, hr2⟩ := h.find m (Nat.le_refl _) b (by rw [h.2.1]; exact hbl)
    have hjr : j ≤ r := by
      refine Nat.le_of_not_lt fun c => ?_
      have := h.mono (r + 1) (j - (r + 1)) (by omega)
      rw [show r + 1 + (j - (r + 1)) = j by omega] at this
      omega
    have := h.up j (r - j) (by omega) (b + 1) (by rw [show j + (r - j) = r by omega]; omega) (by rw [show j + (r - j) = r by omega]; omega)
    rw [eF] at this
    have e : ((b + 1 : Nat) : Int) = (b : Int) + 1 := by omega
    rw [e] at this
    exact this
  have dn : ∀ a, a ≤ i → leF (mF p a (st (j + 1) - 1)) F := fun a ha => by
    refine (mF_le hp F a (st (j + 1) - 1) (by omega) (by omega)).2.2 ?_
    obtain ⟨r, hr, hr1, hr2⟩ := h.find m (Nat.le_refl _) a (by rw [h.2.1]; omega)
    have hjr : r ≤ j := by
      refine Nat.le_of_not_lt fun c => ?_
      have := h.mono (j + 1) (r - (j + 1)) (by omega)
      rw [show j + 1 + (r - (j + 1)) = r by omega] at this
      omega
    have := h.down (j - r) r (by omega) a hr1 (by omega)
    rw [show r + (j - r) = j by omega, eF] at this
    rw [show st (j + 1) - 1 + 1 = st (j + 1) by omega]
    have e : ((st (j + 1) - 1 : Nat) : Int) + 1 = (st (j + 1) : Int) := by omega
    rw [e]
    exact this
  obtain ⟨⟨a0, ha0, g1⟩, g2, ga, gb, gh1, gh2, gh3, eg⟩ := bestF_is p i hi
  obtain ⟨G, eG⟩ : ∃ G, bestF' p i = G := ⟨_, rfl⟩
  rw [eF] at hok hF2 ⊢
  rw [eG] at g1 g2 eg
  have hG : 1 ≤ G.2 := by rw [eg]; exact mF_one p ga gb (by omega)
  have k1 : leF G F := leF_trans hG (mF_one p a0 (st (j + 1) - 1) (by omega)) (by omega) (g1 (st (j + 1) - 1) (by omega) (by omega)) (dn a0 ha0)
  have k2 : leF F G := by
    obtain ⟨b, hb1, hb2, hb3⟩ := g2 (st j) h1
    exact leF_trans (by omega) (mF_one p (st j) b (by omega)) hG (up b hb1 hb2) hb3
  have hv := frL_val (sumP p ga (gb + 1)).toNat (gb + 1 - ga)
  have hpo := frL_pos' (u := (sumP p ga (gb + 1)).toNat) (d := gb + 1 - ga) (by omega)
  rw [eG, eg]
  unfold mF
  have eg' : G = frL (sumP p ga (gb + 1)).toNat (gb + 1 - ga) := eg
  rw [← eg'] at hv hpo
  obtain ⟨u, v⟩ := F
  obtain ⟨⟨q1, q2⟩, q3⟩ := hok
  simp only at q1 q2 q3
  obtain ⟨s, rfl⟩ := Int.eq_ofNat_of_zero_le q1
  obtain ⟨t, rfl⟩ := Int.eq_ofNat_of_zero_le (show 0 ≤ v by omega)
  unfold leF at k1 k2
  simp only at k1 k2
  simp only [Int.toNat_natCast] at k1 k2 q3 ⊢
  refine frL_eq (by omega) (by omega) ?_
  have hc := cross_eq (X1 := G.1) (X2 := G.2) (Y1 := (s : Int)) (Y2 := (t : Int)) (u := (s : Int)) (v := (t : Int)) hv rfl hpo q3 (by omega) q3 (by omega)
  exact_mod_cast hc
theorem spread_len {p : List Int} {L : List (Int × Int)} {m k : Nat} {st : Nat → Nat} (h : Cover p L m k st) (hm : m ≤ L.length) : ∀ j, j ≤ m → (spread (L.take j)).length = st j
  | 0, _ => by rw [h.1]; simp [spread]
  | j + 1, hj => by
    have ih := spread_len h hm j (by omega)
    obtain ⟨⟨_, e2, e3⟩, _⟩ := h.2.2.1 j (by omega)
    have hl : j < L.length := by omega
    rw [List.take_succ_eq_append_getElem hl]
    unfold spread at ih ⊢
    rw [List.flatMap_append, List.length_append, ih]
    have eg : L.getD j (0, 0) = L[j] := by simp [hl]
    rw [eg] at e2
    simp only [List.flatMap_cons, List.flatMap_nil, List.append_nil, List.length_replicate]
    omega
theorem spread_at {p : List Int} {L : List (Int × Int)} {k : Nat} {st : Nat → Nat} (h : Cover p L L.length k st) (j : Nat) (hj : j < L.length) (i : Nat) (h1 : st j ≤ i) (h2 : i < st (j + 1)) : (spread L)[i]? = some (frL (L.getD j (0, 0)).1.toNat (L.getD j (0, 0)).2.toNat) := by
  have hl := spread_len h (Nat.le_refl _) j (by omega)
  obtain ⟨⟨_, e2, e3⟩, _⟩ := h.2.2.1 j hj
  have eg : L.getD j (0, 0) = L[j] := by simp [hj]
  rw [eg] at e2 ⊢
  have hs : spread L = spread (L.take j) ++ (List.replicate (L[j]).2.toNat (frL (L[j]).1.toNat (L[j]).2.toNat) ++ spread (L.drop (j + 1))) := by
    have e : L = L.take j ++ (L[j] :: L.drop (j + 1)) := by rw [← List.drop_eq_getElem_cons hj, List.take_append_drop]
    conv => lhs; rw [e]
    unfold spread
    rw [List.flatMap_append, List.flatMap_cons]
  rw [hs, List.getElem?_append_right (by omega), hl, List.getElem?_append_left (by rw [List.length_replicate]; omega), List.getElem?_replicate, if_pos (by omega)]
/-- Smooth rows by blocks are smooth rows by means. -/
theorem stackX_means (p : List Int) : stackX p = meansX p := by
  unfold stackX meansX
  cases hp : vProf p with
  | false => rfl
  | true =>
    rw [if_pos rfl, if_pos rfl]
    obtain ⟨st, h⟩ := stack_cover p p.length
    have hg := stackP_good hp p.length (Nat.le_refl _)
    obtain ⟨L, eL⟩ : ∃ L, stackP p p.length = L := ⟨_, rfl⟩
    rw [eL] at h hg ⊢
    have hlen := spread_len h (Nat.le_refl _) L.length (Nat.le_refl _)
    rw [List.take_length, h.2.1] at hlen
    refine List.ext_getElem? fun i => ?_
    by_cases hi : i < p.length
    · obtain ⟨j, hj, h1, h2⟩ := h.find L.length (Nat.le_refl _) i (by rw [h.2.1]; exact hi)
      rw [spread_at h j hj i h1 h2, ← stack_best hp h hg.1 j hj i h1 h2]
      simp [hi]
    · rw [List.getElem?_eq_none (by omega), List.getElem?_eq_none (by simp; omega)]
end Go.Proofs.Ytlifjhhjkcmneaa
