/- Lands and high peaks, as lists: each piece has a peak of its own, and where there is a high peak there is a piece. -/
import Derived.Test.YtaeenedjmakelaaDoorPieceT
import Derived.Test.YtaeenedjmakelaaDoorEnds4
namespace Go.Proofs.YtaeenedjmakelaaDoor
open Go.RowKit

theorem few_rel {α β : Type} [DecidableEq β] (R : α → β → Prop) : ∀ (l : List α) (l2 : List β), l.Nodup → (∀ x, x ∈ l → ∃ y, y ∈ l2 ∧ R x y) → (∀ x x' y, x ∈ l → x' ∈ l → R x y → R x' y → x = x') → l.length ≤ l2.length
  | [], _, _, _, _ => Nat.zero_le _
  | a :: l, l2, hd, h1, h2 => by
    obtain ⟨y, hy, hr⟩ := h1 a (by simp)
    have hd2 := List.nodup_cons.1 hd
    have ih := few_rel R l (l2.erase y) hd2.2 (fun x hx => by
      obtain ⟨z, hz, hrz⟩ := h1 x (by simp [hx])
      refine ⟨z, ?_, hrz⟩
      by_cases e : z = y
      · subst e
        have := h2 x a z (by simp [hx]) (by simp) hrz hr
        subst this
        exact absurd hx hd2.1
      · exact (List.mem_erase_of_ne e).2 hz) (fun x x' z hx hx' => h2 x x' z (by simp [hx]) (by simp [hx']))
    rw [List.length_erase_of_mem hy] at ih
    have : 0 < l2.length := List.length_pos_of_mem hy
    rw [List.length_cons]
    omega
open Classical in
noncomputable def leadsL (N : Nat) (T : Nat → Nat → Bool) (B : Nat → Bool) (k : Nat) : List Nat := (List.range k).filter fun c => decide (LeadT N T B c)
theorem leads_len (N : Nat) (T : Nat → Nat → Bool) (B : Nat → Bool) : ∀ k, cntT N T B k = ((leadsL N T B k).length : Int)
  | 0 => rfl
  | k + 1 => by
    unfold leadsL
    rw [List.range_succ, List.filter_append, List.length_append]
    have ih := leads_len N T B k
    unfold leadsL at ih
    by_cases h : LeadT N T B k
    · rw [cntT_yes h, ih]; simp [h]
    · rw [cntT_no h, ih]; simp [h]
theorem mem_leads {N : Nat} {T : Nat → Nat → Bool} {B : Nat → Bool} {k c : Nat} : c ∈ leadsL N T B k ↔ c < k ∧ LeadT N T B c := by
  unfold leadsL
  simp
theorem sum_filter (P : Int → Prop) [DecidablePred P] : ∀ l : List Int, (l.map fun x => if P x then (1 : Int) else 0).sum = ((l.filter fun x => decide (P x)).length : Int)
  | [] => rfl
  | a :: l => by
    rw [List.map_cons, List.sum_cons, sum_filter P l]
    by_cases h : P a
    · rw [if_pos h, List.filter_cons_of_pos (by simp [h]), List.length_cons]; omega
    · rw [if_neg h, List.filter_cons_of_neg (by simp [h])]; omega
theorem sumTo_list' (F : Int → Int) (l : List Int) : ∀ k, k ≤ l.length → sumTo (fun j => F (l.getD j 0)) k = ((l.take k).map F).sum
  | 0, _ => rfl
  | k + 1, h => by
    rw [sumTo, sumTo_list' F l k (by omega), List.take_succ_eq_append_getElem (by omega), List.map_append, List.sum_append]
    have : l.getD k 0 = l[k] := by simp [show k < l.length by omega]
    rw [this]
    simp
theorem same_both {n m i j : Nat} {p : List Int} {t : Int} (hi : above p t i = true) (h : Reach n m (sameH p) i j) : Reach n m (bothB (above p t)) i j ∧ above p t j = true := by
  induction h with
  | refl => exact ⟨.refl, hi⟩
  | @step j k hj hk he ih =>
    have hb : above p t k = true := by
      have h1 := sameH_iff.1 he
      have h2 := ih.2
      unfold above at h2 ⊢
      rw [← h1]; exact h2
    exact ⟨.step ih.1 hk (by unfold bothB; rw [ih.2, hb]; rfl), hb⟩
theorem top_of {N : Nat} {T : Nat → Nat → Bool} {B : Nat → Bool} {p : List Int} {c : Nat} (hp : ∀ x, p.getD x 0 ≤ 12) : ∀ (d : Nat) (x : Nat), RT N T B c x → 12 - p.getD x 0 ≤ (d : Int) → ∃ y, RT N T B c y ∧ ∀ z, RT N T B c z → p.getD z 0 ≤ p.getD y 0
  | d, x, hr, hd => by
    by_cases h : ∃ z, RT N T B c z ∧ p.getD x 0 < p.getD z 0
    · obtain ⟨z, hz, hlt⟩ := h
      cases d with
      | zero => have := hp z; omega
      | succ d => exact top_of hp d z hz (by omega)
    · exact ⟨x, hr, fun z hz => Int.not_lt.1 fun hlt => h ⟨z, hz, hlt⟩⟩
theorem least_bool {B : Nat → Bool} : ∀ c, B c = true → ∃ a, a ≤ c ∧ B a = true ∧ ∀ b, b < a → B b = false
  | c, hc => by
    by_cases h : ∃ b, b < c ∧ B b = true
    · obtain ⟨b, hb, hB⟩ := h
      obtain ⟨a, h1, h2, h3⟩ := least_bool b hB
      exact ⟨a, by omega, h2, h3⟩
    · refine ⟨c, Nat.le_refl _, hc, fun b hb => ?_⟩
      cases e : B b with
      | false => rfl
      | true => exact absurd ⟨b, hb, e⟩ h
theorem lands_peaks {n m N : Nat} {p fs M : List Int} {bs : List Bool} {t : Int} (hn : n ≤ 5) (hm : m ≤ 5) (eN : n * m = N) (hp : ∀ x, p.getD x 0 ≤ 12) (F : Flats n m (sameH p) fs) (B : Beat n m p fs ovUp N 0 bs) (hM : M = keptL fs bs N) :
    cntT N (touchS m) (above p t) N ≤ sumTo (fun k => if t < p.getD (M.getD k 0).toNat 0 then 1 else 0) M.length ∧ (0 < sumTo (fun k => if t < p.getD (M.getD k 0).toNat 0 then 1 else 0) M.length → 0 < cntT N (touchS m) (above p t) N) := by
  subst eN
  rw [leads_len, sumTo_list' (fun z => if t < p.getD z.toNat 0 then (1 : Int) else 0) M M.length (Nat.le_refl _), List.take_length, sum_filter (fun z => t < p.getD z.toNat 0) M]
  have hb : ∀ x, above p t x = true ↔ t < p.getD x 0 := fun x => by unfold above; exact decide_eq_true_iff
  constructor
  · have key := few_rel (fun (c : Nat) (y : Int) => ∃ C : Nat, y = C ∧ C < n * m ∧ RT (n * m) (touchS m) (above p t) c C) (leadsL (n * m) (touchS m) (above p t) (n * m)) (M.filter fun z => decide (t < p.getD z.toNat 0)) (List.nodup_range.filter _) (fun c hc => ?_) (fun c c' y hc hc' h h' => ?_)
    · omega
    · obtain ⟨hcN, hcB, _⟩ := mem_leads.1 hc
      obtain ⟨x, hx, hmax⟩ := top_of (N := n * m) (T := touchS m) (B := above p t) hp (12 - p.getD c 0).toNat c .refl (by omega)
      have hxN := (rt_reach hn hm hcN hcB hx).1
      have hxB := hx.bel hcB
      obtain ⟨C, e, hCx, hre⟩ := F.ok x hxN
      have hCN : C < n * m := by omega
      have hxC := same_both hxB hre
      have hcC := hx.trans (reach_rt hn hm hxN hxC.1)
      have eCC : fs.getD C 0 = C := by rw [F.reach hn hm hxN hre, e]
      have hpC := hre.high
      refine ⟨C, ?_, C, rfl, hCN, hcC⟩
      rw [List.mem_filter, hM, mem_keptL]
      refine ⟨⟨C, rfl, hCN, eCC, ?_⟩, by rw [Int.toNat_natCast, decide_eq_true_eq]; exact (hb C).1 hxC.2⟩
      cases e2 : bs.getD C false with
      | false => rfl
      | true =>
        obtain ⟨x', s, k, h1, h2, h3, h4, h5, h6⟩ := (B.iff C hCN).1 e2
        obtain ⟨C', e', _, hre'⟩ := F.ok x' h2
        obtain rfl : C' = C := by omega
        have hkm : (k : Int) ∈ aroundL n m x' := by
          rw [← h4, List.getD_eq_getElem?_getD, List.getElem?_eq_getElem h3]
          exact List.getElem_mem h3
        have hkN := around_lt hn hm h2 hkm
        have hC2 := same_both hxC.2 (hre'.symm (sameH_symm p) hn hm h2)
        have hcx := hcC.trans (reach_rt hn hm hCN hC2.1)
        have hpx := hre'.high
        have hlt : p.getD x' 0 < p.getD k 0 := by simpa [ovUp] using h5
        have hkB : above p t k = true := (hb k).2 (by have := (hb x').1 hC2.2; omega)
        have := hmax k (.step hcx hkN hkB ((touch_iff hn hm h2 hkN).2 (.inr hkm)))
        omega
    · obtain ⟨hcN, hcB, hcO⟩ := mem_leads.1 hc
      obtain ⟨hcN', hcB', hcO'⟩ := mem_leads.1 hc'
      obtain ⟨C, e, hCN, hr⟩ := h
      obtain ⟨C', e', _, hr'⟩ := h'
      obtain rfl : C' = C := by omega
      have back : ∀ a, a < n * m → above p t a = true → RT (n * m) (touchS m) (above p t) a C' → RT (n * m) (touchS m) (above p t) C' a := fun a ha hB h =>
        reach_rt hn hm hCN ((rt_reach hn hm ha hB h).2.symm (bothB_symm _) hn hm ha)
      by_cases e1 : c < c'
      · exact absurd ⟨c, e1, hcB, hr.trans (back c' hcN' hcB' hr')⟩ hcO'
      · by_cases e2 : c' < c
        · exact absurd ⟨c', e2, hcB', hr'.trans (back c hcN hcB hr)⟩ hcO
        · omega
  · intro h
    have h0 : 0 < (M.filter fun z => decide (t < p.getD z.toNat 0)).length := by omega
    obtain ⟨z, hz⟩ := List.exists_mem_of_length_pos h0
    rw [List.mem_filter, hM, mem_keptL] at hz
    obtain ⟨⟨i, rfl, hi, _, _⟩, h2⟩ := hz
    rw [Int.toNat_natCast, decide_eq_true_eq] at h2
    obtain ⟨a, h3, h4, h5⟩ := least_bool i ((hb i).2 h2)
    have : a ∈ leadsL (n * m) (touchS m) (above p t) (n * m) := mem_leads.2 ⟨by omega, h4, fun ⟨b, hb1, hb2, _⟩ => by rw [h5 b hb1] at hb2; cases hb2⟩
    have := List.length_pos_of_mem this
    omega
/-- What the ends of a grid are: the flats, what beats them, the list. -/
theorem endsL_some' {ov : Int → Int → Bool} {h : List (List Int)} {n m N : Nat} {p : List Int} (hg : vGrid h = true) (en : h.length = n) (em : (h.getD 0 []).length = m) (ep : h.flatten = p) (eN : n * m = N)
    (hB : ∃ bs, Beat n m p (flatsL n m (sameH p)) ov N 0 bs) : ∃ bs, Flats n m (sameH p) (flatsL n m (sameH p)) ∧ Beat n m p (flatsL n m (sameH p)) ov N 0 bs ∧ endsL ov h = keptL (flatsL n m (sameH p)) bs N := by
  have G := Grid.of hg
  obtain ⟨bs, hB⟩ := hB
  have F : Flats n m (sameH p) (flatsL n m (sameH p)) := flatsL_ok (sameH_symm p) (by rw [← en]; exact G.n5) (by rw [← em]; exact G.m5)
  exact ⟨bs, F, hB, endsL_yes hg en em ep eN F hB⟩
theorem beat_exists' (n m N : Nat) (p fs : List Int) (ov : Int → Int → Bool) (_hN : n * m = N) : ∃ bs, Beat n m p fs ov N 0 bs := by
  obtain ⟨P, eP⟩ : ∃ P : Nat → Prop, ∀ c, P c ↔ ∃ x s k : Nat, (x < N ∨ x = N ∧ s < 0) ∧ x < n * m ∧ s < (aroundL n m x).length ∧ (aroundL n m x).getD s 0 = k ∧ ov (p.getD k 0) (p.getD x 0) = true ∧ fs.getD x 0 = c := ⟨_, fun _ => Iff.rfl⟩
  refine ⟨(List.range (n * m)).map fun c => @decide (P c) (Classical.propDecidable _), by simp, fun c hc => ?_⟩
  rw [← eP]
  have : ((List.range (n * m)).map fun c => @decide (P c) (Classical.propDecidable _)).getD c false = @decide (P c) (Classical.propDecidable _) := by simp [hc]
  rw [this]
  exact @decide_eq_true_iff _ (Classical.propDecidable _)
end Go.Proofs.YtaeenedjmakelaaDoor
