/- Towards Euler's formula for sets of cells (FnLandsAt): how the number of pieces changes when a cell is added. -/
import Derived.Test.YtaeenedjmakelaaDoorEulerA
namespace Go.Proofs.YtaeenedjmakelaaDoor
open Go.RowKit

theorem rt_backE {N : Nat} {T : Nat → Nat → Bool} {B : Nat → Bool} {i j : Nat} (hT : ∀ a b, T a b = T b a) (hi : i < N) (hb : B i = true) (h : RT N T B i j) : RT N T B j i ∧ j < N ∧ B j = true := by
  induction h with
  | refl => exact ⟨.refl, hi, hb⟩
  | @step j k _ hk hbk hTk ih => exact ⟨(RT.step .refl ih.2.1 ih.2.2 (by rw [hT]; exact hTk)).trans ih.1, hk, hbk⟩
theorem lead_ofE {N : Nat} {T : Nat → Nat → Bool} {B : Nat → Bool} : ∀ x, x < N → B x = true → ∃ c, c < N ∧ LeadT N T B c ∧ RT N T B c x
  | x, hx, hB => by
    by_cases h : OldT N T B x x
    · obtain ⟨c, hc, hb, hr⟩ := h
      obtain ⟨d, h1, h2, h3⟩ := lead_ofE (N := N) (T := T) c (Nat.lt_trans hc hx) hb
      exact ⟨d, h1, h2, h3.trans hr⟩
    · exact ⟨x, hx, ⟨hB, h⟩, .refl⟩
/-- Two leads of one piece are one. -/
theorem lead_one {N : Nat} {T : Nat → Nat → Bool} {B : Nat → Bool} {c d : Nat} (hT : ∀ a b, T a b = T b a) (hc : c < N) (h1 : LeadT N T B c) (h2 : LeadT N T B d) (h : RT N T B c d) : c = d := by
  have hb := (rt_backE hT hc h1.1 h).1
  rcases Nat.lt_trichotomy c d with g | g | g
  · exact absurd ⟨c, g, h1.1, h⟩ h2.2
  · exact g
  · exact absurd ⟨d, g, h2.1, hb⟩ h1.2
theorem put1_of {B : Nat → Bool} {x i : Nat} (h : B i = true) : put1 B x i = true := by unfold put1; rw [h]; simp
theorem put1_at (B : Nat → Bool) (x : Nat) : put1 B x x = true := by unfold put1; simp
theorem put1_ne {B : Nat → Bool} {x i : Nat} (h : put1 B x i = true) (hne : i ≠ x) : B i = true := by
  unfold put1 at h
  simpa [hne] using h
theorem rt_put1 {N : Nat} {T : Nat → Nat → Bool} {B : Nat → Bool} {x i j : Nat} (h : RT N T B i j) : RT N T (put1 B x) i j := by
  induction h with
  | refl => exact .refl
  | step _ hk hbk hT ih => exact .step ih hk (put1_of hbk) hT
/-- There is one piece more at most. -/
theorem cnt_put1 {N : Nat} {T : Nat → Nat → Bool} {B : Nat → Bool} {x : Nat} (hT : ∀ a b, T a b = T b a) : cntT N T (put1 B x) N ≤ cntT N T B N + 1 := by
  rw [leads_len, leads_len]
  have hnd : (leadsL N T (put1 B x) N).Nodup := List.nodup_range.filter _
  have key := few_rel (fun c d => RT N T (put1 B x) d c ∧ d < N ∧ put1 B x d = true) ((leadsL N T (put1 B x) N).erase x) (leadsL N T B N) (hnd.erase x) (fun c hc => ?_) (fun c c' d hc hc' h h' => ?_)
  · have hl : (leadsL N T (put1 B x) N).length ≤ ((leadsL N T (put1 B x) N).erase x).length + 1 := by
      by_cases hm : x ∈ leadsL N T (put1 B x) N
      · rw [List.length_erase_of_mem hm]; omega
      · rw [List.erase_of_not_mem hm]; omega
    omega
  · obtain ⟨hne, hm⟩ := (List.Nodup.mem_erase_iff hnd).1 hc
    obtain ⟨hcN, hcl⟩ := mem_leads.1 hm
    obtain ⟨d, h1, h2, h3⟩ := lead_ofE (N := N) (T := T) c hcN (put1_ne hcl.1 hne)
    exact ⟨d, mem_leads.2 ⟨h1, h2⟩, rt_put1 h3, h1, put1_of h2.1⟩
  · obtain ⟨hcN, hcl⟩ := mem_leads.1 ((List.Nodup.mem_erase_iff hnd).1 hc).2
    obtain ⟨hcN', hcl'⟩ := mem_leads.1 ((List.Nodup.mem_erase_iff hnd).1 hc').2
    exact lead_one hT hcN hcl hcl' ((rt_backE hT h.2.1 h.2.2 h.1).1.trans h'.1)
/-- No more pieces where the new cell touches one. -/
theorem cnt_put1_join {N : Nat} {T : Nat → Nat → Bool} {B : Nat → Bool} {x y : Nat} (hT : ∀ a b, T a b = T b a) (hx : x < N) (hy : y < N) (hb : B y = true) (ht : T y x = true) : cntT N T (put1 B x) N ≤ cntT N T B N := by
  rw [leads_len, leads_len]
  have hnd : (leadsL N T (put1 B x) N).Nodup := List.nodup_range.filter _
  have key := few_rel (fun c d => RT N T (put1 B x) d c ∧ d < N ∧ put1 B x d = true) (leadsL N T (put1 B x) N) (leadsL N T B N) hnd (fun c hc => ?_) (fun c c' d hc hc' h h' => ?_)
  · omega
  · obtain ⟨hcN, hcl⟩ := mem_leads.1 hc
    by_cases hne : c = x
    · subst hne
      obtain ⟨d, h1, h2, h3⟩ := lead_ofE (N := N) (T := T) y hy hb
      exact ⟨d, mem_leads.2 ⟨h1, h2⟩, .step (rt_put1 h3) hx (put1_at B c) ht, h1, put1_of h2.1⟩
    · obtain ⟨d, h1, h2, h3⟩ := lead_ofE (N := N) (T := T) c hcN (put1_ne hcl.1 hne)
      exact ⟨d, mem_leads.2 ⟨h1, h2⟩, rt_put1 h3, h1, put1_of h2.1⟩
  · obtain ⟨hcN, hcl⟩ := mem_leads.1 hc
    obtain ⟨hcN', hcl'⟩ := mem_leads.1 hc'
    exact lead_one hT hcN hcl hcl' ((rt_backE hT h.2.1 h.2.2 h.1).1.trans h'.1)
/-- One piece less at least where the new cell touches two. -/
theorem cnt_put1_two {N : Nat} {T : Nat → Nat → Bool} {B : Nat → Bool} {x y z : Nat} (hT : ∀ a b, T a b = T b a) (hx : x < N) (hy : y < N) (hb : B y = true) (ht : T y x = true) (hz : z < N) (hbz : B z = true) (htz : T z x = true) (hno : ¬ RT N T B y z) : cntT N T (put1 B x) N + 1 ≤ cntT N T B N := by
  rw [leads_len, leads_len]
  have hnd : (leadsL N T (put1 B x) N).Nodup := List.nodup_range.filter _
  have hnd2 : (leadsL N T B N).Nodup := List.nodup_range.filter _
  obtain ⟨dy, y1, y2, y3⟩ := lead_ofE (N := N) (T := T) y hy hb
  obtain ⟨dz, z1, z2, z3⟩ := lead_ofE (N := N) (T := T) z hz hbz
  have hne : dy ≠ dz := fun e => by
    subst e
    exact hno ((rt_backE hT y1 y2.1 y3).1.trans z3)
  have hzm : dz ∈ leadsL N T B N := mem_leads.2 ⟨z1, z2⟩
  have yx : RT N T (put1 B x) dy x := .step (rt_put1 y3) hx (put1_at B x) ht
  have zx : RT N T (put1 B x) dz x := .step (rt_put1 z3) hx (put1_at B x) htz
  have key := few_rel (fun c d => RT N T (put1 B x) d c ∧ d < N ∧ put1 B x d = true) (leadsL N T (put1 B x) N) ((leadsL N T B N).erase dz) hnd (fun c hc => ?_) (fun c c' d hc hc' h h' => ?_)
  · rw [List.length_erase_of_mem hzm] at key
    have := List.length_pos_of_mem hzm
    omega
  · obtain ⟨hcN, hcl⟩ := mem_leads.1 hc
    have my : dy ∈ (leadsL N T B N).erase dz := (List.Nodup.mem_erase_iff hnd2).2 ⟨hne, mem_leads.2 ⟨y1, y2⟩⟩
    by_cases hcx : c = x
    · subst hcx
      exact ⟨dy, my, yx, y1, put1_of y2.1⟩
    · obtain ⟨d, h1, h2, h3⟩ := lead_ofE (N := N) (T := T) c hcN (put1_ne hcl.1 hcx)
      by_cases hd : d = dz
      · subst hd
        exact ⟨dy, my, (yx.trans (rt_backE hT h1 (put1_of h2.1) zx).1).trans (rt_put1 h3), y1, put1_of y2.1⟩
      · exact ⟨d, (List.Nodup.mem_erase_iff hnd2).2 ⟨hd, mem_leads.2 ⟨h1, h2⟩⟩, rt_put1 h3, h1, put1_of h2.1⟩
  · obtain ⟨hcN, hcl⟩ := mem_leads.1 hc
    obtain ⟨hcN', hcl'⟩ := mem_leads.1 hc'
    exact lead_one hT hcN hcl hcl' ((rt_backE hT h.2.1 h.2.2 h.1).1.trans h'.1)
end Go.Proofs.YtaeenedjmakelaaDoor
