/- Pieces told by searches among all cells, as lists: how many searches begin. -/
import Derived.Test.YtaeenedjmakelaaDoorCells
import Derived.Test.YtaeenedjmakelaaDoorSumTo
namespace Go.Proofs.YtaeenedjmakelaaDoor

/-- What can be reached from i over cells that belong, each touching the next. -/
inductive RT (N : Nat) (T : Nat → Nat → Bool) (bel : Nat → Bool) (i : Nat) : Nat → Prop
  | refl : RT N T bel i i
  | step {j k : Nat} : RT N T bel i j → k < N → bel k = true → T j k = true → RT N T bel i k
theorem RT.trans {N : Nat} {T : Nat → Nat → Bool} {bel : Nat → Bool} {i j k : Nat} (h : RT N T bel i j) (g : RT N T bel j k) : RT N T bel i k := by
  induction g with
  | refl => exact h
  | step _ h1 h2 h3 ih => exact .step ih h1 h2 h3
theorem RT.bel {N : Nat} {T : Nat → Nat → Bool} {bel : Nat → Bool} {i j : Nat} (hi : bel i = true) (h : RT N T bel i j) : bel j = true := by
  cases h with
  | refl => exact hi
  | step _ _ h2 _ => exact h2
/-- Reached from a cell ahead of i. -/
def OldT (N : Nat) (T : Nat → Nat → Bool) (bel : Nat → Bool) (i x : Nat) : Prop := ∃ c, c < i ∧ bel c = true ∧ RT N T bel c x
/-- A search begins here. -/
def LeadT (N : Nat) (T : Nat → Nat → Bool) (bel : Nat → Bool) (c : Nat) : Prop := bel c = true ∧ ¬ OldT N T bel c c
open Classical in
noncomputable def cntT (N : Nat) (T : Nat → Nat → Bool) (bel : Nat → Bool) (k : Nat) : Int := sumTo (fun c => if LeadT N T bel c then 1 else 0) k
theorem cntT_yes {N : Nat} {T : Nat → Nat → Bool} {bel : Nat → Bool} {k : Nat} (h : LeadT N T bel k) : cntT N T bel (k + 1) = cntT N T bel k + 1 := by
  rw [cntT, cntT, sumTo, if_pos h]
theorem cntT_no {N : Nat} {T : Nat → Nat → Bool} {bel : Nat → Bool} {k : Nat} (h : ¬ LeadT N T bel k) : cntT N T bel (k + 1) = cntT N T bel k := by
  rw [cntT, cntT, sumTo, if_neg h, Int.add_zero]
theorem cntT_le (N : Nat) (T : Nat → Nat → Bool) (bel : Nat → Bool) (k : Nat) : 0 ≤ cntT N T bel k ∧ cntT N T bel k ≤ k := by
  induction k with
  | zero => exact ⟨Int.le_refl _, Int.le_refl _⟩
  | succ k ih =>
    by_cases h : LeadT N T bel k
    · rw [cntT_yes h]; omega
    · rw [cntT_no h]; omega
structure TOut (N : Nat) (T : Nat → Nat → Bool) (bel : Nat → Bool) (i : Nat) (sb : List Bool) (out : Int) : Prop where
  len : sb.length = N
  sn : ∀ x, x < N → (sb.getD x false = true ↔ OldT N T bel i x)
  cnt : out = cntT N T bel i
structure TIn (N : Nat) (T : Nat → Nat → Bool) (bel : Nat → Bool) (i : Nat) (sb : List Bool) (out : Int) (ls : List Int) (q t : Nat) : Prop where
  len : sb.length = N
  sn : ∀ x, x < N → (sb.getD x false = true ↔ OldT N T bel i x ∨ ∃ s, s < ls.length ∧ ls.getD s 0 = x)
  cnt : out = cntT N T bel (i + 1)
  mem : ∀ s, s < ls.length → ∃ X : Nat, ls.getD s 0 = X ∧ X < N ∧ bel X = true ∧ RT N T bel i X
  room : ls.length + sb.count false ≤ N
  first : 0 < ls.length ∧ ls.getD 0 0 = i
  bi : bel i = true
  iN : i < N
  done : ∀ s, s < q → ∀ X : Nat, ls.getD s 0 = X → ∀ k, k < N → bel k = true → T X k = true → sb.getD k false = true
  here : ∀ X : Nat, ls.getD q 0 = X → ∀ k, k < t → k < N → bel k = true → T X k = true → sb.getD k false = true
theorem tOut_start (N : Nat) (T : Nat → Nat → Bool) (bel : Nat → Bool) : TOut N T bel 0 (List.replicate N false) 0 :=
  ⟨by simp, fun x hx => ⟨fun h => by simp [hx] at h, fun ⟨c, hc, _⟩ => absurd hc (Nat.not_lt_zero _)⟩, rfl⟩
theorem OldT.succ {N : Nat} {T : Nat → Nat → Bool} {bel : Nat → Bool} {i x : Nat} (h : OldT N T bel i x) : OldT N T bel (i + 1) x := by
  obtain ⟨c, h1, h2⟩ := h
  exact ⟨c, by omega, h2⟩
theorem OldT.go {N : Nat} {T : Nat → Nat → Bool} {bel : Nat → Bool} {i x y : Nat} (h : OldT N T bel i x) (g : RT N T bel x y) : OldT N T bel i y := by
  obtain ⟨c, h1, h2, h3⟩ := h
  exact ⟨c, h1, h2, h3.trans g⟩
theorem TOut.skip {N : Nat} {T : Nat → Nat → Bool} {bel : Nat → Bool} {i : Nat} {sb : List Bool} {out : Int} (H : TOut N T bel i sb out) (hi : i < N) (h : sb.getD i false = true ∨ bel i = false) : TOut N T bel (i + 1) sb out := by
  refine ⟨H.len, fun x hx => (H.sn x hx).trans ⟨OldT.succ, fun ⟨c, h1, h2, h3⟩ => ?_⟩, ?_⟩
  · by_cases e : c = i
    · subst e
      rcases h with h | h
      · exact ((H.sn c hi).1 h).go h3
      · rw [h] at h2; cases h2
    · exact ⟨c, by omega, h2, h3⟩
  · rw [cntT_no ?_]
    · exact H.cnt
    · rintro ⟨h1, h2⟩
      rcases h with h | h
      · exact h2 ((H.sn i hi).1 h)
      · rw [h] at h1; cases h1
theorem count_le_len (l : List Bool) : l.count false ≤ l.length := List.count_le_length
theorem TOut.begin {N : Nat} {T : Nat → Nat → Bool} {bel : Nat → Bool} {i : Nat} {sb : List Bool} {out : Int} (H : TOut N T bel i sb out) (hi : i < N) (h : sb.getD i false = false) (hb : bel i = true) : TIn N T bel i (sb.set i true) (out + 1) [(i : Int)] 0 0 := by
  have hno : ¬ OldT N T bel i i := fun e => by rw [(H.sn i hi).2 e] at h; cases h
  have hc := count_setB sb i (by rw [H.len]; exact hi) h
  have hl := count_le_len sb
  refine ⟨by rw [List.length_set]; exact H.len, fun x hx => ?_, by rw [cntT_yes ⟨hb, hno⟩, H.cnt], fun s hs => ?_, ?_, ⟨by simp, rfl⟩, hb, hi, fun s hs => absurd hs (Nat.not_lt_zero _), fun X _ k hk => absurd hk (Nat.not_lt_zero _)⟩
  · rw [getD_setB _ _ _ _ (by rw [H.len]; exact hi)]
    by_cases e : x = i
    · subst e
      rw [if_pos rfl]
      exact ⟨fun _ => .inr ⟨0, by simp, rfl⟩, fun _ => rfl⟩
    · rw [if_neg e, H.sn x hx]
      refine ⟨.inl, fun h => ?_⟩
      rcases h with h | ⟨s, hs, h2⟩
      · exact h
      · rw [List.length_singleton] at hs
        obtain rfl : s = 0 := by omega
        have h3 : (i : Int) = x := h2
        exact absurd (by omega : x = i) e
  · rw [List.length_singleton] at hs
    obtain rfl : s = 0 := by omega
    exact ⟨i, rfl, hi, hb, .refl⟩
  · rw [List.length_singleton]
    have := H.len
    omega
theorem getD_app_l (l : List Int) (y : Int) (s : Nat) (h : s < l.length) : (l ++ [y]).getD s 0 = l.getD s 0 := by
  simp only [List.getD_eq_getElem?_getD, List.getElem?_append_left h]
theorem getD_app_r (l : List Int) (y : Int) : (l ++ [y]).getD l.length 0 = y := by simp
theorem TIn.tell {N : Nat} {T : Nat → Nat → Bool} {bel : Nat → Bool} {i : Nat} {sb : List Bool} {out : Int} {ls : List Int} {q x X : Nat} (H : TIn N T bel i sb out ls q x) (hq : q < ls.length) (hx : x < N) (h : sb.getD x false = false) (hb : bel x = true) (hX : ls.getD q 0 = X) (hT : T X x = true) :
    TIn N T bel i (sb.set x true) out (ls ++ [(x : Int)]) q (x + 1) := by
  have hc := count_setB sb x (by rw [H.len]; exact hx) h
  have hset : ∀ k, (sb.set x true).getD k false = if k = x then true else sb.getD k false := fun k => getD_setB _ _ _ _ (by rw [H.len]; exact hx)
  have up : ∀ k, sb.getD k false = true → (sb.set x true).getD k false = true := fun k hk => by rw [hset]; split; rfl; exact hk
  refine ⟨by rw [List.length_set]; exact H.len, fun y hy => ?_, H.cnt, fun s hs => ?_, ?_, ⟨by rw [List.length_append]; omega, ?_⟩, H.bi, H.iN, fun s hs Y hY k hk hbk hTk => ?_, fun Y hY k hk hkN hbk hTk => ?_⟩
  · rw [hset]
    by_cases e : y = x
    · subst e
      rw [if_pos rfl]
      exact ⟨fun _ => .inr ⟨ls.length, by simp, getD_app_r _ _⟩, fun _ => rfl⟩
    · rw [if_neg e, H.sn y hy]
      refine or_congr Iff.rfl ⟨fun ⟨s, h1, h2⟩ => ⟨s, by rw [List.length_append]; omega, by rw [getD_app_l _ _ _ h1]; exact h2⟩, fun ⟨s, h1, h2⟩ => ?_⟩
      rw [List.length_append, List.length_singleton] at h1
      by_cases e2 : s = ls.length
      · subst e2
        rw [getD_app_r] at h2
        exact absurd (by omega : y = x) e
      · exact ⟨s, by omega, by rw [getD_app_l _ _ _ (by omega)] at h2; exact h2⟩
  · rw [List.length_append, List.length_singleton] at hs
    by_cases e2 : s = ls.length
    · subst e2
      obtain ⟨Z, z1, _, _, z4⟩ := H.mem q hq
      obtain rfl : Z = X := by rw [hX] at z1; omega
      exact ⟨x, getD_app_r _ _, hx, hb, .step z4 hx hb hT⟩
    · rw [getD_app_l _ _ _ (by omega)]
      exact H.mem s (by omega)
  · rw [List.length_append, List.length_singleton]
    have := H.room
    omega
  · rw [getD_app_l _ _ _ H.first.1]; exact H.first.2
  · rw [getD_app_l _ _ _ (by omega)] at hY
    exact up k (H.done s hs Y hY k hk hbk hTk)
  · rw [getD_app_l _ _ _ hq] at hY
    by_cases e : k = x
    · rw [hset, if_pos e]
    · exact up k (H.here Y hY k (by omega) hkN hbk hTk)
theorem TIn.pass {N : Nat} {T : Nat → Nat → Bool} {bel : Nat → Bool} {i : Nat} {sb : List Bool} {out : Int} {ls : List Int} {q x X : Nat} (H : TIn N T bel i sb out ls q x) (hX : ls.getD q 0 = X) (h : sb.getD x false = true ∨ bel x = false ∨ T X x = false) :
    TIn N T bel i sb out ls q (x + 1) := by
  refine ⟨H.len, H.sn, H.cnt, H.mem, H.room, H.first, H.bi, H.iN, H.done, fun Y hY k hk hkN hbk hTk => ?_⟩
  by_cases e : k = x
  · subst e
    obtain rfl : Y = X := by rw [hX] at hY; omega
    rcases h with h | h | h
    · exact h
    · rw [h] at hbk; cases hbk
    · rw [h] at hTk; cases hTk
  · exact H.here Y hY k (by omega) hkN hbk hTk
theorem TIn.next {N : Nat} {T : Nat → Nat → Bool} {bel : Nat → Bool} {i : Nat} {sb : List Bool} {out : Int} {ls : List Int} {q : Nat} (H : TIn N T bel i sb out ls q N) : TIn N T bel i sb out ls (q + 1) 0 := by
  refine ⟨H.len, H.sn, H.cnt, H.mem, H.room, H.first, H.bi, H.iN, fun s hs X hX k hk hbk hTk => ?_, fun X _ k hk => absurd hk (Nat.not_lt_zero _)⟩
  by_cases e : s = q
  · subst e; exact H.here X hX k hk hk hbk hTk
  · exact H.done s (by omega) X hX k hk hbk hTk
theorem TIn.finish {N : Nat} {T : Nat → Nat → Bool} {bel : Nat → Bool} {i : Nat} {sb : List Bool} {out : Int} {ls : List Int} (H : TIn N T bel i sb out ls ls.length 0) : TOut N T bel (i + 1) sb out := by
  have key : ∀ x, RT N T bel i x → x < N ∧ sb.getD x false = true := fun x hx => by
    induction hx with
    | refl => exact ⟨H.iN, (H.sn i H.iN).2 (.inr ⟨0, H.first.1, H.first.2⟩)⟩
    | @step j k hj hk hb hT ih =>
      refine ⟨hk, ?_⟩
      rcases (H.sn j ih.1).1 ih.2 with h | ⟨s, h1, h2⟩
      · exact (H.sn k hk).2 (.inl (h.go (.step .refl hk hb hT)))
      · exact H.done s h1 j h2 k hk hb hT
  refine ⟨H.len, fun x hx => ⟨fun h => ?_, fun ⟨c, h1, h2, h3⟩ => ?_⟩, H.cnt⟩
  · rcases (H.sn x hx).1 h with h | ⟨s, h1, h2⟩
    · exact h.succ
    · obtain ⟨X, x1, _, _, x4⟩ := H.mem s h1
      obtain rfl : X = x := by rw [h2] at x1; omega
      exact ⟨i, by omega, H.bi, x4⟩
  · by_cases e : c = i
    · subst e; exact (key x h3).2
    · exact (H.sn x hx).2 (.inl ⟨c, by omega, h2, h3⟩)
theorem TIn.lslen {N : Nat} {T : Nat → Nat → Bool} {bel : Nat → Bool} {i : Nat} {sb : List Bool} {out : Int} {ls : List Int} {q t : Nat} (H : TIn N T bel i sb out ls q t) : ls.length ≤ N := by have := H.room; omega
end Go.Proofs.YtaeenedjmakelaaDoor
