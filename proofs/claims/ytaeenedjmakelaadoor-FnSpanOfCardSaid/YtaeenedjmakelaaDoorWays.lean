/- The least height of a way between two cells, as lists: it is as from both sides, and no more than over a third. -/
import Derived.Test.YtaeenedjmakelaaDoorFloodO
import Derived.Test.YtaeenedjmakelaaDoorShapes2
namespace Go.Proofs.YtaeenedjmakelaaDoor
open Go.RowKit

theorem Reach.mono {n m i j : Nat} {J K : Nat → Nat → Bool} (h : Reach n m J i j) (hJ : ∀ a b, J a b = true → K a b = true) : Reach n m K i j := by
  induction h with
  | refl => exact .refl
  | step _ hk he ih => exact .step ih hk (hJ _ _ he)

/-- A way from i to k over cells no higher than L. -/
def Way (n m : Nat) (p : List Int) (L : Int) (i k : Nat) : Prop := p.getD i 0 ≤ L ∧ Reach n m (joinH p L) i k
theorem Way.last {n m i k : Nat} {p : List Int} {L : Int} (h : Way n m p L i k) : p.getD k 0 ≤ L := by
  obtain ⟨h1, h2⟩ := h
  cases h2 with
  | refl => exact h1
  | step _ _ he => exact (joinH_iff.1 he).2
theorem Way.symm {n m i k : Nat} {p : List Int} {L : Int} (hn : n ≤ 5) (hm : m ≤ 5) (hi : i < n * m) (h : Way n m p L i k) : Way n m p L k i :=
  ⟨h.last, h.2.symm (joinH_symm p L) hn hm hi⟩
theorem Way.trans {n m i j k : Nat} {p : List Int} {L : Int} (h : Way n m p L i j) (g : Way n m p L j k) : Way n m p L i k := ⟨h.1, h.2.trans g.2⟩
theorem Way.up {n m i k : Nat} {p : List Int} {L M : Int} (h : Way n m p L i k) (hl : L ≤ M) : Way n m p M i k :=
  ⟨Int.le_trans h.1 hl, h.2.mono fun a b he => by rw [joinH_iff] at he ⊢; omega⟩

def oneO (k : Nat) : Nat → Bool := fun x => decide (x = k)
theorem oneO_iff {k x : Nat} : oneO k x = true ↔ x = k := by simp [oneO]
theorem EscO.way {n m i k : Nat} {p : List Int} {L : Int} (h : EscO n m (oneO k) p L i) : Way n m p L i k := by
  induction h with
  | edge h1 h2 h3 => rw [oneO_iff] at h2; subst h2; exact ⟨h3, .refl⟩
  | step h1 h2 h3 h4 ih => exact ⟨h3, (Reach.step .refl h2 (joinH_iff.2 ⟨h3, h4.base⟩)).trans ih.2⟩
theorem Way.escO {n m i k : Nat} {p : List Int} {L : Int} (hn : n ≤ 5) (hm : m ≤ 5) (hi : i < n * m) (h : Way n m p L i k) : EscO n m (oneO k) p L i := by
  have hk := h.2.lt hn hm hi
  have key : ∀ {a b : Nat}, Reach n m (joinH p L) a b → a < n * m → p.getD a 0 ≤ L → p.getD b 0 ≤ L ∧ (EscO n m (oneO k) p L b → EscO n m (oneO k) p L a) := fun {a b} h ha hpa => by
    induction h with
    | refl => exact ⟨hpa, id⟩
    | step hj hk2 hb ih =>
      have hjN := hj.lt hn hm ha
      exact ⟨(joinH_iff.1 hb).2, fun h => ih.2 (.step hjN hk2 ih.1 h)⟩
  have h2 := key h.2 hi h.1
  exact h2.2 (.edge hk (oneO_iff.2 rfl) h2.1)

theorem levelO_exists {O : Nat → Bool} {n m I : Nat} {p : List Int} (hn : n ≤ 5) (hm : m ≤ 5) (hI : I < n * m) (hO : O I = true) (hp : ∀ i, i < n * m → 0 ≤ p.getD i 0 ∧ p.getD i 0 ≤ 12) : ∃ w, LevelO n m O p w := by
  have hl : ∀ i, ∃ L : Nat, i < n * m → EscO n m O p (L : Int) i ∧ ∀ K : Nat, EscO n m O p (K : Int) i → L ≤ K := fun i => by
    by_cases hi : i < n * m
    · obtain ⟨L, h1, h2⟩ := least_of (fun L : Nat => EscO n m O p (L : Int) i) 12 (escO_top hn hm (fun j hj => (hp j hj).2) hI hO i hi)
      exact ⟨L, fun _ => ⟨h1, h2⟩⟩
    · exact ⟨0, fun h => absurd h hi⟩
  obtain ⟨F, eF⟩ : ∃ F : Nat → Nat, ∀ i, i < n * m → EscO n m O p (F i : Int) i ∧ ∀ K : Nat, EscO n m O p (K : Int) i → F i ≤ K := ⟨fun i => Classical.choose (hl i), fun i => Classical.choose_spec (hl i)⟩
  have e : ∀ i, i < n * m → ((List.range (n * m)).map fun i => (F i : Int)).getD i 0 = F i := fun i hi => by simp [hi]
  have key : ∀ i L, i < n * m → EscO n m O p L i → (F i : Int) ≤ L := fun i L hi h => by
    have h0 := Int.le_trans (hp i hi).1 h.base
    obtain ⟨K, rfl⟩ := Int.eq_ofNat_of_zero_le h0
    have := (eF i hi).2 K h
    omega
  refine ⟨(List.range (n * m)).map fun i => (F i : Int), by simp, fun i hi he => ?_, fun i hi k hk => ?_, fun i hi => ?_⟩
  · rw [e i hi]
    exact key i _ hi (.edge hi he (Int.le_refl _))
  · have hkN := around_lt hn hm hi hk
    rw [e i hi, e k hkN]
    exact key i _ hi (.step hi hk (by omega) ((eF k hkN).1.up (by omega)))
  · rw [e i hi]
    exact (eF i hi).1

/-- The least height of a way from i to k. -/
noncomputable def passN (n m : Nat) (p : List Int) (i k : Nat) : Int := (pickL (LevelO n m (oneO i) p)).getD k 0
section
variable {n m : Nat} {p : List Int} (hn : n ≤ 5) (hm : m ≤ 5) (hp : ∀ i, i < n * m → 0 ≤ p.getD i 0 ∧ p.getD i 0 ≤ 12)
include hn hm hp
theorem passN_level {i : Nat} (hi : i < n * m) : LevelO n m (oneO i) p (pickL (LevelO n m (oneO i) p)) := pickL_ok (levelO_exists hn hm hi (oneO_iff.2 rfl) hp)
theorem passN_of {i : Nat} (hi : i < n * m) {ws : List Int} (W : LevelO n m (oneO i) p ws) (k : Nat) : ws.getD k 0 = passN n m p i k := by
  unfold passN
  rw [(passN_level hn hm hp hi).uniq W]
theorem passN_way {i k : Nat} (hi : i < n * m) (hk : k < n * m) : Way n m p (passN n m p i k) i k :=
  (((passN_level hn hm hp hi).esc k hk).way).symm hn hm hk
theorem passN_le {i k : Nat} {L : Int} (hi : i < n * m) (h : Way n m p L i k) : passN n m p i k ≤ L :=
  (passN_level hn hm hp hi).le ((h.symm hn hm hi).escO hn hm (h.2.lt hn hm hi))
theorem passN_symm {i k : Nat} (hi : i < n * m) (hk : k < n * m) : passN n m p i k = passN n m p k i := by
  have h1 := passN_le hn hm hp hi ((passN_way hn hm hp hk hi).symm hn hm hk)
  have h2 := passN_le hn hm hp hk ((passN_way hn hm hp hi hk).symm hn hm hi)
  omega
theorem passN_ge {i k : Nat} (hi : i < n * m) (hk : k < n * m) : p.getD i 0 ≤ passN n m p i k ∧ p.getD k 0 ≤ passN n m p i k :=
  ⟨(passN_way hn hm hp hi hk).1, (passN_way hn hm hp hi hk).last⟩
theorem passN_self {i : Nat} (hi : i < n * m) : passN n m p i i = p.getD i 0 := by
  have h1 := passN_le hn hm hp hi (⟨Int.le_refl _, .refl⟩ : Way n m p (p.getD i 0) i i)
  have h2 := (passN_ge hn hm hp hi hi).1
  omega
theorem passN_tri {i x k : Nat} (hi : i < n * m) (hx : x < n * m) (hk : k < n * m) : passN n m p i k ≤ max (passN n m p i x) (passN n m p x k) :=
  passN_le hn hm hp hi (((passN_way hn hm hp hi hx).up (by omega)).trans ((passN_way hn hm hp hx hk).up (by omega)))
theorem passN_top {i k : Nat} (hi : i < n * m) (hk : k < n * m) : 0 ≤ passN n m p i k ∧ passN n m p i k ≤ 12 := by
  have h1 := (passN_ge hn hm hp hi hk).1
  have h2 := (hp i hi).1
  have h3 := (passN_level hn hm hp hi).le (escO_top hn hm (L := 12) (fun j hj => (hp j hj).2) hi (oneO_iff.2 rfl) k hk)
  exact ⟨by omega, h3⟩
/-- The least level at which there is a way. -/
theorem passN_least {i k L : Nat} (hi : i < n * m) (hk : k < n * m) (h1 : Way n m p (L : Int) i k) (h2 : ∀ K : Nat, K < L → ¬ Way n m p (K : Int) i k) : passN n m p i k = L := by
  have h3 := passN_le hn hm hp hi h1
  obtain ⟨K, eK⟩ := Int.eq_ofNat_of_zero_le (passN_top hn hm hp hi hk).1
  rw [eK] at h3 ⊢
  by_cases h5 : K < L
  · have := passN_way hn hm hp hi hk
    rw [eK] at this
    exact absurd this (h2 K h5)
  · have : K = L := by omega
    rw [this]
/-- Over the pass to the nearest cell at the edge water spills. -/
theorem spill_pass {i : Nat} {ws : List Int} (W : Level n m p ws) (hi : i < n * m) : (∀ k, k < n * m → edgeL n m k = true → ws.getD i 0 ≤ passN n m p i k) ∧ ∃ k, k < n * m ∧ edgeL n m k = true ∧ passN n m p i k = ws.getD i 0 := by
  have h1 : ∀ {L : Int} {i : Nat}, Esc n m p L i → ∃ k, k < n * m ∧ edgeL n m k = true ∧ Way n m p L i k := fun {L i} h => by
    induction h with
    | edge h1 h2 h3 => exact ⟨_, h1, h2, h3, .refl⟩
    | step h1 h2 h3 h4 ih =>
      obtain ⟨k, hk, he, hw⟩ := ih
      exact ⟨k, hk, he, h3, (Reach.step .refl h2 (joinH_iff.2 ⟨h3, h4.base⟩)).trans hw.2⟩
  have h2 : ∀ {L : Int} {i k : Nat}, i < n * m → Reach n m (joinH p L) i k → p.getD i 0 ≤ L → edgeL n m k = true → Esc n m p L i := fun {L i k} hi h hp he => by
    have key : ∀ {a b : Nat}, Reach n m (joinH p L) a b → a < n * m → p.getD a 0 ≤ L → p.getD b 0 ≤ L ∧ (Esc n m p L b → Esc n m p L a) := fun {a b} h ha hpa => by
      induction h with
      | refl => exact ⟨hpa, id⟩
      | step hj hk2 hb ih =>
        have hjN := hj.lt hn hm ha
        exact ⟨(joinH_iff.1 hb).2, fun h => ih.2 (.step hjN hk2 ih.1 h)⟩
    have hk := h.lt hn hm hi
    have h2 := key h hi hp
    exact h2.2 (.edge hk he h2.1)
  have key : ∀ k, k < n * m → edgeL n m k = true → ws.getD i 0 ≤ passN n m p i k := fun k hk he => by
    have hw := passN_way hn hm hp hi hk
    exact W.le (h2 hi hw.2 hw.1 he)
  obtain ⟨k, hk, he, hw⟩ := h1 (W.esc i hi)
  have := passN_le hn hm hp hi hw
  have := key k hk he
  exact ⟨key, k, hk, he, by omega⟩
end

/-- PassBetween. -/
noncomputable def passL (h : List (List Int)) (i k : Int) : Int := if vCell h i && vCell h k then passN h.length (h.getD 0 []).length h.flatten i.toNat k.toNat else -1
theorem passL_no {h : List (List Int)} {i k : Int} (hc : (vCell h i && vCell h k) = false) : passL h i k = -1 := by unfold passL; rw [hc]; rfl
theorem passL_yes {h : List (List Int)} {i k n m : Nat} (_hg : vGrid h = true) (en : h.length = n) (em : (h.getD 0 []).length = m) (hi : vCell h i = true) (hk : vCell h k = true) : passL h i k = passN n m h.flatten i k := by
  unfold passL
  rw [hi, hk, en, em, Int.toNat_natCast, Int.toNat_natCast]
  rfl

/-- A search from i over cells no higher than top, till its end: what is seen, what waits; the first q are done. -/
structure SearchR (n m : Nat) (p : List Int) (top : Int) (i : Nat) (sb : List Bool) (ls : List Int) (q : Nat) : Prop where
  len : sb.length = n * m
  mem : ∀ s, s < ls.length → ∃ X : Nat, ls.getD s 0 = X ∧ X < n * m ∧ sb.getD X false = true ∧ Way n m p top i X
  all : ∀ x, x < n * m → sb.getD x false = true → ∃ s, s < ls.length ∧ ls.getD s 0 = (x : Int)
  start : sb.getD i false = true
  done : ∀ s, s < q → s < ls.length → ∀ X : Nat, ls.getD s 0 = X → ∀ k : Nat, (k : Int) ∈ aroundL n m X → p.getD k 0 ≤ top → sb.getD k false = true
  room : ls.length + sb.count false ≤ n * m
theorem searchR_start {n m i : Nat} {p : List Int} {top : Int} (hi : i < n * m) (hp : p.getD i 0 ≤ top) : SearchR n m p top i ((List.replicate (n * m) false).set i true) [(i : Int)] 0 := by
  have S := search_start hi hp
  refine ⟨S.len, fun s hs => ?_, S.all, S.start, fun s hs => absurd hs (Nat.not_lt_zero _), S.room⟩
  obtain ⟨X, h1, h2, h3, _⟩ := S.mem s hs
  have : s = 0 := by simp at hs; omega
  subst this
  have : X = i := by simp at h1; omega
  subst this
  exact ⟨X, h1, h2, h3, hp, .refl⟩
theorem SearchR.tell {n m i q t k X : Nat} {p : List Int} {top : Int} {sb : List Bool} {ls : List Int} (hn : n ≤ 5) (hm : m ≤ 5) (S : SearchR n m p top i sb ls q) (hq : q < ls.length) (hX : ls.getD q 0 = X) (D : Seen n m p top sb X t)
    (ht : t < (aroundL n m X).length) (hk : (aroundL n m X).getD t 0 = k) (hs : sb.getD k false = false) (hp : p.getD k 0 ≤ top) :
    SearchR n m p top i (sb.set k true) (ls ++ [(k : Int)]) q ∧ (ls ++ [(k : Int)]).getD q 0 = X ∧ Seen n m p top (sb.set k true) X (t + 1) := by
  obtain ⟨Y, hY, hXN, hX2, hX3⟩ := S.mem q hq
  have : Y = X := by omega
  subst this
  have hmem : (k : Int) ∈ aroundL n m Y := by
    rw [← hk, List.getD_eq_getElem?_getD, List.getElem?_eq_getElem ht]
    exact List.getElem_mem ht
  have hkN := around_lt hn hm hXN hmem
  have hl := S.len
  have g : ∀ x, (sb.set k true).getD x false = if x = k then true else sb.getD x false := fun x => getD_setB sb k x true (by omega)
  refine ⟨⟨by simp [hl], fun s hs2 => ?_, fun x hx h => ?_, ?_, fun s hs2 hs3 Z hZ => ?_, ?_⟩, by rw [getD_append_l _ _ _ _ hq]; exact hX, fun s j h1 h2 h3 h4 => ?_⟩
  · by_cases e : s = ls.length
    · subst e
      exact ⟨k, getD_append_r _ _ _, hkN, by rw [g, if_pos rfl], hX3.1, .step hX3.2 hmem (joinH_iff.2 ⟨hX3.last, hp⟩)⟩
    · have hs' : s < ls.length := by simp at hs2; omega
      obtain ⟨Z, h1, h2, h3, h4⟩ := S.mem s hs'
      refine ⟨Z, by rw [getD_append_l _ _ _ _ hs', h1], h2, ?_, h4⟩
      rw [g]; split
      · rfl
      · exact h3
  · rw [g] at h
    by_cases e : x = k
    · subst e; exact ⟨ls.length, by simp, getD_append_r _ _ _⟩
    · rw [if_neg e] at h
      obtain ⟨s, h1, h2⟩ := S.all x hx h
      exact ⟨s, by simp; omega, by rw [getD_append_l _ _ _ _ h1, h2]⟩
  · rw [g]; split
    · rfl
    · exact S.start
  · have hs' : s < ls.length := by
      rcases Nat.lt_or_ge s ls.length with h | h
      · exact h
      · omega
    rw [getD_append_l _ _ _ _ hs'] at hZ
    intro j hj hpj
    rw [g]; split
    · rfl
    · exact S.done s hs2 hs' Z hZ j hj hpj
  · have := count_setB sb k (by omega) hs
    have := S.room
    simp only [List.length_append, List.length_singleton]
    omega
  · rw [g]
    by_cases e : j = k
    · rw [if_pos e]
    · rw [if_neg e]
      by_cases e2 : s = t
      · subst e2; omega
      · exact D s j (by omega) h2 h3 h4
theorem SearchR.next {n m i q X : Nat} {p : List Int} {top : Int} {sb : List Bool} {ls : List Int} (S : SearchR n m p top i sb ls q) (hX : ls.getD q 0 = X) (D : Seen n m p top sb X (aroundL n m X).length) : SearchR n m p top i sb ls (q + 1) :=
  ⟨S.len, S.mem, S.all, S.start, fun s hs hs2 Z hZ => by
    by_cases e : s = q
    · subst e
      have : Z = X := by omega
      subst this
      intro k hk hp
      obtain ⟨t, h1, h2⟩ := List.getElem_of_mem hk
      exact D t k h1 h1 (by simp [h1, h2]) hp
    · exact S.done s (by omega) hs2 Z hZ, S.room⟩
theorem SearchR.way {n m i k : Nat} {p : List Int} {top : Int} {sb : List Bool} {ls : List Int} (hn : n ≤ 5) (hm : m ≤ 5) (hi : i < n * m) (S : SearchR n m p top i sb ls ls.length) (hk : k < n * m) : sb.getD k false = true ↔ Way n m p top i k := by
  constructor
  · intro h
    obtain ⟨s, hs, e⟩ := S.all k hk h
    obtain ⟨X, h1, _, _, h4⟩ := S.mem s hs
    have : X = k := by omega
    subst this
    exact h4
  · rintro ⟨_, h⟩
    clear hk
    induction h with
    | refl => exact S.start
    | step h1 h2 h3 ih =>
      obtain ⟨s, hs, e⟩ := S.all _ (h1.lt hn hm hi) ih
      exact S.done s hs hs _ e _ h2 (joinH_iff.1 h3).2
end Go.Proofs.YtaeenedjmakelaaDoor
