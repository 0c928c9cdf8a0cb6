/- What the rises in pits are like: one pit keeps for ever, the others rise; passes between pits are over what they keep. -/
import Derived.Test.YthlanmnjkonbjaaDoorKeepM
import Derived.Test.YthlanmnjkonbjaaDoorLawPitsOf
namespace Go.Proofs.YthlanmnjkonbjaaDoor
open Go.RowKit

theorem ahead_total {p : List Int} {x y : Nat} (h : x ≠ y) : ahead p x y = true ∨ ahead p y x = true := by
  rw [ahead_iff, ahead_iff]
  omega
theorem ahead_asym {p : List Int} {x y : Nat} (h : ahead p x y = true) : ahead p y x = false := by
  refine Bool.eq_false_iff.2 fun h2 => ?_
  rw [ahead_iff] at h h2
  omega
theorem ahead_irrefl {p : List Int} {x : Nat} : ahead p x x = false := by
  refine Bool.eq_false_iff.2 fun h => ?_
  rw [ahead_iff] at h
  omega
/-- There is one cell to which water comes first. -/
theorem first_exists (p : List Int) : ∀ N, 0 < N → ∃ r, r < N ∧ ∀ x, x < N → ahead p x r = false
  | 0, h => absurd h (Nat.lt_irrefl _)
  | 1, _ => ⟨0, by omega, fun x hx => by
    have : x = 0 := by omega
    subst this; exact ahead_irrefl⟩
  | N + 2, _ => by
    obtain ⟨r, h1, h2⟩ := first_exists p (N + 1) (by omega)
    cases ha : ahead p (N + 1) r with
    | false =>
      refine ⟨r, by omega, fun x hx => ?_⟩
      by_cases e : x = N + 1
      · subst e; exact ha
      · exact h2 x (by omega)
    | true =>
      refine ⟨N + 1, by omega, fun x hx => ?_⟩
      by_cases e : x = N + 1
      · subst e; exact ahead_irrefl
      · refine Bool.eq_false_iff.2 fun h => ?_
        have := h2 x (by omega)
        rw [Bool.eq_false_iff, ne_eq, ahead_iff] at this
        rw [ahead_iff] at h ha
        omega
theorem keptL_nodup (fs : List Int) (bs : List Bool) : ∀ k, (keptL fs bs k).Pairwise (fun a b => a < b)
  | 0 => List.Pairwise.nil
  | k + 1 => by
    have ih := keptL_nodup fs bs k
    by_cases h1 : fs.getD k 0 = k
    · cases h2 : bs.getD k false with
      | false =>
        rw [keptL_yes h1 h2, List.pairwise_append]
        refine ⟨ih, List.pairwise_singleton _ _, fun a ha b hb => ?_⟩
        obtain ⟨i, h3, h4, _⟩ := mem_keptL.1 ha
        rw [List.mem_singleton] at hb
        omega
      | true => rw [keptL_no (.inr h2)]; exact ih
    · rw [keptL_no (.inl h1)]; exact ih
theorem count_only {q : Int → Bool} {r : Int} : ∀ {l : List Int}, l.Pairwise (fun a b => a < b) → r ∈ l → (∀ x, x ∈ l → (q x = true ↔ x = r)) → (l.filter q).length = 1
  | [], _, h, _ => by cases h
  | a :: l, hl, h, hq => by
    have hp := List.pairwise_cons.1 hl
    have none : r ∉ l → (l.filter q).length = 0 := fun hr => by
      rw [List.length_eq_zero_iff, List.filter_eq_nil_iff]
      intro x hx h2
      exact hr (by rw [← (hq x (List.mem_cons_of_mem _ hx)).1 h2]; exact hx)
    by_cases e : a = r
    · subst e
      rw [List.filter_cons, if_pos ((hq a (List.mem_cons_self ..)).2 rfl), List.length_cons, none fun h2 => by have := hp.1 a h2; omega]
    · rw [List.filter_cons, if_neg (fun h2 => e ((hq a (List.mem_cons_self ..)).1 h2))]
      exact count_only hp.2 ((List.mem_cons.1 h).resolve_left fun e2 => e e2.symm) fun x hx => hq x (List.mem_cons_of_mem _ hx)

/-- What the pits of a grid are like, and what they keep. -/
structure PitF (n m N : Nat) (p P : List Int) : Prop where
  mem : ∀ k, k < P.length → ∃ i : Nat, P.getD k 0 = i ∧ i < N ∧ (keepN n m p i = -1 ∧ (∀ x, x < N → p.getD i 0 ≤ p.getD x 0) ∨ 0 < keepN n m p i)
  asc : ∀ a b, a < b → b < P.length → P.getD a 0 < P.getD b 0
  one : (P.filter fun y => decide (keepN n m p y.toNat = -1)).length = 1
  over : ∀ i x : Nat, i < N → x < N → ahead p x i = true → 0 ≤ keepN n m p i ∧ keepN n m p i ≤ passN n m p i x - p.getD i 0
theorem pit_facts {h : List (List Int)} {n m N : Nat} {p : List Int} (hg : vGrid h = true) (en : h.length = n) (em : (h.getD 0 []).length = m) (eN : n * m = N) (ep : h.flatten = p) : PitF n m N p (pitsL h) := by
  have G := Grid.of hg
  obtain ⟨bs, F, B, e⟩ := endsL_some (ov := ovDown) hg en em ep eN (beat_exists n m N p _ ovDown eN)
  obtain ⟨fs, efs⟩ : ∃ fs, flatsL n m (sameH p) = fs := ⟨_, rfl⟩
  rw [efs] at F B e
  have eP : pitsL h = keptL fs bs N := e
  rw [eP]
  have hn := G.n5
  have hm := G.m5
  have hN1 := Nat.mul_pos G.n1 G.m1
  rw [en] at hn hN1
  rw [em] at hm hN1
  rw [eN] at hN1
  have hp : ∀ i, i < n * m → 0 ≤ p.getD i 0 ∧ p.getD i 0 ≤ 12 := fun i hi => by rw [← ep]; exact grid_num G i (by rw [en, em]; exact hi)
  have hok : ∀ i, i < N → _ := fun i (hi : i < N) => bestU_ok hn hm hp (i := i) (by omega) (n * m) (Nat.le_refl _)
  have hmemk : ∀ k, k < (keptL fs bs N).length → (keptL fs bs N).getD k 0 ∈ keptL fs bs N := fun k hk => by
    rw [List.getD_eq_getElem?_getD, List.getElem?_eq_getElem hk]; exact List.getElem_mem hk
  -- the flat of a pit that is reached over cells no higher
  have stay : ∀ i, i < N → fs.getD i 0 = i → bs.getD i false = false → ∀ x, Way n m p (p.getD i 0) i x → fs.getD x 0 = i ∧ p.getD x 0 = p.getD i 0 := fun i hi h1 h2 x hw => by
    have hr := hw.2
    clear hw
    induction hr with
    | refl => exact ⟨h1, rfl⟩
    | @step j k hj hk he ih =>
      have hjN := hj.lt hn hm (by omega)
      rw [joinH_iff] at he
      have hkp : p.getD k 0 = p.getD j 0 := by
        by_cases hlt : p.getD k 0 < p.getD j 0
        · exfalso
          obtain ⟨s, hs1, hs2⟩ := List.getElem_of_mem hk
          have : bs.getD i false = true := (B.iff i (by omega)).2 ⟨j, s, k, .inl (by omega), hjN, hs1, by simp [hs1, hs2], by simpa [ovDown] using hlt, ih.1⟩
          rw [h2] at this; cases this
        · omega
      exact ⟨by rw [F.same j hjN k hk (sameH_iff.2 hkp.symm), ih.1], by rw [hkp, ih.2]⟩
  have over : ∀ i x : Nat, i < N → x < N → ahead p x i = true → 0 ≤ keepN n m p i ∧ keepN n m p i ≤ passN n m p i x - p.getD i 0 := fun i x hi hx ha => by
    rcases hok i hi with ⟨_, h2⟩ | ⟨_, h0, h3⟩
    · rw [h2 x (by omega)] at ha; cases ha
    · exact ⟨h0, h3 x (by omega) ha⟩
  refine ⟨fun k hk => ?_, fun a b hab hb => ?_, ?_, over⟩
  · obtain ⟨i, h1, h2, h3, h4⟩ := mem_keptL.1 (hmemk k hk)
    refine ⟨i, h1, h2, ?_⟩
    rcases hok i h2 with ⟨h5, h6⟩ | ⟨⟨x, h5, h6, h7⟩, h0, _⟩
    · refine .inl ⟨h5, fun x hx => ?_⟩
      have := h6 x (by omega)
      rw [Bool.eq_false_iff, ne_eq, ahead_iff] at this
      omega
    · refine .inr ?_
      have hge := (passN_ge hn hm hp (i := i) (k := x) (by omega) h5).1
      show 0 < bestU n m p i (n * m)
      by_cases e : passN n m p i x = p.getD i 0
      · exfalso
        have hw := passN_way hn hm hp (i := i) (k := x) (by omega) h5
        rw [e] at hw
        obtain ⟨h8, h9⟩ := stay i h2 h3 h4 x hw
        rw [ahead_iff] at h6
        obtain ⟨j, h10, h11, _⟩ := F.ok x h5
        omega
      · omega
  · have := List.pairwise_iff_getElem.1 (keptL_nodup fs bs N) a b (by omega) hb hab
    simpa [hb, show a < (keptL fs bs N).length by omega] using this
  · obtain ⟨r, hr1, hr2⟩ := first_exists p N hN1
    have hlow : ∀ x, x < N → p.getD r 0 ≤ p.getD x 0 := fun x hx => by
      have := hr2 x hx
      rw [Bool.eq_false_iff, ne_eq, ahead_iff] at this
      omega
    have hk := lowest_kept hn hm eN F B hr1 hlow
    have hfr : fs.getD r 0 = r := by
      obtain ⟨j, h1, h2, h3⟩ := F.ok r (by omega)
      have h4 := h3.high
      have h5 := hr2 j (by omega)
      rw [Bool.eq_false_iff, ne_eq, ahead_iff] at h5
      omega
    rw [hfr] at hk
    refine count_only (r := (r : Int)) (keptL_nodup fs bs N) hk fun y hy => ?_
    obtain ⟨i, rfl, h2, _⟩ := mem_keptL.1 hy
    rw [decide_eq_true_eq, Int.toNat_natCast]
    constructor
    · intro h5
      by_cases e : i = r
      · rw [e]
      · exfalso
        rcases ahead_total (p := p) e with h6 | h6
        · rw [hr2 i h2] at h6; cases h6
        · have := (over i r h2 hr1 h6).1
          omega
    · intro e
      have : i = r := by omega
      subst this
      rcases hok i hr1 with ⟨h5, _⟩ | ⟨⟨x, h5, h6, _⟩, _⟩
      · exact h5
      · rw [hr2 x (by omega)] at h6; cases h6
end Go.Proofs.YthlanmnjkonbjaaDoor
