/- The least level of a way to the edge; rows cut out of a list. -/
import Derived.Test.YtaeenedjmakelaaDoorShapeF
import Derived.Test.YtaeenedjmakelaaDoorSink
import Derived.Test.YtaeenedjmakelaaDoorCells
/- The least height of a way to the edge: it is the height to which water stands; a search for it, as lists. -/
namespace Go.Proofs.YtaeenedjmakelaaDoor
open Go.RowKit

theorem level_exists {n m : Nat} {p : List Int} (hn : n ≤ 5) (hm : m ≤ 5) (hp : ∀ i, i < n * m → 0 ≤ p.getD i 0 ∧ p.getD i 0 ≤ 12) : ∃ w, Level n m p w := by
  have hl : ∀ i, ∃ L : Nat, i < n * m → Esc n m p (L : Int) i ∧ ∀ K : Nat, Esc n m p (K : Int) i → L ≤ K := fun i => by
    by_cases hi : i < n * m
    · obtain ⟨L, h1, h2⟩ := least_of (fun L : Nat => Esc n m p (L : Int) i) 12 (esc_top (fun j hj => (hp j hj).2) i hi)
      exact ⟨L, fun _ => ⟨h1, h2⟩⟩
    · exact ⟨0, fun h => absurd h hi⟩
  obtain ⟨F, eF⟩ : ∃ F : Nat → Nat, ∀ i, i < n * m → Esc n m p (F i : Int) i ∧ ∀ K : Nat, Esc n m p (K : Int) i → F i ≤ K := ⟨fun i => Classical.choose (hl i), fun i => Classical.choose_spec (hl i)⟩
  have e : ∀ i, i < n * m → ((List.range (n * m)).map fun i => (F i : Int)).getD i 0 = F i := fun i hi => by simp [hi]
  have key : ∀ i L, i < n * m → Esc n m p L i → (F i : Int) ≤ L := fun i L hi h => by
    have h0 := Int.le_trans (hp i hi).1 h.base
    obtain ⟨K, rfl⟩ := Int.eq_ofNat_of_zero_le h0
    have := (eF i hi).2 K h
    omega
  refine ⟨(List.range (n * m)).map fun i => (F i : Int), by simp, fun i hi he => ?_, fun i hi k hk => ?_, fun i hi => ?_⟩
  · rw [e i hi]
    exact key i _ hi (.edge hi he (Int.le_refl _))
  · have hkN := around_lt hn hm hi hk
    rw [e i hi, e k hkN]
    exact key i _ hi (.step hi hk (by omega) ((eF k hkN).1.up (by omega)))
  · rw [e i hi]
    exact (eF i hi).1
theorem levelL_ok {n m : Nat} {p : List Int} (hn : n ≤ 5) (hm : m ≤ 5) (hp : ∀ i, i < n * m → 0 ≤ p.getD i 0 ∧ p.getD i 0 ≤ 12) : Level n m p (levelL n m p) := pickL_ok (level_exists hn hm hp)
noncomputable def spillL (h : List (List Int)) (i : Int) : Int := if vCell h i then (levelL h.length (h.getD 0 []).length h.flatten).getD i.toNat 0 else -1

/-- Joined as both are no higher than L. -/
def joinH (p : List Int) (L : Int) (i k : Nat) : Bool := decide (p.getD i 0 ≤ L) && decide (p.getD k 0 ≤ L)
theorem joinH_iff {p : List Int} {L : Int} {i k : Nat} : joinH p L i k = true ↔ p.getD i 0 ≤ L ∧ p.getD k 0 ≤ L := by simp [joinH]
theorem joinH_symm (p : List Int) (L : Int) : Symm (joinH p L) := fun _ _ h => joinH_iff.2 (joinH_iff.1 h).symm
/-- A cell no higher than L is in a piece with one at the edge just if the edge is reached. -/
theorem esc_iff {n m i : Nat} {p fs : List Int} {L : Int} (hn : n ≤ 5) (hm : m ≤ 5) (F : Flats n m (joinH p L) fs) (hi : i < n * m) (hp : p.getD i 0 ≤ L) :
    Esc n m p L i ↔ ∃ k, k < n * m ∧ fs.getD k 0 = fs.getD i 0 ∧ edgeL n m k = true := by
  constructor
  · intro h
    induction h with
    | edge h1 h2 _ => exact ⟨_, h1, rfl, h2⟩
    | step h1 h2 h3 h4 ih =>
      obtain ⟨k, hk1, hk2, hk3⟩ := ih h4.lt h4.base
      exact ⟨k, hk1, by rw [hk2]; exact F.same _ h1 _ h2 (joinH_iff.2 ⟨h3, h4.base⟩), hk3⟩
  · rintro ⟨k, hk, e, he⟩
    have key : ∀ {a b : Nat}, Reach n m (joinH p L) a b → a < n * m → p.getD a 0 ≤ L → p.getD b 0 ≤ L ∧ (Esc n m p L b → Esc n m p L a) := fun {a b} h ha hpa => by
      induction h with
      | refl => exact ⟨hpa, id⟩
      | step hj hk2 hb ih =>
        have hjN := hj.lt hn hm ha
        exact ⟨(joinH_iff.1 hb).2, fun h => ih.2 (.step hjN hk2 ih.1 h)⟩
    obtain ⟨c, h1, _, h2⟩ := F.ok i hi
    obtain ⟨d, h3, _, h4⟩ := F.ok k hk
    have : d = c := by omega
    subst this
    have hki : Reach n m (joinH p L) i k := h2.trans (h4.symm (joinH_symm p L) hn hm hk)
    have := key hki hi hp
    exact this.2 (.edge hk he this.1)

/-- A search from i over cells no higher than top: what is seen, what waits; the first q are done. -/
structure Search (n m : Nat) (p : List Int) (top : Int) (i : Nat) (sb : List Bool) (ls : List Int) (q : Nat) : Prop where
  len : sb.length = n * m
  mem : ∀ s, s < ls.length → ∃ X : Nat, ls.getD s 0 = X ∧ X < n * m ∧ sb.getD X false = true ∧ p.getD X 0 ≤ top ∧ (Esc n m p top X → Esc n m p top i)
  all : ∀ x, x < n * m → sb.getD x false = true → ∃ s, s < ls.length ∧ ls.getD s 0 = (x : Int)
  start : sb.getD i false = true
  done : ∀ s, s < q → s < ls.length → ∀ X : Nat, ls.getD s 0 = X → edgeL n m X = false ∧ ∀ k : Nat, (k : Int) ∈ aroundL n m X → p.getD k 0 ≤ top → sb.getD k false = true
  room : ls.length + sb.count false ≤ n * m
/-- The first t of the cells beside the one at place q are done. -/
def Seen (n m : Nat) (p : List Int) (top : Int) (sb : List Bool) (X t : Nat) : Prop :=
  ∀ s k : Nat, s < t → s < (aroundL n m X).length → (aroundL n m X).getD s 0 = k → p.getD k 0 ≤ top → sb.getD k false = true
theorem seen_zero (n m : Nat) (p : List Int) (top : Int) (sb : List Bool) (X : Nat) : Seen n m p top sb X 0 := fun _ _ h => absurd h (Nat.not_lt_zero _)
theorem search_start {n m i : Nat} {p : List Int} {top : Int} (hi : i < n * m) (hp : p.getD i 0 ≤ top) : Search n m p top i ((List.replicate (n * m) false).set i true) [(i : Int)] 0 := by
  have g : ∀ x, ((List.replicate (n * m) false).set i true).getD x false = if x = i then true else (List.replicate (n * m) false).getD x false := fun x => getD_setB _ i x true (by simpa using hi)
  have e : ∀ x, (List.replicate (n * m) false).getD x false = false := fun x => by
    rcases Nat.lt_or_ge x (n * m) with h | h <;> simp [h]
  refine ⟨by simp, fun s hs => ?_, fun x hx h => ?_, by rw [g, if_pos rfl], fun s hs => absurd hs (Nat.not_lt_zero _), ?_⟩
  · have : s = 0 := by simp at hs; omega
    subst this
    exact ⟨i, rfl, hi, by rw [g, if_pos rfl], hp, id⟩
  · rw [g, e] at h
    by_cases ex : x = i
    · subst ex; exact ⟨0, by simp, rfl⟩
    · rw [if_neg ex] at h; cases h
  · have := count_setB (List.replicate (n * m) false) i (by simpa using hi) (e i)
    have h2 : (List.replicate (n * m) false).count false ≤ n * m := by
      have h3 := List.count_le_length (a := false) (l := List.replicate (n * m) false)
      rwa [List.length_replicate] at h3
    simp only [List.length_singleton]
    omega
theorem Search.tell {n m i q t k X : Nat} {p : List Int} {top : Int} {sb : List Bool} {ls : List Int} (hn : n ≤ 5) (hm : m ≤ 5) (S : Search n m p top i sb ls q) (hq : q < ls.length) (hX : ls.getD q 0 = X) (D : Seen n m p top sb X t)
    (ht : t < (aroundL n m X).length) (hk : (aroundL n m X).getD t 0 = k) (hs : sb.getD k false = false) (hp : p.getD k 0 ≤ top) :
    Search n m p top i (sb.set k true) (ls ++ [(k : Int)]) q ∧ (ls ++ [(k : Int)]).getD q 0 = X ∧ Seen n m p top (sb.set k true) X (t + 1) := by
  obtain ⟨Y, hY, hXN, hX2, hX3, hX4⟩ := S.mem q hq
  have : Y = X := by omega
  subst this
  have hmem : (k : Int) ∈ aroundL n m Y := by
    rw [← hk, List.getD_eq_getElem?_getD, List.getElem?_eq_getElem ht]
    exact List.getElem_mem ht
  have hkN := around_lt hn hm hXN hmem
  have hl := S.len
  have g : ∀ x, (sb.set k true).getD x false = if x = k then true else sb.getD x false := fun x => getD_setB sb k x true (by omega)
  refine ⟨⟨by simp [hl], fun s hs2 => ?_, fun x hx h => ?_, ?_, fun s hs2 hs3 Z hZ => ?_, ?_⟩, by rw [getD_append_l _ _ _ _ hq]; exact hX, fun s j h1 h2 h3 h4 => ?_⟩
  · by_cases e : s = ls.length
    · subst e
      exact ⟨k, getD_append_r _ _ _, hkN, by rw [g, if_pos rfl], hp, fun h => hX4 (.step hXN hmem hX3 h)⟩
    · have hs' : s < ls.length := by simp at hs2; omega
      obtain ⟨Z, h1, h2, h3, h4, h5⟩ := S.mem s hs'
      refine ⟨Z, by rw [getD_append_l _ _ _ _ hs', h1], h2, ?_, h4, h5⟩
      rw [g]; split
      · rfl
      · exact h3
  · rw [g] at h
    by_cases e : x = k
    · subst e; exact ⟨ls.length, by simp, getD_append_r _ _ _⟩
    · rw [if_neg e] at h
      obtain ⟨s, h1, h2⟩ := S.all x hx h
      exact ⟨s, by simp; omega, by rw [getD_append_l _ _ _ _ h1, h2]⟩
  · rw [g]; split
    · rfl
    · exact S.start
  · have hs' : s < ls.length := by omega
    rw [getD_append_l _ _ _ _ hs'] at hZ
    obtain ⟨h1, h2⟩ := S.done s hs2 hs' Z hZ
    refine ⟨h1, fun j hj hpj => ?_⟩
    rw [g]; split
    · rfl
    · exact h2 j hj hpj
  · have := count_setB sb k (by omega) hs
    have := S.room
    simp only [List.length_append, List.length_singleton]
    omega
  · rw [g]
    by_cases e : j = k
    · rw [if_pos e]
    · rw [if_neg e]
      by_cases e2 : s = t
      · subst e2; omega
      · exact D s j (by omega) h2 h3 h4
theorem Seen.skip {n m t k X : Nat} {p : List Int} {top : Int} {sb : List Bool} (D : Seen n m p top sb X t) (hk : (aroundL n m X).getD t 0 = k) (h : sb.getD k false = true ∨ ¬ p.getD k 0 ≤ top) : Seen n m p top sb X (t + 1) := fun s j h1 h2 h3 h4 => by
  by_cases e2 : s = t
  · subst e2
    have : j = k := by omega
    subst this
    rcases h with h | h
    · exact h
    · exact absurd h4 h
  · exact D s j (by omega) h2 h3 h4
theorem Search.next {n m i q X : Nat} {p : List Int} {top : Int} {sb : List Bool} {ls : List Int} (S : Search n m p top i sb ls q) (hX : ls.getD q 0 = X) (he : edgeL n m X = false) (D : Seen n m p top sb X (aroundL n m X).length) : Search n m p top i sb ls (q + 1) :=
  ⟨S.len, S.mem, S.all, S.start, fun s hs hs2 Z hZ => by
    by_cases e : s = q
    · subst e
      have : Z = X := by omega
      subst this
      refine ⟨he, fun k hk hp => ?_⟩
      obtain ⟨t, h1, h2⟩ := List.getElem_of_mem hk
      exact D t k h1 h1 (by simp [h1, h2]) hp
    · exact S.done s (by omega) hs2 Z hZ, S.room⟩
theorem Search.found {n m i q X : Nat} {p : List Int} {top : Int} {sb : List Bool} {ls : List Int} (S : Search n m p top i sb ls q) (hq : q < ls.length) (hX : ls.getD q 0 = X) (he : edgeL n m X = true) : Esc n m p top i := by
  obtain ⟨Y, hY, hXN, _, hX3, hX4⟩ := S.mem q hq
  have : Y = X := by omega
  subst this
  exact hX4 (.edge hXN he hX3)
theorem Search.none {n m i : Nat} {p : List Int} {top : Int} {sb : List Bool} {ls : List Int} (S : Search n m p top i sb ls ls.length) : ¬ Esc n m p top i := fun h => by
  have key : ∀ {x : Nat}, Esc n m p top x → sb.getD x false = true → False := fun {x} h => by
    induction h with
    | edge h1 h2 _ =>
      intro hs
      obtain ⟨s, hs1, hs2⟩ := S.all _ h1 hs
      have := (S.done s hs1 hs1 _ hs2).1
      rw [h2] at this; cases this
    | step h1 h2 _ h4 ih =>
      intro hs
      obtain ⟨s, hs1, hs2⟩ := S.all _ h1 hs
      exact ih ((S.done s hs1 hs1 _ hs2).2 _ h2 h4.base)
  exact key h S.start
end Go.Proofs.YtaeenedjmakelaaDoor

/- Rows cut out of a list, put in one list again; the water of a grid. -/
namespace Go.Proofs.YtaeenedjmakelaaDoor
open Go.RowKit

theorem shapeL_map (f : Int → Int) (xs : List Int) (m k : Nat) : (shapeL xs m k).map (fun row => row.map f) = shapeL (xs.map f) m k := by
  simp [shapeL, List.map_drop, List.map_take]
theorem grid_level {h : List (List Int)} (hg : vGrid h = true) : Level h.length (h.getD 0 []).length h.flatten (levelL h.length (h.getD 0 []).length h.flatten) := by
  have G := Grid.of hg
  exact levelL_ok G.n5 G.m5 (fun i hi => grid_num G i hi)
theorem ext_rows {A B : List (List Int)} (hl : A.length = B.length) (h : ∀ r, r < A.length → A.getD r [] = B.getD r []) : A = B := by
  apply List.ext_getElem hl
  intro r h1 h2
  have := h r h1
  have e1 : A.getD r [] = A[r] := by simp [h1]
  have e2 : B.getD r [] = B[r] := by simp [h2]
  rwa [e1, e2] at this
theorem shape_flatten {h : List (List Int)} {m : Nat} (g : Grid h m) : shapeL h.flatten m h.length = h := by
  refine ext_rows (shapeL_len _ _ _) fun r hr => ?_
  rw [shapeL_len] at hr
  rw [shapeL_at _ _ _ _ hr]
  have hlr := g.len r hr
  have hf := flat_grid_len g
  have hb : r * m + m ≤ h.flatten.length := by
    rw [hf, ← Nat.succ_mul]
    exact Nat.mul_le_mul_right m hr
  refine ext_getD (n := m) (cut_len _ _ _ hb) hlr fun c hc => ?_
  have hm := g.m1
  rw [cut_at _ _ _ _ hc, flat_at g (r * m + c) (by omega)]
  have e1 : (r * m + c) / m = r := by rw [Nat.mul_comm, Nat.mul_add_div hm, Nat.div_eq_of_lt hc, Nat.add_zero]
  have e2 : (r * m + c) % m = c := by rw [Nat.mul_comm, Nat.mul_add_mod, Nat.mod_eq_of_lt hc]
  rw [e1, e2]
theorem fill_grid {h : List (List Int)} (hg : vGrid h = true) : Grid (fillL h) (h.getD 0 []).length ∧ (fillL h).length = h.length ∧ (fillL h).flatten = levelL h.length (h.getD 0 []).length h.flatten := by
  have G := Grid.of hg
  have W := grid_level hg
  have hn5 := G.n5
  have hn1 := G.n1
  have e := fillL_yes hg rfl rfl W
  obtain ⟨m, em⟩ : ∃ m, (h.getD 0 []).length = m := ⟨_, rfl⟩
  obtain ⟨n, en⟩ : ∃ n, h.length = n := ⟨_, rfl⟩
  have hp := fun i => grid_num G i
  rw [em, en] at W e hp
  rw [em] at G ⊢
  rw [en] at hn5 hn1 ⊢
  obtain ⟨ws, ews⟩ : ∃ ws, levelL n m h.flatten = ws := ⟨_, rfl⟩
  rw [ews] at W e ⊢
  rw [e]
  refine ⟨⟨by rw [shapeL_len]; exact hn1, by rw [shapeL_len]; exact hn5, G.m1, G.m5, fun r hr => ?_, fun r hr c hc => ?_⟩, shapeL_len _ _ _, shapeL_flat _ _ _ W.len⟩
  · rw [shapeL_len] at hr
    exact shapeL_row _ _ _ _ W.len hr
  · rw [shapeL_len] at hr
    rw [shapeL_at _ _ _ _ hr, cut_at _ _ _ _ hc]
    have hb : r * m + c < n * m := by
      have := Nat.mul_le_mul_right m (show r + 1 ≤ n from hr)
      rw [Nat.succ_mul] at this
      omega
    have h1 := W.base hb
    have h2 := hp _ hb
    have h3 := W.le (esc_top (L := 12) (fun i hi => (hp i hi).2) _ hb)
    omega
end Go.Proofs.YtaeenedjmakelaaDoor
