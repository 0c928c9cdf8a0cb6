/- spec's paint as a function; of the text of a grid it makes the grid. -/
import Derived.Test.YtlfoimjohdaofaaDoorReadM
import Derived.Test.YtlfoimjohdaofaaDoorShaped
namespace Go.Proofs.YtlfoimjohdaofaaDoor
open Go.RowKit

/-- Heights as one list. -/
def flatF (n m : Nat) (f : Nat → Nat → Int) : List Int := (List.range (n * m)).map fun k => f (k / m) (k % m)
theorem flatF_len (n m : Nat) (f : Nat → Nat → Int) : (flatF n m f).length = n * m := by simp [flatF]
theorem flat_div {m i j : Nat} (hj : j < m) : (i * m + j) / m = i ∧ (i * m + j) % m = j := by
  rw [Nat.mul_comm i m]
  refine ⟨?_, ?_⟩
  · rw [Nat.mul_add_div (by omega), Nat.div_eq_of_lt hj, Nat.add_zero]
  · rw [Nat.mul_add_mod, Nat.mod_eq_of_lt hj]
theorem flat_lt {n m i j : Nat} (hi : i < n) (hj : j < m) : i * m + j < n * m := by
  have h1 : (i + 1) * m ≤ n * m := Nat.mul_le_mul_right m hi
  rw [Nat.succ_mul] at h1
  omega
theorem flatF_at (n m : Nat) (f : Nat → Nat → Int) (i j : Nat) (hi : i < n) (hj : j < m) : (flatF n m f).getD (i * m + j) 0 = f i j := by
  have h := flat_div (i := i) hj
  simp [flatF, flat_lt hi hj, h.1, h.2]
theorem flatF_set (n m : Nat) (f : Nat → Nat → Int) (i j : Nat) (x : Int) (hj : j < m) : (flatF n m f).set (i * m + j) x = flatF n m (fun a b => if a = i ∧ b = j then x else f a b) := by
  have h := flat_div (i := i) hj
  apply List.ext_getElem
  · simp [flatF]
  · intro k h1 h2
    rw [List.getElem_set]
    have hk : k < n * m := by simpa [flatF] using h2
    by_cases e : i * m + j = k
    · subst e
      rw [if_pos rfl]
      simp [flatF, h.1, h.2]
    · rw [if_neg e]
      have hne : ¬ (k / m = i ∧ k % m = j) := by
        rintro ⟨e1, e2⟩
        apply e
        have := Nat.div_add_mod k m
        rw [e1, e2, Nat.mul_comm] at this
        exact this
      simp [flatF, hne]
theorem flatF_zero (n m : Nat) : List.replicate (n * m) (0 : Int) = flatF n m (fun _ _ => 0) := by
  apply List.ext_getElem
  · simp [flatF]
  · intro k h1 h2
    simp [flatF]
theorem shapeL_flatF (n m : Nat) (f : Nat → Nat → Int) (hm : 0 < m) : shapeL (flatF n m f) m n = tabR n m f := by
  apply List.ext_getElem
  · simp [shapeL, tabR]
  · intro r h1 h2
    have hr : r < n := by simpa [tabR] using h2
    simp only [shapeL, tabR, List.getElem_map, List.getElem_range]
    apply List.ext_getElem
    · have : (r + 1) * m ≤ n * m := Nat.mul_le_mul_right m hr
      rw [Nat.succ_mul] at this
      simp [flatF]
      omega
    · intro j h3 h4
      have hj : j < m := by simpa using h4
      have h := flat_div (i := r) hj
      simp [flatF, h.1, h.2]

/-- The byte at a place of a text. -/
def cdS (s : ByteArray) (i : Nat) : Nat := (codes s).getD i 0
theorem cdS_get (s : ByteArray) (i : Nat) (h : i < s.size) : cdS s i = (s[i]'h).toNat := by
  unfold cdS
  rw [List.getD_eq_getElem?_getD, codes_get s i h]
  rfl
theorem codes_inj {a b : ByteArray} (h : codes a = codes b) : a = b := by
  obtain ⟨⟨a⟩⟩ := a
  obtain ⟨⟨b⟩⟩ := b
  simp only [codes] at h
  have := List.map_inj_right (f := UInt8.toNat) (fun x y e => UInt8.toNat.inj e) |>.1 h
  rw [this]
theorem codes_extract (s : ByteArray) (i j : Nat) : codes (s.extract i j) = ((codes s).drop i).take (j - i) := by
  simp [codes, List.extract_eq_drop_take']

theorem txt_ne {a b : ByteArray} (h : ¬ a = b) : (a.toList == b.toList) = false := by
  rw [beq_eq_false_iff_ne, ByteArray.toList_eq, ByteArray.toList_eq]
  intro e
  apply h
  obtain ⟨⟨a⟩⟩ := a
  obtain ⟨⟨b⟩⟩ := b
  simp only at e
  rw [e]
theorem txt_eq {a b : ByteArray} (h : a = b) : (a.toList == b.toList) = true := by
  subst h
  simp
/-- The number at a place, and where it ends. -/
def digM (s : ByteArray) : Nat → Nat → Nat → Nat × Nat
  | 0, j, n => (n, j)
  | g + 1, j, n => if 48 ≤ cdS s j ∧ cdS s j ≤ 57 ∧ n ≤ 12 then digM s g (j + 1) (10 * n + (cdS s j - 48)) else (n, j)
theorem digM_le (s : ByteArray) : ∀ g j n, j ≤ (digM s g j n).2 ∧ (digM s g j n).2 ≤ j + g
  | 0, j, n => ⟨Nat.le_refl _, Nat.le_refl _⟩
  | g + 1, j, n => by
    unfold digM
    split
    · have := digM_le s g (j + 1) (10 * n + (cdS s j - 48))
      omega
    · exact ⟨Nat.le_refl _, Nat.le_add_right _ _⟩
open Classical in
/-- spec's paint: the heights, and where the part ends; none if it is wrong. -/
noncomputable def paintM (s : ByteArray) : Nat → Nat → Nat → Nat → Nat → Nat → (Nat → Nat → Int) → (Nat → Nat → Int) × Option Nat
  | 0, _, _, _, _, _, f => (f, none)
  | k + 1, a, t, l, b, r, f =>
    if s.size ≤ a then (f, none)
    else if t = b ∨ l = r then (if cdS s a = 46 then (f, some (a + 1)) else (f, none))
    else if cdS s a = 40 then
      (match paintM s k (a + 1) t l (midQ t b) (midQ l r) f with
      | (f1, none) => (f1, none)
      | (f1, some e1) => match paintM s k e1 t (midQ l r) (midQ t b) r f1 with
        | (f2, none) => (f2, none)
        | (f2, some e2) => match paintM s k e2 (midQ t b) l b (midQ l r) f2 with
          | (f3, none) => (f3, none)
          | (f3, some e3) => match paintM s k e3 (midQ t b) (midQ l r) b r f3 with
            | (f4, none) => (f4, none)
            | (f4, some e4) => if e4 < s.size ∧ cdS s e4 = 41 then (f4, some (e4 + 1)) else (f4, none))
    else if (digM s (s.size - a) a 0).2 = a ∨ s.size ≤ (digM s (s.size - a) a 0).2 ∨ cdS s (digM s (s.size - a) a 0).2 ≠ 59 ∨ 12 < (digM s (s.size - a) a 0).1 ∨ s.extract a (digM s (s.size - a) a 0).2 ≠ numS (digM s (s.size - a) a 0).1 then (f, none)
    else (setP f t b l r (digM s (s.size - a) a 0).1, some ((digM s (s.size - a) a 0).2 + 1))
theorem paintM_inv (s : ByteArray) (k : Nat) : ∀ a t l b r f, Hts f → Hts (paintM s k a t l b r f).1 ∧ ∀ e, (paintM s k a t l b r f).2 = some e → a < e ∧ e ≤ s.size := by
  induction k with
  | zero => intro a t l b r f hf; exact ⟨hf, fun e h => by cases h⟩
  | succ k ih =>
    intro a t l b r f hf
    unfold paintM
    split
    · exact ⟨hf, fun e h => by cases h⟩
    split
    · split
      · exact ⟨hf, fun e h => by cases h; omega⟩
      · exact ⟨hf, fun e h => by cases h⟩
    split
    · rename_i hs _ _
      obtain ⟨p1, q1⟩ := ih (a + 1) t l (midQ t b) (midQ l r) f hf
      generalize paintM s k (a + 1) t l (midQ t b) (midQ l r) f = z1 at p1 q1 ⊢
      obtain ⟨f1, o1⟩ := z1
      cases o1 with
      | none => exact ⟨p1, fun e h => by cases h⟩
      | some e1 =>
        have l1 := q1 e1 rfl
        obtain ⟨p2, q2⟩ := ih e1 t (midQ l r) (midQ t b) r f1 p1
        simp only
        generalize paintM s k e1 t (midQ l r) (midQ t b) r f1 = z2 at p2 q2 ⊢
        obtain ⟨f2, o2⟩ := z2
        cases o2 with
        | none => exact ⟨p2, fun e h => by cases h⟩
        | some e2 =>
          have l2 := q2 e2 rfl
          obtain ⟨p3, q3⟩ := ih e2 (midQ t b) l b (midQ l r) f2 p2
          simp only
          generalize paintM s k e2 (midQ t b) l b (midQ l r) f2 = z3 at p3 q3 ⊢
          obtain ⟨f3, o3⟩ := z3
          cases o3 with
          | none => exact ⟨p3, fun e h => by cases h⟩
          | some e3 =>
            have l3 := q3 e3 rfl
            obtain ⟨p4, q4⟩ := ih e3 (midQ t b) (midQ l r) b r f3 p3
            simp only
            generalize paintM s k e3 (midQ t b) (midQ l r) b r f3 = z4 at p4 q4 ⊢
            obtain ⟨f4, o4⟩ := z4
            cases o4 with
            | none => exact ⟨p4, fun e h => by cases h⟩
            | some e4 =>
              have l4 := q4 e4 rfl
              simp only
              split
              · exact ⟨p4, fun e h => by cases h; omega⟩
              · exact ⟨p4, fun e h => by cases h⟩
    split
    · exact ⟨hf, fun e h => by cases h⟩
    · rename_i h1 h2 h3 h4
      have hd := digM_le s (s.size - a) a 0
      refine ⟨setP_hts hf _ _ _ _ _ (by omega), fun e h => ?_⟩
      cases h
      omega
theorem paintM_endF (s : ByteArray) (k : Nat) : ∀ a t l b r f e, (paintM s k a t l b r f).2 = some e → a < e ∧ e ≤ s.size := by
  induction k with
  | zero => intro a t l b r f e h; cases h
  | succ k ih =>
    intro a t l b r f
    unfold paintM
    split
    · intro e h; cases h
    split
    · split
      · intro e h; cases h; omega
      · intro e h; cases h
    split
    · have q1 := ih (a + 1) t l (midQ t b) (midQ l r) f
      generalize paintM s k (a + 1) t l (midQ t b) (midQ l r) f = z1 at q1 ⊢
      obtain ⟨f1, o1⟩ := z1
      cases o1 with
      | none => intro e h; cases h
      | some e1 =>
        have l1 := q1 e1 rfl
        have q2 := ih e1 t (midQ l r) (midQ t b) r f1
        simp only
        generalize paintM s k e1 t (midQ l r) (midQ t b) r f1 = z2 at q2 ⊢
        obtain ⟨f2, o2⟩ := z2
        cases o2 with
        | none => intro e h; cases h
        | some e2 =>
          have l2 := q2 e2 rfl
          have q3 := ih e2 (midQ t b) l b (midQ l r) f2
          simp only
          generalize paintM s k e2 (midQ t b) l b (midQ l r) f2 = z3 at q3 ⊢
          obtain ⟨f3, o3⟩ := z3
          cases o3 with
          | none => intro e h; cases h
          | some e3 =>
            have l3 := q3 e3 rfl
            have q4 := ih e3 (midQ t b) (midQ l r) b r f3
            simp only
            generalize paintM s k e3 (midQ t b) (midQ l r) b r f3 = z4 at q4 ⊢
            obtain ⟨f4, o4⟩ := z4
            cases o4 with
            | none => intro e h; cases h
            | some e4 =>
              have l4 := q4 e4 rfl
              simp only
              split
              · intro e h; cases h; omega
              · intro e h; cases h
    split
    · intro e h; cases h
    · rename_i h1 h2 h3 h4
      have hd := digM_le s (s.size - a) a 0
      intro e h
      cases h
      omega
theorem drop_cons {α : Type} {cs : List α} {a : Nat} {c d : α} {rest : List α} (h : cs.drop a = c :: rest) : a < cs.length ∧ cs.getD a d = c ∧ cs.drop (a + 1) = rest := by
  have hl : a < cs.length := by
    rcases Nat.lt_or_ge a cs.length with h1 | h1
    · exact h1
    · rw [List.drop_eq_nil_of_le h1] at h; cases h
  rw [List.drop_eq_getElem_cons hl] at h
  injection h with h1 h2
  refine ⟨hl, ?_, h2⟩
  rw [List.getD_eq_getElem?_getD, List.getElem?_eq_getElem hl, ← h1]
  rfl
theorem drop_more {α : Type} {cs X rest : List α} {a : Nat} (h : cs.drop a = X ++ rest) : cs.drop (a + X.length) = rest := by
  rw [← List.drop_drop, h]
  simp
theorem digM_num (s : ByteArray) (a N : Nat) (hN : N ≤ 12) (rest : List Nat) (h : (codes s).drop a = codes (numS N) ++ 59 :: rest) : digM s (s.size - a) a 0 = (N, a + (codes (numS N)).length) := by
  rw [codes_num N hN] at h ⊢
  split at h
  · rename_i h10
    rw [if_pos h10]
    simp only [List.cons_append, List.nil_append] at h
    obtain ⟨l1, g1, d1⟩ := drop_cons (d := 0) h
    obtain ⟨l2, g2, d2⟩ := drop_cons (d := 0) d1
    rw [codes_len s] at l1 l2
    obtain ⟨z, hz⟩ : ∃ z, s.size - a = z + 2 := ⟨s.size - a - 2, by omega⟩
    rw [hz]
    have c1 : cdS s a = 48 + N := g1
    have c2 : cdS s (a + 1) = 59 := g2
    show (if 48 ≤ cdS s a ∧ cdS s a ≤ 57 ∧ 0 ≤ 12 then digM s (z + 1) (a + 1) (10 * 0 + (cdS s a - 48)) else (0, a)) = _
    rw [c1, if_pos (by omega)]
    show (if 48 ≤ cdS s (a + 1) ∧ cdS s (a + 1) ≤ 57 ∧ 10 * 0 + (48 + N - 48) ≤ 12 then digM s z (a + 1 + 1) _ else (10 * 0 + (48 + N - 48), a + 1)) = _
    rw [c2, if_neg (by omega)]
    simp
  · rename_i h10
    rw [if_neg h10]
    simp only [List.cons_append, List.nil_append] at h
    obtain ⟨l1, g1, d1⟩ := drop_cons (d := 0) h
    obtain ⟨l2, g2, d2⟩ := drop_cons (d := 0) d1
    obtain ⟨l3, g3, d3⟩ := drop_cons (d := 0) d2
    rw [codes_len s] at l1 l2 l3
    obtain ⟨z, hz⟩ : ∃ z, s.size - a = z + 3 := ⟨s.size - a - 3, by omega⟩
    rw [hz]
    have c1 : cdS s a = 49 := g1
    have c2 : cdS s (a + 1) = 38 + N := g2
    have c3 : cdS s (a + 1 + 1) = 59 := g3
    show (if 48 ≤ cdS s a ∧ cdS s a ≤ 57 ∧ 0 ≤ 12 then digM s (z + 2) (a + 1) (10 * 0 + (cdS s a - 48)) else (0, a)) = _
    rw [c1, if_pos (by omega)]
    show (if 48 ≤ cdS s (a + 1) ∧ cdS s (a + 1) ≤ 57 ∧ 10 * 0 + (49 - 48) ≤ 12 then digM s (z + 1) (a + 1 + 1) (10 * (10 * 0 + (49 - 48)) + (cdS s (a + 1) - 48)) else _) = _
    rw [c2, if_pos (by omega)]
    show (if 48 ≤ cdS s (a + 1 + 1) ∧ cdS s (a + 1 + 1) ≤ 57 ∧ _ then digM s z (a + 1 + 1 + 1) _ else (10 * (10 * 0 + (49 - 48)) + (38 + N - 48), a + 1 + 1)) = _
    rw [c3, if_neg (by omega)]
    simp
    omega
theorem numS_codes_pos (N : Nat) (hN : N ≤ 12) : 0 < (codes (numS N)).length := by
  rw [codes_num N hN]
  split <;> simp
/-- Of a text of a part paint makes the part. -/
theorem paintM_qT (s : ByteArray) (g : Nat → Nat → Int) (hg : Hts g) (k : Nat) : ∀ (t l b r a : Nat) (f : Nat → Nat → Int) (rest : List Nat) (fuel : Nat), t ≤ b → l ≤ r → (b - t) + (r - l) < k → (codes s).drop a = codes (qT g k t l b r) ++ rest → s.size < fuel + a →
    paintM s fuel a t l b r f = (overP f g t b l r, some (a + (codes (qT g k t l b r)).length)) := by
  induction k with
  | zero => intro t l b r a f rest fuel _ _ hk; omega
  | succ k ih =>
    intro t l b r a f rest fuel htb hlr hk hd hfu
    by_cases h0 : t = b ∨ l = r
    · have e : qT g (k + 1) t l b r = ⟨#[46]⟩ := by simp [qT, h0]
      rw [e] at hd ⊢
      obtain ⟨l1, g1, -⟩ := drop_cons (d := 0) (show (codes s).drop a = 46 :: rest from hd)
      rw [codes_len s] at l1
      obtain ⟨z, rfl⟩ : ∃ z, fuel = z + 1 := ⟨fuel - 1, by omega⟩
      unfold paintM
      rw [if_neg (by omega), if_pos h0, if_pos (show cdS s a = 46 from g1), overP_none h0]
      rfl
    · cases he : evenQ g t l b r with
      | true =>
        have e : qT g (k + 1) t l b r = numS (g t l).toNat ++ ⟨#[59]⟩ := by simp [qT, h0, he]
        have hn := hg t l
        rw [e, codes_append] at hd ⊢
        rw [List.append_assoc] at hd
        have hd2 : (codes s).drop a = codes (numS (g t l).toNat) ++ 59 :: rest := hd
        have hdm := digM_num s a (g t l).toNat (by omega) rest hd2
        have hd3 := drop_more hd2
        obtain ⟨l3, g3, -⟩ := drop_cons (d := 0) hd3
        rw [codes_len s] at l3
        have hpos := numS_codes_pos (g t l).toNat (by omega)
        obtain ⟨c0, cr, hc0⟩ : ∃ c0 cr, codes (numS (g t l).toNat) = c0 :: cr := by
          cases hh : codes (numS (g t l).toNat) with
          | nil => rw [hh] at hpos; simp at hpos
          | cons a b => exact ⟨a, b, rfl⟩
        obtain ⟨l1, g1, -⟩ := drop_cons (d := 0) (by rw [hc0] at hd2; exact hd2)
        have hc48 : c0 ≠ 40 := by
          have := codes_num (g t l).toNat (by omega)
          rw [hc0] at this
          split at this
          · injection this; omega
          · injection this; omega
        obtain ⟨z, rfl⟩ : ∃ z, fuel = z + 1 := ⟨fuel - 1, by omega⟩
        have hx : s.extract a (a + (codes (numS (g t l).toNat)).length) = numS (g t l).toNat := by
          apply codes_inj
          rw [codes_extract, hd2, Nat.add_sub_cancel_left]
          simp
        unfold paintM
        rw [if_neg (by omega), if_neg h0, if_neg (by rw [show cdS s a = c0 from g1]; exact hc48), hdm, overP_even he]
        simp only
        rw [if_neg]
        · rw [show ((g t l).toNat : Int) = g t l by omega, List.length_append]
          rfl
        · rintro (h | h | h | h | h)
          · omega
          · omega
          · exact h g3
          · omega
          · exact h hx
      | false =>
        have e : qT g (k + 1) t l b r = ⟨#[40]⟩ ++ qT g k t l (midQ t b) (midQ l r) ++ qT g k t (midQ l r) (midQ t b) r ++ qT g k (midQ t b) l b (midQ l r) ++ qT g k (midQ t b) (midQ l r) b r ++ ⟨#[41]⟩ := by simp [qT, h0, he]
        obtain ⟨k0, k1, k2, k3⟩ := quarters_less htb hlr hk he
        have hM := midQ_bd t b htb
        have hK := midQ_bd l r hlr
        have e1 : codes ⟨#[40]⟩ = [40] := rfl
        have e2 : codes ⟨#[41]⟩ = [41] := rfl
        rw [e] at hd ⊢
        simp only [codes_append, List.append_assoc, e1, e2, List.cons_append, List.nil_append] at hd ⊢
        obtain ⟨l1, g1, d1⟩ := drop_cons (d := 0) hd
        rw [codes_len s] at l1
        obtain ⟨z, rfl⟩ : ∃ z, fuel = z + 1 := ⟨fuel - 1, by omega⟩
        have r1 := ih t l (midQ t b) (midQ l r) (a + 1) f _ z hM.1 hK.1 k0 d1 (by omega)
        have d2 := drop_more d1
        have r2 := ih t (midQ l r) (midQ t b) r _ (overP f g t (midQ t b) l (midQ l r)) _ z hM.1 hK.2 k1 d2 (by omega)
        have d3 := drop_more d2
        have r3 := ih (midQ t b) l b (midQ l r) _ (overP (overP f g t (midQ t b) l (midQ l r)) g t (midQ t b) (midQ l r) r) _ z hM.2 hK.1 k2 d3 (by omega)
        have d4 := drop_more d3
        have r4 := ih (midQ t b) (midQ l r) b r _ (overP (overP (overP f g t (midQ t b) l (midQ l r)) g t (midQ t b) (midQ l r) r) g (midQ t b) b l (midQ l r)) _ z hM.2 hK.2 k3 d4 (by omega)
        have d5 := drop_more d4
        obtain ⟨l5, g5, -⟩ := drop_cons (d := 0) d5
        rw [codes_len s] at l5
        unfold paintM
        rw [if_neg (by omega), if_neg h0, if_pos (show cdS s a = 40 from g1), r1]
        simp only
        rw [r2]
        simp only
        rw [r3]
        simp only
        rw [r4]
        simp only
        rw [if_pos ⟨l5, g5⟩, overP_four hM.1 hM.2 hK.1 hK.2]
        simp only [List.length_append, List.length_cons, List.length_nil, Prod.mk.injEq, true_and, Option.some.injEq]
        omega
end Go.Proofs.YtlfoimjohdaofaaDoor
