/- What a text by quarters tells, as functions: the program's reader and spec's paint; the text of a grid tells the grid. -/
import Derived.Test.YtlfoimjohdaofaaDoorQuarters
namespace Go.Proofs.YtlfoimjohdaofaaDoor
open Go.RowKit

/-- Heights with a part of one height. -/
def setP (f : Nat → Nat → Int) (t b l r : Nat) (x : Int) : Nat → Nat → Int := fun i j => if (t ≤ i ∧ i < b) ∧ l ≤ j ∧ j < r then x else f i j
/-- Heights with a part of others. -/
def overP (g f : Nat → Nat → Int) (t b l r : Nat) : Nat → Nat → Int := fun i j => if (t ≤ i ∧ i < b) ∧ l ≤ j ∧ j < r then f i j else g i j
/-- Heights with a part of one height, as far as row i, column c. -/
def midP (f : Nat → Nat → Int) (t l r : Nat) (x : Int) (i c : Nat) : Nat → Nat → Int := fun i' j' => if ((t ≤ i' ∧ i' < i) ∧ l ≤ j' ∧ j' < r) ∨ (i' = i ∧ l ≤ j' ∧ j' < c) then x else f i' j'
theorem midP_start (f : Nat → Nat → Int) (t l r : Nat) (x : Int) : midP f t l r x t l = f := by
  funext i j
  unfold midP
  rw [if_neg (by omega)]
theorem midP_end (f : Nat → Nat → Int) (t b l r : Nat) (x : Int) : midP f t l r x b l = setP f t b l r x := by
  funext i j
  unfold midP setP
  by_cases h : (t ≤ i ∧ i < b) ∧ l ≤ j ∧ j < r
  · rw [if_pos (by omega), if_pos h]
  · rw [if_neg (by omega), if_neg h]
theorem midP_row (f : Nat → Nat → Int) (t l r : Nat) (x : Int) (i : Nat) (hi : t ≤ i) : midP f t l r x i r = midP f t l r x (i + 1) l := by
  funext i' j'
  unfold midP
  by_cases h : ((t ≤ i' ∧ i' < i) ∧ l ≤ j' ∧ j' < r) ∨ (i' = i ∧ l ≤ j' ∧ j' < r)
  · rw [if_pos h, if_pos (by omega)]
  · rw [if_neg h, if_neg (by omega)]
/-- Where there are no columns nothing is written. -/
theorem midP_none (f : Nat → Nat → Int) (t l r : Nat) (x : Int) (i : Nat) (hr : r ≤ l) : midP f t l r x i l = f := by
  funext i' j'
  unfold midP
  rw [if_neg (by omega)]
theorem midP_next (f : Nat → Nat → Int) (t l r : Nat) (x : Int) (i c : Nat) (hl : l ≤ c) : (fun a b => if a = i ∧ b = c then x else midP f t l r x i c a b) = midP f t l r x i (c + 1) := by
  funext a b
  unfold midP
  by_cases h : a = i ∧ b = c
  · rw [if_pos h, if_pos (by omega)]
  · rw [if_neg h]
    by_cases h2 : ((t ≤ a ∧ a < i) ∧ l ≤ b ∧ b < r) ∨ (a = i ∧ l ≤ b ∧ b < c)
    · rw [if_pos h2, if_pos (by omega)]
    · rw [if_neg h2, if_neg (by omega)]
theorem overP_even {g f : Nat → Nat → Int} {t l b r : Nat} (h : evenQ f t l b r = true) : overP g f t b l r = setP g t b l r (f t l) := by
  funext i j
  unfold overP setP
  by_cases h1 : (t ≤ i ∧ i < b) ∧ l ≤ j ∧ j < r
  · rw [if_pos h1, if_pos h1]
    have := (evenQ_iff f t l b r).1 h (i - t) (j - l) (by omega) (by omega)
    rw [show t + (i - t) = i by omega, show l + (j - l) = j by omega] at this
    exact this
  · rw [if_neg h1, if_neg h1]
theorem overP_none {g f : Nat → Nat → Int} {t l b r : Nat} (h : t = b ∨ l = r) : overP g f t b l r = g := by
  funext i j
  unfold overP
  rw [if_neg (by omega)]
theorem overP_four {g f : Nat → Nat → Int} {t l b r M K : Nat} (h1 : t ≤ M) (h2 : M ≤ b) (h3 : l ≤ K) (h4 : K ≤ r) :
    overP (overP (overP (overP g f t M l K) f t M K r) f M b l K) f M b K r = overP g f t b l r := by
  funext i j
  unfold overP
  by_cases hh : (t ≤ i ∧ i < b) ∧ l ≤ j ∧ j < r
  · rw [if_pos hh]
    by_cases a1 : (M ≤ i ∧ i < b) ∧ K ≤ j ∧ j < r
    · rw [if_pos a1]
    rw [if_neg a1]
    by_cases a2 : (M ≤ i ∧ i < b) ∧ l ≤ j ∧ j < K
    · rw [if_pos a2]
    rw [if_neg a2]
    by_cases a3 : (t ≤ i ∧ i < M) ∧ K ≤ j ∧ j < r
    · rw [if_pos a3]
    rw [if_neg a3, if_pos (by omega)]
  · rw [if_neg hh, if_neg (by omega), if_neg (by omega), if_neg (by omega), if_neg (by omega)]

/-! The program's reader. -/
/-- What it holds: heights, the parts that are left, the number so far. -/
structure RS where
  f : Nat → Nat → Int
  q : List (Nat × Nat × Nat × Nat)
  num : Nat
def stepR (c : Nat) (s : RS) : Option RS :=
  if 48 ≤ c ∧ c ≤ 57 then (if 10 * s.num + (c - 48) ≤ 12 then some ⟨s.f, s.q, 10 * s.num + (c - 48)⟩ else none)
  else if c = 59 then (match s.q with | [] => none | p :: q => some ⟨setP s.f p.1 p.2.1 p.2.2.1 p.2.2.2 s.num, q, 0⟩)
  else if c = 46 then (match s.q with | [] => none | _ :: q => some ⟨s.f, q, s.num⟩)
  else if c = 40 then (match s.q with | [] => none | p :: q => if 1 < (p.2.1 - p.1) * (p.2.2.2 - p.2.2.1) then some ⟨s.f, quartL p.1 p.2.2.1 p.2.1 p.2.2.2 ++ q, s.num⟩ else none)
  else if c = 41 then some s else none
def runR : List Nat → RS → Option RS
  | [], s => some s
  | c :: cs, s => (stepR c s).bind (runR cs)
theorem runR_append (a b : List Nat) (s : RS) : runR (a ++ b) s = (runR a s).bind (runR b) := by
  induction a generalizing s with
  | nil => rfl
  | cons c a ih =>
    show (stepR c s).bind (runR (a ++ b)) = ((stepR c s).bind (runR a)).bind (runR b)
    cases stepR c s with
    | none => rfl
    | some s' => exact ih s'
theorem runR_snoc (a : List Nat) (c : Nat) (s : RS) : runR (a ++ [c]) s = (runR a s).bind (stepR c) := by
  rw [runR_append]
  cases runR a s with
  | none => rfl
  | some s' =>
    show (stepR c s').bind (runR []) = stepR c s'
    cases stepR c s' <;> rfl
/-- The bytes of a text as numbers. -/
def codes (s : ByteArray) : List Nat := s.data.toList.map UInt8.toNat
theorem codes_append (a b : ByteArray) : codes (a ++ b) = codes a ++ codes b := by simp [codes]
theorem codes_len (s : ByteArray) : (codes s).length = s.size := by simp [codes]
theorem codes_get (s : ByteArray) (i : Nat) (h : i < s.size) : (codes s)[i]? = some (s[i]'h).toNat := by
  have h2 : i < s.data.toList.length := by simpa using h
  simp only [codes, List.getElem?_map, List.getElem?_eq_getElem h2, Option.map_some, Array.getElem_toList]
  rfl
theorem codes_take (s : ByteArray) (i : Nat) (h : i < s.size) : (codes s).take (i + 1) = (codes s).take i ++ [(s[i]'h).toNat] := by
  have h2 := codes_get s i h
  have h3 : i < (codes s).length := by rw [codes_len]; exact h
  rw [List.getElem?_eq_getElem h3] at h2
  rw [List.take_succ_eq_append_getElem h3, Option.some.inj h2]
theorem codes_num (n : Nat) (h : n ≤ 12) : codes (numS n) = if n < 10 then [48 + n] else [49, 38 + n] := by
  have : n = 0 ∨ n = 1 ∨ n = 2 ∨ n = 3 ∨ n = 4 ∨ n = 5 ∨ n = 6 ∨ n = 7 ∨ n = 8 ∨ n = 9 ∨ n = 10 ∨ n = 11 ∨ n = 12 := by omega
  rcases this with rfl | rfl | rfl | rfl | rfl | rfl | rfl | rfl | rfl | rfl | rfl | rfl | rfl <;> rfl
theorem runR_num (n : Nat) (h : n ≤ 12) (rest : List Nat) (f : Nat → Nat → Int) (q : List (Nat × Nat × Nat × Nat)) (t b l r : Nat) :
    runR (codes (numS n) ++ 59 :: rest) ⟨f, (t, b, l, r) :: q, 0⟩ = runR rest ⟨setP f t b l r n, q, 0⟩ := by
  rw [codes_num n h]
  have : n = 0 ∨ n = 1 ∨ n = 2 ∨ n = 3 ∨ n = 4 ∨ n = 5 ∨ n = 6 ∨ n = 7 ∨ n = 8 ∨ n = 9 ∨ n = 10 ∨ n = 11 ∨ n = 12 := by omega
  rcases this with rfl | rfl | rfl | rfl | rfl | rfl | rfl | rfl | rfl | rfl | rfl | rfl | rfl <;> rfl

/-- Heights of 0 to 12. -/
def Hts (f : Nat → Nat → Int) : Prop := ∀ i j, 0 ≤ f i j ∧ f i j ≤ 12
theorem cells_two {t b l r : Nat} (htb : t < b) (hlr : l < r) (h : t + 2 ≤ b ∨ l + 2 ≤ r) : 1 < (b - t) * (r - l) := by
  rcases h with h | h
  · have h1 : 2 * 1 ≤ (b - t) * (r - l) := Nat.mul_le_mul (by omega) (by omega)
    omega
  · have h1 : 1 * 2 ≤ (b - t) * (r - l) := Nat.mul_le_mul (by omega) (by omega)
    omega
/-- Of a text of a part the reader makes the part. -/
theorem runR_qT (f : Nat → Nat → Int) (hf : Hts f) (k : Nat) : ∀ (t l b r : Nat) (g : Nat → Nat → Int) (q : List (Nat × Nat × Nat × Nat)) (rest : List Nat), t ≤ b → l ≤ r → (b - t) + (r - l) < k →
    runR (codes (qT f k t l b r) ++ rest) ⟨g, (t, b, l, r) :: q, 0⟩ = runR rest ⟨overP g f t b l r, q, 0⟩ := by
  induction k with
  | zero => intro t l b r g q rest _ _ hk; omega
  | succ k ih =>
    intro t l b r g q rest htb hlr hk
    by_cases h0 : t = b ∨ l = r
    · rw [overP_none h0]
      have e : qT f (k + 1) t l b r = ⟨#[46]⟩ := by simp [qT, h0]
      rw [e]
      rfl
    · cases he : evenQ f t l b r with
      | true =>
        have e : qT f (k + 1) t l b r = numS (f t l).toNat ++ ⟨#[59]⟩ := by simp [qT, h0, he]
        have hn := hf t l
        rw [e, codes_append, List.append_assoc, overP_even he]
        have := runR_num (f t l).toNat (by omega) rest g q t b l r
        rw [show ((f t l).toNat : Int) = f t l by omega] at this
        exact this
      | false =>
        have e : qT f (k + 1) t l b r = ⟨#[40]⟩ ++ qT f k t l (midQ t b) (midQ l r) ++ qT f k t (midQ l r) (midQ t b) r ++ qT f k (midQ t b) l b (midQ l r) ++ qT f k (midQ t b) (midQ l r) b r ++ ⟨#[41]⟩ := by simp [qT, h0, he]
        obtain ⟨k0, k1, k2, k3⟩ := quarters_less htb hlr hk he
        have hM := midQ_bd t b htb
        have hK := midQ_bd l r hlr
        have hc := cells_two (t := t) (b := b) (l := l) (r := r) (by omega) (by omega) (evenQ_big f t l b r he)
        rw [e]
        simp only [codes_append, List.append_assoc]
        have s1 : runR (codes ⟨#[40]⟩ ++ (codes (qT f k t l (midQ t b) (midQ l r)) ++ (codes (qT f k t (midQ l r) (midQ t b) r) ++ (codes (qT f k (midQ t b) l b (midQ l r)) ++ (codes (qT f k (midQ t b) (midQ l r) b r) ++ (codes ⟨#[41]⟩ ++ rest)))))) ⟨g, (t, b, l, r) :: q, 0⟩
            = runR (codes (qT f k t l (midQ t b) (midQ l r)) ++ (codes (qT f k t (midQ l r) (midQ t b) r) ++ (codes (qT f k (midQ t b) l b (midQ l r)) ++ (codes (qT f k (midQ t b) (midQ l r) b r) ++ (codes ⟨#[41]⟩ ++ rest))))) ⟨g, quartL t l b r ++ q, 0⟩ := by
          show (stepR 40 ⟨g, (t, b, l, r) :: q, 0⟩).bind _ = _
          have : stepR 40 ⟨g, (t, b, l, r) :: q, 0⟩ = some ⟨g, quartL t l b r ++ q, 0⟩ := by
            show (if 1 < (b - t) * (r - l) then some (RS.mk g (quartL t l b r ++ q) 0) else none) = _
            rw [if_pos hc]
          rw [this]
          rfl
        rw [s1]
        unfold quartL
        simp only [List.cons_append, List.nil_append]
        rw [ih t l (midQ t b) (midQ l r) g _ _ hM.1 hK.1 k0, ih t (midQ l r) (midQ t b) r _ _ _ hM.1 hK.2 k1, ih (midQ t b) l b (midQ l r) _ _ _ hM.2 hK.1 k2, ih (midQ t b) (midQ l r) b r _ _ _ hM.2 hK.2 k3,
          overP_four hM.1 hM.2 hK.1 hK.2]
        rfl

/-! How many parts may be left. -/
def wt (c : Nat) : Nat := if c = 0 then 1 else 3 * c - 2
def wts (q : List (Nat × Nat × Nat × Nat)) : Nat := (q.map fun p => wt ((p.2.1 - p.1) * (p.2.2.2 - p.2.2.1))).sum
theorem wt_pos (c : Nat) : 1 ≤ wt c := by unfold wt; split <;> omega
theorem wts_len (q : List (Nat × Nat × Nat × Nat)) : q.length ≤ wts q := by
  induction q with
  | nil => exact Nat.le_refl _
  | cons p q ih =>
    have := wt_pos ((p.2.1 - p.1) * (p.2.2.2 - p.2.2.1))
    simp only [wts, List.map_cons, List.sum_cons, List.length_cons] at ih ⊢
    omega
theorem wt_four : ∀ h, h < 6 → ∀ w, w < 6 → 1 < h * w → wt ((h - h / 2) * (w - w / 2)) + wt ((h - h / 2) * (w / 2)) + wt ((h / 2) * (w - w / 2)) + wt ((h / 2) * (w / 2)) ≤ wt (h * w) := by decide
/-- What holds of the reader in a grid of n rows and m columns. -/
structure RInv (n m : Nat) (s : RS) : Prop where
  parts : ∀ p, p ∈ s.q → p.1 ≤ p.2.1 ∧ p.2.1 ≤ n ∧ p.2.2.1 ≤ p.2.2.2 ∧ p.2.2.2 ≤ m
  num : s.num ≤ 12
  hts : Hts s.f
  wts : wts s.q ≤ 73
theorem quartL_in {t l b r n m : Nat} (htb : t ≤ b) (hb : b ≤ n) (hlr : l ≤ r) (hr : r ≤ m) : ∀ p, p ∈ quartL t l b r → p.1 ≤ p.2.1 ∧ p.2.1 ≤ n ∧ p.2.2.1 ≤ p.2.2.2 ∧ p.2.2.2 ≤ m := by
  have hM := midQ_bd t b htb
  have hK := midQ_bd l r hlr
  intro p hp
  simp only [quartL, List.mem_cons, List.not_mem_nil, or_false] at hp
  rcases hp with rfl | rfl | rfl | rfl <;> (simp only []; omega)
theorem quartL_wts {t l b r : Nat} (htb : t ≤ b) (hlr : l ≤ r) (hb : b - t < 6) (hr : r - l < 6) (hc : 1 < (b - t) * (r - l)) : wts (quartL t l b r) ≤ wt ((b - t) * (r - l)) := by
  have h := wt_four (b - t) hb (r - l) hr hc
  have e1 : midQ t b - t = (b - t) - (b - t) / 2 := by unfold midQ; omega
  have e2 : b - midQ t b = (b - t) / 2 := by unfold midQ; omega
  have e3 : midQ l r - l = (r - l) - (r - l) / 2 := by unfold midQ; omega
  have e4 : r - midQ l r = (r - l) / 2 := by unfold midQ; omega
  simp only [wts, quartL, List.map_cons, List.map_nil, List.sum_cons, List.sum_nil, e1, e2, e3, e4]
  omega
theorem setP_hts {f : Nat → Nat → Int} (hf : Hts f) (t b l r n : Nat) (hn : n ≤ 12) : Hts (setP f t b l r n) := by
  intro i j
  have := hf i j
  unfold setP
  split <;> omega
theorem RInv.step {n m : Nat} {s s' : RS} (h : RInv n m s) (hn : n ≤ 5) (hm : m ≤ 5) (c : Nat) (e : stepR c s = some s') : RInv n m s' := by
  obtain ⟨f, q, num⟩ := s
  obtain ⟨hp, hnum, hh, hw⟩ := h
  unfold stepR at e
  split at e
  · split at e
    · cases e; exact ⟨hp, by assumption, hh, hw⟩
    · cases e
  split at e
  · cases q with
    | nil => cases e
    | cons p q =>
      cases e
      have := wt_pos ((p.2.1 - p.1) * (p.2.2.2 - p.2.2.1))
      refine ⟨fun x hx => hp x (List.mem_cons_of_mem _ hx), Nat.zero_le _, setP_hts hh _ _ _ _ _ hnum, ?_⟩
      simp only [Go.Proofs.YtlfoimjohdaofaaDoor.wts, List.map_cons, List.sum_cons] at hw ⊢
      omega
  split at e
  · cases q with
    | nil => cases e
    | cons p q =>
      cases e
      refine ⟨fun x hx => hp x (List.mem_cons_of_mem _ hx), hnum, hh, ?_⟩
      simp only [Go.Proofs.YtlfoimjohdaofaaDoor.wts, List.map_cons, List.sum_cons] at hw ⊢
      omega
  split at e
  · cases q with
    | nil => cases e
    | cons p q =>
      simp only at e
      split at e
      · rename_i hc
        cases e
        obtain ⟨h1, h2, h3, h4⟩ := hp p (List.mem_cons_self ..)
        have h5 := quartL_wts h1 h3 (by omega) (by omega) hc
        refine ⟨fun x hx => ?_, hnum, hh, ?_⟩
        · rcases List.mem_append.1 hx with hx | hx
          · exact quartL_in h1 h2 h3 h4 x hx
          · exact hp x (List.mem_cons_of_mem _ hx)
        · simp only [Go.Proofs.YtlfoimjohdaofaaDoor.wts, List.map_append, List.sum_append, List.map_cons, List.sum_cons] at hw h5 ⊢
          omega
      · cases e
  split at e
  · cases e; exact ⟨hp, hnum, hh, hw⟩
  · cases e
/-- How the reader begins. -/
def startR (n m : Nat) : RS := ⟨fun _ _ => 0, [(0, n, 0, m)], 0⟩
theorem startR_inv (n m : Nat) (hn : n ≤ 5) (hm : m ≤ 5) : RInv n m (startR n m) := by
  refine ⟨fun p hp => ?_, by show 0 ≤ 12; omega, fun i j => by show (0 : Int) ≤ 0 ∧ (0 : Int) ≤ 12; omega, ?_⟩
  · simp only [startR, List.mem_singleton] at hp
    subst hp
    simp only []
    omega
  · simp only [startR, wts, List.map_cons, List.map_nil, List.sum_cons, List.sum_nil]
    have h1 : (n - 0) * (m - 0) ≤ 5 * 5 := Nat.mul_le_mul (by omega) (by omega)
    unfold wt
    split <;> omega
theorem runR_inv {n m : Nat} (hn : n ≤ 5) (hm : m ≤ 5) : ∀ (cs : List Nat) (s s' : RS), RInv n m s → runR cs s = some s' → RInv n m s'
  | [], s, s', h, e => by cases e; exact h
  | c :: cs, s, s', h, e => by
    cases h1 : stepR c s with
    | none => rw [show runR (c :: cs) s = (stepR c s).bind (runR cs) from rfl, h1] at e; cases e
    | some s1 =>
      rw [show runR (c :: cs) s = (stepR c s).bind (runR cs) from rfl, h1] at e
      exact runR_inv hn hm cs s1 s' (h.step hn hm c h1) e
/-- A byte that is no letter of ours ends it. -/
theorem stepR_high (c : Nat) (s : RS) (h : 128 ≤ c) : stepR c s = none := by
  unfold stepR
  rw [if_neg (by omega), if_neg (by omega), if_neg (by omega), if_neg (by omega), if_neg (by omega)]
end Go.Proofs.YtlfoimjohdaofaaDoor
