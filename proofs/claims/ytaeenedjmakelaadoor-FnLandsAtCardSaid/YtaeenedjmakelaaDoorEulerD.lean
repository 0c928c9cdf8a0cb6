/- Towards Euler's formula for sets of cells (FnLandsAt): cells as pairs of numbers, what a closed path through a new cell parts, and the table of all neighbourhoods. -/
import Derived.Test.YtaeenedjmakelaaDoorEulerP
import Derived.Test.YtaeenedjmakelaaDoorEulerC
import Derived.Test.YtaeenedjmakelaaDoorFrameS
namespace Go.Proofs.YtaeenedjmakelaaDoor
open Go.RowKit

theorem filter_two (p : Nat → Prop) [DecidablePred p] : ∀ l : List Nat, (l.filter fun d => decide (p d)).length + (l.filter fun d => decide (¬ p d)).length = l.length
  | [] => rfl
  | a :: l => by
    have ih := filter_two p l
    by_cases h : p a
    · rw [List.filter_cons_of_pos (p := fun d => decide (p d)) (by simp [h]), List.filter_cons_of_neg (p := fun d => decide (¬ p d)) (by simp [h])]
      simp only [List.length_cons]; omega
    · rw [List.filter_cons_of_neg (p := fun d => decide (p d)) (by simp [h]), List.filter_cons_of_pos (p := fun d => decide (¬ p d)) (by simp [h])]
      simp only [List.length_cons]; omega
open Classical in
/-- Pieces less at least as many as the new cell joins, but one. -/
theorem cnt_put1_list {N : Nat} {T : Nat → Nat → Bool} {B : Nat → Bool} {x : Nat} (hT : ∀ a b, T a b = T b a) (hx : x < N) (l : List Nat) (hl : ∀ y, y ∈ l → y < N ∧ B y = true ∧ T y x = true) (hpw : l.Pairwise fun y z => ¬ RT N T B y z) : cntT N T (put1 B x) N + l.length ≤ cntT N T B N + 1 := by
  rw [leads_len, leads_len]
  obtain ⟨dx, x1, x2, x3⟩ := lead_ofE (N := N) (T := T) (B := put1 B x) x hx (put1_at B x)
  have hnd : (leadsL N T (put1 B x) N).Nodup := List.nodup_range.filter _
  have hxm : dx ∈ leadsL N T (put1 B x) N := mem_leads.2 ⟨x1, x2⟩
  have k1 := few_rel (fun c d => RT N T (put1 B x) d c ∧ d < N ∧ put1 B x d = true) ((leadsL N T (put1 B x) N).erase dx) ((leadsL N T B N).filter fun d => decide (¬ ∃ y, y ∈ l ∧ RT N T B d y)) (hnd.erase dx) (fun c hc => ?_) (fun c c' d hc hc' h h' => ?_)
  have k2 := few_rel (fun y d => RT N T B d y ∧ d < N ∧ B d = true) l ((leadsL N T B N).filter fun d => decide (∃ y, y ∈ l ∧ RT N T B d y)) (hpw.imp fun {y z} h e => h (by subst e; exact .refl)) (fun y hy => ?_) (fun y y' d hy hy' h h' => ?_)
  · have h3 := List.length_erase_of_mem hxm
    have h4 := List.length_pos_of_mem hxm
    have h5 := filter_two (fun d => ∃ y, y ∈ l ∧ RT N T B d y) (leadsL N T B N)
    omega
  · obtain ⟨h1, h2, h3⟩ := hl y hy
    obtain ⟨d, d1, d2, d3⟩ := lead_ofE (N := N) (T := T) y h1 h2
    exact ⟨d, List.mem_filter.2 ⟨mem_leads.2 ⟨d1, d2⟩, decide_eq_true ⟨y, hy, d3⟩⟩, d3, d1, d2.1⟩
  · have hr : RT N T B y y' := (rt_backE hT h.2.1 h.2.2 h.1).1.trans h'.1
    have hr' : RT N T B y' y := (rt_backE hT h'.2.1 h'.2.2 h'.1).1.trans h.1
    by_cases e : y = y'
    · exact e
    · exfalso
      have := List.pairwise_iff_getElem.1 hpw
      obtain ⟨i, hi, ei⟩ := List.getElem_of_mem hy
      obtain ⟨j, hj, ej⟩ := List.getElem_of_mem hy'
      rcases Nat.lt_trichotomy i j with g | g | g
      · exact this i j hi hj g (by rw [ei, ej]; exact hr)
      · subst g; exact e (by rw [← ei, ← ej])
      · exact this j i hj hi g (by rw [ei, ej]; exact hr')
  · obtain ⟨hne, hm⟩ := (List.Nodup.mem_erase_iff hnd).1 hc
    obtain ⟨hcN, hcl⟩ := mem_leads.1 hm
    have hcx : c ≠ x := fun e => by
      subst e
      exact hne (lead_one hT x1 x2 hcl x3).symm
    obtain ⟨d, h1, h2, h3⟩ := lead_ofE (N := N) (T := T) c hcN (put1_ne hcl.1 hcx)
    refine ⟨d, List.mem_filter.2 ⟨mem_leads.2 ⟨h1, h2⟩, decide_eq_true ?_⟩, rt_put1 h3, h1, put1_of h2.1⟩
    rintro ⟨y, hy, hr⟩
    have c1 : RT N T (put1 B x) c x := ((rt_backE hT h1 (put1_of h2.1) (rt_put1 h3)).1.trans (rt_put1 hr)).step hx (put1_at B x) (hl y hy).2.2
    have c2 : RT N T (put1 B x) dx c := x3.trans (rt_backE hT hcN hcl.1 c1).1
    exact hne (lead_one hT x1 x2 hcl c2).symm
  · obtain ⟨hcN, hcl⟩ := mem_leads.1 ((List.Nodup.mem_erase_iff hnd).1 hc).2
    obtain ⟨hcN', hcl'⟩ := mem_leads.1 ((List.Nodup.mem_erase_iff hnd).1 hc').2
    exact lead_one hT hcN hcl hcl' ((rt_backE hT h.2.1 h.2.2 h.1).1.trans h'.1)

/-- A cell of the set, by its row and its column. -/
def celB (n m : Nat) (B : Nat → Bool) (R C : Int) : Bool := decide (0 ≤ R ∧ R < n ∧ 0 ≤ C ∧ C < m) && B (R.toNat * m + C.toNat)
theorem celB_at {n m i : Nat} (B : Nat → Bool) (hi : i < n * m) : celB n m B ((i / m : Nat) : Int) ((i % m : Nat) : Int) = B i := by
  have hm : 0 < m := Nat.pos_of_ne_zero fun e => by subst e; omega
  have h1 := div_lt_of n m i hi
  have h2 := Nat.mod_lt i hm
  have h3 := Nat.div_add_mod i m
  rw [Nat.mul_comm] at h3
  obtain ⟨q, eq⟩ : ∃ q, i / m = q := ⟨_, rfl⟩
  obtain ⟨t, et⟩ : ∃ t, i % m = t := ⟨_, rfl⟩
  rw [eq] at h1 h3
  rw [et] at h2 h3
  unfold celB
  rw [eq, et, Int.toNat_natCast, Int.toNat_natCast, h3, decide_eq_true (by omega), Bool.true_and]
theorem celB_out {n m : Nat} {B : Nat → Bool} {R C : Int} (h : ¬ (0 ≤ R ∧ R < n ∧ 0 ≤ C ∧ C < m)) : celB n m B R C = false := by
  unfold celB
  rw [decide_eq_false h, Bool.false_and]
theorem idx_inj {m a b c d : Nat} (hb : b < m) (hd : d < m) (h : a * m + b = c * m + d) : a = c ∧ b = d := by
  have e1 : (a * m + b) / m = a := by rw [Nat.add_comm, Nat.add_mul_div_right _ _ (by omega), Nat.div_eq_of_lt hb, Nat.zero_add]
  have e2 : (c * m + d) / m = c := by rw [Nat.add_comm, Nat.add_mul_div_right _ _ (by omega), Nat.div_eq_of_lt hd, Nat.zero_add]
  have e3 : a = c := by rw [← e1, ← e2, h]
  subst e3
  exact ⟨rfl, by omega⟩
theorem celB_put {n m r c : Nat} (B : Nat → Bool) (hr : r < n) (hc : c < m) (R C : Int) : celB n m (put1 B (r * m + c)) R C = (decide (R = r ∧ C = c) || celB n m B R C) := by
  by_cases h : 0 ≤ R ∧ R < n ∧ 0 ≤ C ∧ C < m
  · unfold celB put1
    rw [decide_eq_true h, Bool.true_and, Bool.true_and]
    congr 1
    rw [Bool.eq_iff_iff, decide_eq_true_eq, decide_eq_true_eq]
    constructor
    · intro e
      have := idx_inj (by omega) hc e
      omega
    · rintro ⟨rfl, rfl⟩
      rw [Int.toNat_natCast, Int.toNat_natCast]
  · rw [celB_out h, celB_out h, decide_eq_false (by omega)]; rfl
/-- The rest of a framed grid. -/
def frB (n m : Nat) (B : Nat → Bool) (k : Nat) : Bool := !celB n m B (((k / (m + 2) : Nat) : Int) - 1) (((k % (m + 2) : Nat) : Int) - 1)
theorem frB_emb {n m i : Nat} (B : Nat → Bool) (hi : i < n * m) : frB n m B (emb m i) = !B i := by
  have hm : 0 < m := Nat.pos_of_ne_zero fun e => by subst e; omega
  unfold frB
  rw [emb_div hm, emb_mod hm, show (((i / m + 1 : Nat) : Int) - 1) = ((i / m : Nat) : Int) by omega, show (((i % m + 1 : Nat) : Int) - 1) = ((i % m : Nat) : Int) by omega, celB_at B hi]
theorem frB_out {n m k : Nat} (B : Nat → Bool) (h : ¬ inF n m k) : frB n m B k = true := by
  unfold frB
  unfold inF at h
  rw [celB_out (by omega)]; rfl
theorem emb_idx {m r c : Nat} (hc : c < m) : emb m (r * m + c) = (r + 1) * (m + 2) + (c + 1) := by
  have e1 : (r * m + c) / m = r := by rw [Nat.add_comm, Nat.add_mul_div_right _ _ (by omega), Nat.div_eq_of_lt hc, Nat.zero_add]
  have e2 : (r * m + c) % m = c := by rw [Nat.add_comm, Nat.add_mul_mod_self_right, Nat.mod_eq_of_lt hc]
  unfold emb
  rw [e1, e2]
theorem idx_lt {n m r c : Nat} (hr : r < n) (hc : c < m) : r * m + c < n * m := by
  have h5 : (r + 1) * m ≤ n * m := Nat.mul_le_mul_right _ hr
  rw [Nat.add_mul] at h5
  omega
theorem frB_put {n m r c : Nat} (B : Nat → Bool) (hr : r < n) (hc : c < m) (hx : B (r * m + c) = false) : frB n m B = put1 (frB n m (put1 B (r * m + c))) (emb m (r * m + c)) := by
  funext k
  have hput : put1 (frB n m (put1 B (r * m + c))) (emb m (r * m + c)) k = (decide (k = emb m (r * m + c)) || frB n m (put1 B (r * m + c)) k) := rfl
  rw [hput]
  by_cases e : k = emb m (r * m + c)
  · rw [e, frB_emb B (idx_lt hr hc), hx]; simp
  · rw [decide_eq_false e, Bool.false_or]
    unfold frB
    rw [celB_put B hr hc, decide_eq_false, Bool.false_or]
    rintro ⟨e1, e2⟩
    apply e
    rw [emb_idx hc]
    have h3 := Nat.div_add_mod k (m + 2)
    obtain ⟨q, eq⟩ : ∃ q, k / (m + 2) = q := ⟨_, rfl⟩
    obtain ⟨t, et⟩ : ∃ t, k % (m + 2) = t := ⟨_, rfl⟩
    rw [eq] at e1 h3
    rw [et] at e2 h3
    obtain rfl : q = r + 1 := by omega
    obtain rfl : t = c + 1 := by omega
    rw [Nat.mul_comm (r + 1)]
    exact h3.symm
theorem Wk.mono {P P' : Int → Int → Prop} {a1 a2 b1 b2 : Int} {w : Int → Int → Bool} (hP : ∀ R C, P R C → P' R C) (h : Wk P a1 a2 b1 b2 w) : Wk P' a1 a2 b1 b2 w := by
  induction h with
  | refl h => exact .refl (hP _ _ h)
  | step _ h1 h2 ih => exact .step ih (hP _ _ h1) h2
theorem sq01 {a b : Int} (h : a * a + b * b ≤ 1) : (a = 0 ∧ b = 0) ∨ (a = 0 ∧ (b = 1 ∨ b = -1)) ∨ (b = 0 ∧ (a = 1 ∨ a = -1)) := by
  have n1 : 0 ≤ a * a := by
    rcases Int.le_total 0 a with g | g
    · exact Int.mul_nonneg g g
    · exact Int.mul_nonneg_of_nonpos_of_nonpos g g
  have n2 : 0 ≤ b * b := by
    rcases Int.le_total 0 b with g | g
    · exact Int.mul_nonneg g g
    · exact Int.mul_nonneg_of_nonpos_of_nonpos g g
  have h1 := (sq1 a).1 (by omega)
  have h2 := (sq1 b).1 (by omega)
  have ha : a = -1 ∨ a = 0 ∨ a = 1 := by omega
  have hb : b = -1 ∨ b = 0 ∨ b = 1 := by omega
  rcases ha with rfl | rfl | rfl <;> rcases hb with rfl | rfl | rfl <;> first | omega | (exfalso; revert h; decide)
theorem touchS_side {m i k : Nat} (h : touchS m i k = true) : (((i / m : Nat) : Int) = (k / m : Nat) ∧ ((i % m : Nat) : Int) = (k % m : Nat)) ∨ sideOf ((i / m : Nat) : Int) ((i % m : Nat) : Int) ((k / m : Nat) : Int) ((k % m : Nat) : Int) := by
  unfold touchS at h
  have := sq01 (of_decide_eq_true h)
  unfold sideOf
  omega
theorem touchS_symE (m i k : Nat) : touchS m i k = touchS m k i := by
  unfold touchS
  congr 1
  rw [show ((i / m : Nat) : Int) - (k / m : Nat) = -(((k / m : Nat) : Int) - (i / m : Nat)) by omega, show ((i % m : Nat) : Int) - (k % m : Nat) = -(((k % m : Nat) : Int) - (i % m : Nat)) by omega, Int.neg_mul_neg, Int.neg_mul_neg]
theorem rt_wk {n m y z : Nat} {B : Nat → Bool} (hy : y < n * m) (hb : B y = true) (h : RT (n * m) (touchS m) B y z) : z < n * m ∧ ∃ w, Wk (fun R C => celB n m B R C = true) ((y / m : Nat) : Int) ((y % m : Nat) : Int) ((z / m : Nat) : Int) ((z % m : Nat) : Int) w := by
  induction h with
  | refl => exact ⟨hy, _, .refl (by show celB n m B _ _ = true; rw [celB_at B hy]; exact hb)⟩
  | @step j k _ hk hbk hT ih =>
    obtain ⟨hj, w, hw⟩ := ih
    refine ⟨hk, ?_⟩
    rcases touchS_side hT with ⟨e1, e2⟩ | hs
    · rw [← e1, ← e2]; exact ⟨w, hw⟩
    · exact ⟨_, hw.step (by show celB n m B _ _ = true; rw [celB_at B hk]; exact hbk) hs⟩

/-- The eight cells around one, from the left one on. -/
def pR (k : Nat) : Int := [0, -1, -1, -1, 0, 1, 1, 1].getD k 0
def pC (k : Nat) : Int := [-1, -1, 0, 1, 1, 1, 0, -1].getD k 0
/-- On which side of a closed path from z by the cell to y the eight cells are. -/
def gB (y z e : Nat) : Bool := [(y == 6) ^^ (z == 6), ((y == 4) ^^ (z == 4)) ^^ ((y == 2) ^^ (z == 2)), (y == 4) ^^ (z == 4), (y == 4) ^^ (z == 4), false, false, false, (y == 6) ^^ (z == 6)].getD e false
def isSide (k : Nat) : Prop := k = 0 ∨ k = 2 ∨ k = 4 ∨ k = 6
theorem side_of (r c : Int) {k : Nat} (hk : isSide k) : sideOf (r + pR k) (c + pC k) r c ∧ sideOf r c (r + pR k) (c + pC k) := by
  unfold sideOf
  rcases hk with rfl | rfl | rfl | rfl <;> simp [pR, pC] <;> omega
theorem cross_at (r c : Int) {k : Nat} (hk : isSide k) :
    crossB r c (r + pR k) (c + pC k) r c = false ∧ crossB r (c - 1) (r + pR k) (c + pC k) r c = (k == 6) ∧ crossB (r - 1) c (r + pR k) (c + pC k) r c = false ∧ crossB (r - 1) (c - 1) (r + pR k) (c + pC k) r c = (k == 2) ∧ rightB r c (r + pR k) (c + pC k) = (k == 4) := by
  unfold crossB rightB
  rcases hk with rfl | rfl | rfl | rfl <;> simp [pR, pC] <;> omega
theorem cross_sym (R C b1 b2 c1 c2 : Int) : crossB R C b1 b2 c1 c2 = crossB R C c1 c2 b1 b2 := by
  unfold crossB
  rw [Bool.eq_iff_iff, decide_eq_true_eq, decide_eq_true_eq]
  omega
/-- Where the eight cells lie. -/
theorem around_w {P P' : Int → Int → Prop} {r c : Int} {y z : Nat} {w0 : Int → Int → Bool} (hP : ∀ R C, P R C → P' R C) (hx : ¬ P r c) (hx' : P' r c) (hy : isSide y) (hz : isSide z) (h : Wk P (r + pR y) (c + pC y) (r + pR z) (c + pC z) w0) (hyP : P (r + pR y) (c + pC y)) :
    ∃ W, Wk P' (r + pR y) (c + pC y) (r + pR y) (c + pC y) W ∧ ∀ e, e < 8 → ¬ P' (r + pR e) (c + pC e) → W (r + pR e) (c + pC e) = (w0 r c ^^ gB y z e) := by
  have hcl := ((h.mono hP).step hx' (side_of r c hz).1).step (hP _ _ hyP) (side_of r c hy).2
  have f1 := h.col (R := r) (C := c - 1) (.inl (by rw [show c - 1 + 1 = c by omega]; exact hx))
  have f2 := h.col (R := r - 1) (C := c - 1) (.inr (by rw [show c - 1 + 1 = c by omega, show r - 1 + 1 = r by omega]; exact hx))
  have f3 := h.row (R := r) (C := c) hx
  rw [show c - 1 + 1 = c by omega] at f1 f2
  obtain ⟨y1, y2, y3, y4, y5⟩ := cross_at r c hy
  obtain ⟨z1, z2, z3, z4, z5⟩ := cross_at r c hz
  rw [y5, z5] at f3
  obtain ⟨W, eW⟩ : ∃ W : Int → Int → Bool, (fun R C => (fun R C => w0 R C ^^ crossB R C (r + pR z) (c + pC z) r c) R C ^^ crossB R C r c (r + pR y) (c + pC y)) = W := ⟨_, rfl⟩
  have hW : ∀ R C, W R C = ((w0 R C ^^ crossB R C (r + pR z) (c + pC z) r c) ^^ crossB R C (r + pR y) (c + pC y) r c) := fun R C => by
    rw [← eW, cross_sym R C (r + pR y)]
  rw [eW] at hcl
  refine ⟨W, hcl, ?_⟩
  have g1 := hW r c
  have g2 := hW r (c - 1)
  have g3 := hW (r - 1) c
  have g4 := hW (r - 1) (c - 1)
  rw [y1, z1] at g1
  rw [y2, z2, f1] at g2
  rw [y3, z3] at g3
  rw [y4, z4, f2] at g4
  clear y1 y2 y3 y4 y5 z1 z2 z3 z4 z5 f1 f2 hW eW
  have rowW : ∀ R C, ¬ P' R C → W R C = W (R - 1) C := fun R C hz => by
    have := hcl.row hz
    revert this
    cases W R C <;> cases W (R - 1) C <;> cases rightB R C (r + pR y) (c + pC y) <;> simp
  intro e he hne
  have e8 : e = 0 ∨ e = 1 ∨ e = 2 ∨ e = 3 ∨ e = 4 ∨ e = 5 ∨ e = 6 ∨ e = 7 := by omega
  obtain ⟨α, eα⟩ : ∃ α, w0 r c = α := ⟨_, rfl⟩
  obtain ⟨β, eβ⟩ : ∃ β, w0 (r - 1) c = β := ⟨_, rfl⟩
  rw [eα, eβ] at f3
  rw [eα] at g1 g2 ⊢
  rw [eβ] at g3 g4
  rcases e8 with rfl | rfl | rfl | rfl | rfl | rfl | rfl | rfl
  · rw [show r + pR 0 = r by simp [pR], show c + pC 0 = c - 1 by simp [pC]; omega, g2]
    simp only [gB, List.getD_cons_zero]
    cases (y == 6) <;> cases (z == 6) <;> cases α <;> rfl
  · rw [show r + pR 1 = r - 1 by simp [pR]; omega, show c + pC 1 = c - 1 by simp [pC]; omega, g4]
    simp only [gB, List.getD_cons_zero, List.getD_cons_succ]
    revert f3
    cases (y == 2) <;> cases (z == 2) <;> cases (y == 4) <;> cases (z == 4) <;> cases α <;> cases β <;> simp
  · rw [show r + pR 2 = r - 1 by simp [pR]; omega, show c + pC 2 = c by simp [pC], g3]
    simp only [gB, List.getD_cons_zero, List.getD_cons_succ]
    revert f3
    cases (y == 4) <;> cases (z == 4) <;> cases α <;> cases β <;> simp
  · rw [show r + pR 3 = r - 1 by simp [pR]; omega, show c + pC 3 = c + 1 by simp [pC]] at hne ⊢
    rw [← hcl.col (.inl hne), g3]
    simp only [gB, List.getD_cons_zero, List.getD_cons_succ]
    revert f3
    cases (y == 4) <;> cases (z == 4) <;> cases α <;> cases β <;> simp
  · rw [show r + pR 4 = r by simp [pR], show c + pC 4 = c + 1 by simp [pC]] at hne ⊢
    rw [← hcl.col (.inl hne), g1]
    simp [gB]
  · rw [show r + pR 5 = r + 1 by simp [pR], show c + pC 5 = c + 1 by simp [pC]] at hne ⊢
    rw [rowW _ _ hne, show r + 1 - 1 = r by omega, ← hcl.col (.inr hne), g1]
    simp [gB]
  · rw [show r + pR 6 = r + 1 by simp [pR], show c + pC 6 = c by simp [pC]] at hne ⊢
    rw [rowW _ _ hne, show r + 1 - 1 = r by omega, g1]
    simp [gB]
  · rw [show r + pR 7 = r + 1 by simp [pR], show c + pC 7 = c - 1 by simp [pC]; omega] at hne ⊢
    rw [rowW _ _ hne, show r + 1 - 1 = r by omega, g2]
    simp only [gB, List.getD_cons_zero, List.getD_cons_succ]
    cases (y == 6) <;> cases (z == 6) <;> cases α <;> rfl
theorem rt_sameW {n m a f : Nat} {B : Nat → Bool} {a1 a2 : Int} {W : Int → Int → Bool} (hcl : Wk (fun R C => celB n m B R C = true) a1 a2 a1 a2 W) (h : RT ((n + 2) * (m + 2)) (touchB (m + 2) true) (frB n m B) a f) (ha : frB n m B a = true) :
    W (((a / (m + 2) : Nat) : Int) - 1) (((a % (m + 2) : Nat) : Int) - 1) = W (((f / (m + 2) : Nat) : Int) - 1) (((f % (m + 2) : Nat) : Int) - 1) ∧ frB n m B f = true := by
  induction h with
  | refl => exact ⟨rfl, ha⟩
  | @step j k _ hk hbk hT ih =>
    refine ⟨ih.1.trans ?_, hbk⟩
    have no : ∀ i, frB n m B i = true → ¬ celB n m B (((i / (m + 2) : Nat) : Int) - 1) (((i % (m + 2) : Nat) : Int) - 1) = true := fun i hi hc => by
      unfold frB at hi
      rw [hc] at hi
      cases hi
    have ht := touch2.1 hT
    exact hcl.same (no j ih.2) (no k hbk) (by omega) (by omega)

/-- Of a list those that fit with all that were taken before. -/
def greedy (ok : Nat → Nat → Bool) : List Nat → List Nat → List Nat
  | acc, [] => acc
  | acc, y :: ys => greedy ok (if acc.all (fun z => ok z y) = true then acc ++ [y] else acc) ys
theorem greedy_pw (ok : Nat → Nat → Bool) : ∀ (l acc : List Nat), acc.Pairwise (fun z y => ok z y = true) → (greedy ok acc l).Pairwise fun z y => ok z y = true
  | [], _, h => h
  | y :: ys, acc, h => by
    rw [greedy]
    refine greedy_pw ok ys _ ?_
    by_cases e : acc.all (fun z => ok z y) = true
    · rw [if_pos e]
      exact List.pairwise_append.2 ⟨h, List.pairwise_singleton _ _, fun a ha b hb => by
        obtain rfl := List.mem_singleton.1 hb
        exact List.all_eq_true.1 e a ha⟩
    · rw [if_neg e]; exact h
theorem greedy_mem (ok : Nat → Nat → Bool) : ∀ (l acc : List Nat) (y : Nat), y ∈ greedy ok acc l → y ∈ acc ∨ y ∈ l
  | [], _, _, h => .inl h
  | a :: ys, acc, y, h => by
    rw [greedy] at h
    rcases greedy_mem ok ys _ y h with g | g
    · by_cases e : acc.all (fun z => ok z a) = true
      · rw [if_pos e, List.mem_append, List.mem_singleton] at g
        rcases g with g | rfl
        · exact .inl g
        · exact .inr (by simp)
      · rw [if_neg e] at g; exact .inl g
    · exact .inr (by simp [g])
def tab8 (b0 b1 b2 b3 b4 b5 b6 b7 : Bool) (k : Nat) : Bool := [b0, b1, b2, b3, b4, b5, b6, b7].getD k false
/-- Which sides are joined: a table. -/
def tabJ (j02 j04 j06 j24 j26 j46 : Bool) (y z : Nat) : Bool :=
  [false, j02, j04, j06, j02, false, j24, j26, j04, j24, false, j46, j06, j26, j46, false].getD (y / 2 * 4 + z / 2) false
def okJ (b0 b2 b4 b6 j02 j04 j06 j24 j26 j46 : Bool) : Bool :=
  (!j02 || (b0 && b2)) && (!j04 || (b0 && b4)) && (!j06 || (b0 && b6)) && (!j24 || (b2 && b4)) && (!j26 || (b2 && b6)) && (!j46 || (b4 && b6)) &&
  (!(j02 && j24) || j04) && (!(j02 && j04) || j24) && (!(j04 && j24) || j02) && (!(j02 && j26) || j06) && (!(j02 && j06) || j26) && (!(j06 && j26) || j02) &&
  (!(j04 && j46) || j06) && (!(j04 && j06) || j46) && (!(j06 && j46) || j04) && (!(j24 && j46) || j26) && (!(j24 && j26) || j46) && (!(j26 && j46) || j24)
def sidesL : List Nat := [0, 2, 4, 6]
def pairsL : List (Nat × Nat) := [(0, 2), (0, 4), (0, 6), (2, 4), (2, 6), (4, 6)]
/-- Parted by a path that is there. -/
def partB (J : Nat → Nat → Bool) (e f : Nat) : Bool := pairsL.any fun p => J p.1 p.2 && (gB p.1 p.2 e ^^ gB p.1 p.2 f)
def four (M : Nat → Bool) (J : Nat → Nat → Bool) : List Nat := greedy (fun y z => !J y z) [] (sidesL.filter M)
def eight (M : Nat → Bool) (J : Nat → Nat → Bool) : List Nat := greedy (partB J) [] ((List.range 8).filter fun e => !M e)
def b01 (b : Bool) : Nat := if b = true then 1 else 0
def sidesN (M : Nat → Bool) : Nat := b01 (M 0) + b01 (M 2) + b01 (M 4) + b01 (M 6)
def sqsN (M : Nat → Bool) : Nat := b01 (M 0 && M 1 && M 2) + b01 (M 2 && M 3 && M 4) + b01 (M 4 && M 5 && M 6) + b01 (M 6 && M 7 && M 0)
theorem euler_chk : ∀ b0 b2 b4 b6 j02 j04 j06 j24 j26 j46 : Bool, okJ b0 b2 b4 b6 j02 j04 j06 j24 j26 j46 = true → ∀ b1 b3 b5 b7 : Bool,
    1 + sidesN (tab8 b0 b1 b2 b3 b4 b5 b6 b7) ≤ (four (tab8 b0 b1 b2 b3 b4 b5 b6 b7) (tabJ j02 j04 j06 j24 j26 j46)).length + (eight (tab8 b0 b1 b2 b3 b4 b5 b6 b7) (tabJ j02 j04 j06 j24 j26 j46)).length + sqsN (tab8 b0 b1 b2 b3 b4 b5 b6 b7) := by decide +kernel
end Go.Proofs.YtaeenedjmakelaaDoor
