/- Euler's formula for sets of cells (FnLandsAt): pieces less holes are cells less pairs and more squares. -/
import Derived.Test.YtaeenedjmakelaaDoorEulerD
import Derived.Test.YtaeenedjmakelaaDoorCountL
namespace Go.Proofs.YtaeenedjmakelaaDoor
open Go.RowKit

/-! ## What is counted -/
def locI (a b c d : Bool) : Int := bit a - bit (a && b) - bit (a && c) + bit ((a && b) && (c && d))
def quadI (n m : Nat) (B : Nat → Bool) (R C : Int) : Int := locI (celB n m B R C) (celB n m B R (C + 1)) (celB n m B (R + 1) C) (celB n m B (R + 1) (C + 1))
def chiI (n m : Nat) (B : Nat → Bool) : Int := sumTo (fun r => sumTo (fun c => quadI n m B r c) m) n
theorem sumTo_one (x : Int) (i : Nat) : ∀ K, sumTo (fun j => if j = i then x else 0) K = if i < K then x else 0
  | 0 => by simp [sumTo]
  | K + 1 => by
    rw [sumTo, sumTo_one x i K]
    by_cases e : K = i
    · subst e; simp
    · rw [if_neg e]
      by_cases h : i < K
      · rw [if_pos h, if_pos (by omega)]; omega
      · rw [if_neg h, if_neg (by omega)]; omega
theorem sum_two (g : Int → Int) (i K : Nat) (hi : i < K) (h1 : g (-1) = 0) (h0 : ∀ j : Nat, j < K → j ≠ i → j + 1 ≠ i → g j = 0) : sumTo (fun j => g j) K = g i + g ((i : Int) - 1) := by
  have e : sumTo (fun j => g j) K = sumTo (fun j => (if j = i then g i else 0) + (if j = i - 1 then (if i = 0 then 0 else g ((i : Int) - 1)) else 0)) K := sumTo_congr fun j hj => by
    by_cases e1 : j = i
    · subst e1
      rw [if_pos rfl]
      by_cases e2 : j = 0
      · subst e2; simp
      · rw [if_neg (show ¬ j = j - 1 by omega)]; omega
    · rw [if_neg e1]
      by_cases e2 : j + 1 = i
      · subst e2
        rw [if_pos (show j = j + 1 - 1 by omega), if_neg (by omega), Int.natCast_succ, show ((j : Int) + 1 - 1) = j by omega]; omega
      · rw [h0 j hj e1 e2]
        by_cases e3 : i = 0
        · subst e3; simp
        · rw [if_neg (show ¬ j = i - 1 by omega)]; rfl
  rw [e, sumTo_add, sumTo_one, sumTo_one, if_pos hi, if_pos (by omega)]
  by_cases e2 : i = 0
  · subst e2
    rw [if_pos rfl]
    show _ = g 0 + g (-1)
    rw [h1]; rfl
  · rw [if_neg e2]
theorem loc1 (E S Q : Bool) : locI true E S Q - locI false E S Q = 1 - bit E - bit S + bit (E && Q && S) := by cases E <;> cases S <;> cases Q <;> rfl
theorem loc2 (W U S : Bool) : locI W true U S - locI W false U S = - bit W + bit (S && U && W) := by cases W <;> cases U <;> cases S <;> rfl
theorem loc3 (N V E : Bool) : locI N V true E - locI N V false E = - bit N + bit (N && V && E) := by cases N <;> cases V <;> cases E <;> rfl
theorem loc4 (Z N W : Bool) : locI Z N W true - locI Z N W false = bit (W && Z && N) := by cases Z <;> cases N <;> cases W <;> rfl
theorem b01_bit (b : Bool) : ((b01 b : Nat) : Int) = bit b := by cases b <;> rfl
theorem p_bd {k : Nat} (hk : k < 8) : -1 ≤ pR k ∧ pR k ≤ 1 ∧ -1 ≤ pC k ∧ pC k ≤ 1 ∧ ¬ (pR k = 0 ∧ pC k = 0) := by
  have e8 : k = 0 ∨ k = 1 ∨ k = 2 ∨ k = 3 ∨ k = 4 ∨ k = 5 ∨ k = 6 ∨ k = 7 := by omega
  rcases e8 with rfl | rfl | rfl | rfl | rfl | rfl | rfl | rfl <;> decide
/-- The neighbourhood of a cell. -/
def maskB (n m : Nat) (B : Nat → Bool) (r c : Nat) : Nat → Bool :=
  tab8 (celB n m B (r + pR 0) (c + pC 0)) (celB n m B (r + pR 1) (c + pC 1)) (celB n m B (r + pR 2) (c + pC 2)) (celB n m B (r + pR 3) (c + pC 3)) (celB n m B (r + pR 4) (c + pC 4)) (celB n m B (r + pR 5) (c + pC 5)) (celB n m B (r + pR 6) (c + pC 6)) (celB n m B (r + pR 7) (c + pC 7))
theorem maskB_at (n m : Nat) (B : Nat → Bool) (r c : Nat) {k : Nat} (hk : k < 8) : maskB n m B r c k = celB n m B (r + pR k) (c + pC k) := by
  have e8 : k = 0 ∨ k = 1 ∨ k = 2 ∨ k = 3 ∨ k = 4 ∨ k = 5 ∨ k = 6 ∨ k = 7 := by omega
  rcases e8 with rfl | rfl | rfl | rfl | rfl | rfl | rfl | rfl <;> rfl
theorem chi_put {n m r c : Nat} (B : Nat → Bool) (hr : r < n) (hc : c < m) (hx : B (r * m + c) = false) :
    chiI n m (put1 B (r * m + c)) + (sidesN (maskB n m B r c) : Nat) = chiI n m B + 1 + (sqsN (maskB n m B r c) : Nat) := by
  obtain ⟨B', eB⟩ : ∃ B', put1 B (r * m + c) = B' := ⟨_, rfl⟩
  have hp : ∀ R C : Int, celB n m B' R C = (decide (R = r ∧ C = c) || celB n m B R C) := fun R C => by rw [← eB]; exact celB_put B hr hc R C
  have hpn : ∀ R C : Int, ¬ (R = r ∧ C = c) → celB n m B' R C = celB n m B R C := fun R C h => by rw [hp, decide_eq_false h, Bool.false_or]
  have hx1 : celB n m B' r c = true := by rw [hp, decide_eq_true ⟨rfl, rfl⟩, Bool.true_or]
  have hx0 : celB n m B r c = false := by
    unfold celB
    rw [Int.toNat_natCast, Int.toNat_natCast, hx, Bool.and_false]
  rw [eB]
  obtain ⟨dl, edl⟩ : ∃ dl : Int → Int → Int, ∀ R C, dl R C = quadI n m B' R C - quadI n m B R C := ⟨fun R C => quadI n m B' R C - quadI n m B R C, fun _ _ => rfl⟩
  have far : ∀ R C : Int, ¬ (R = r ∧ C = c) → ¬ (R = r ∧ C + 1 = c) → ¬ (R + 1 = r ∧ C = c) → ¬ (R + 1 = r ∧ C + 1 = c) → dl R C = 0 := fun R C h1 h2 h3 h4 => by
    rw [edl]; unfold quadI
    rw [hpn _ _ h1, hpn _ _ h2, hpn _ _ h3, hpn _ _ h4]; omega
  have outR : ∀ R C : Int, (R < 0 ∨ C < 0) → dl R C = 0 := fun R C h => by
    rw [edl]; unfold quadI
    rw [celB_out (B := B') (R := R) (C := C) (by omega), celB_out (B := B) (R := R) (C := C) (by omega)]
    rfl
  have hsum : chiI n m B' = chiI n m B + (dl r c + dl r ((c : Int) - 1) + (dl ((r : Int) - 1) c + dl ((r : Int) - 1) ((c : Int) - 1))) := by
    have e1 : chiI n m B' = sumTo (fun i => sumTo (fun j => quadI n m B i j) m + sumTo (fun j => dl i j) m) n := sumTo_congr fun i _ => by
      rw [← sumTo_add]
      exact sumTo_congr fun j _ => by rw [edl]; omega
    have e2 : sumTo (fun i : Nat => sumTo (fun j => dl i j) m) n = sumTo (fun i : Nat => (fun R : Int => dl R c + dl R ((c : Int) - 1)) i) n := sumTo_congr fun i _ =>
      sum_two (fun C => dl i C) c m hc (outR _ _ (.inr (by omega))) fun j _ h1 h2 => far _ _ (by omega) (by omega) (by omega) (by omega)
    rw [e1, sumTo_add, e2, sum_two (fun R : Int => dl R c + dl R ((c : Int) - 1)) r n hr (by show dl (-1) c + dl (-1) ((c : Int) - 1) = 0; rw [outR _ _ (.inl (by omega)), outR _ _ (.inl (by omega))]; rfl) fun j _ h1 h2 => by
      show dl j c + dl j ((c : Int) - 1) = 0
      rw [far _ _ (by omega) (by omega) (by omega) (by omega), far _ _ (by omega) (by omega) (by omega) (by omega)]; rfl]
    rfl
  have m0 : maskB n m B r c 0 = celB n m B r ((c : Int) - 1) := by rw [maskB_at _ _ _ _ _ (by omega)]; congr 1 <;> simp [pR, pC] <;> omega
  have m1 : maskB n m B r c 1 = celB n m B ((r : Int) - 1) ((c : Int) - 1) := by rw [maskB_at _ _ _ _ _ (by omega)]; congr 1 <;> simp [pR, pC] <;> omega
  have m2 : maskB n m B r c 2 = celB n m B ((r : Int) - 1) c := by rw [maskB_at _ _ _ _ _ (by omega)]; congr 1 <;> simp [pR, pC] <;> omega
  have m3 : maskB n m B r c 3 = celB n m B ((r : Int) - 1) ((c : Int) + 1) := by rw [maskB_at _ _ _ _ _ (by omega)]; congr 1 <;> simp [pR, pC] <;> omega
  have m4 : maskB n m B r c 4 = celB n m B r ((c : Int) + 1) := by rw [maskB_at _ _ _ _ _ (by omega)]; congr 1 <;> simp [pR, pC]
  have m5 : maskB n m B r c 5 = celB n m B ((r : Int) + 1) ((c : Int) + 1) := by rw [maskB_at _ _ _ _ _ (by omega)]; congr 1 <;> simp [pR, pC]
  have m6 : maskB n m B r c 6 = celB n m B ((r : Int) + 1) c := by rw [maskB_at _ _ _ _ _ (by omega)]; congr 1 <;> simp [pR, pC]
  have m7 : maskB n m B r c 7 = celB n m B ((r : Int) + 1) ((c : Int) - 1) := by rw [maskB_at _ _ _ _ _ (by omega)]; congr 1 <;> simp [pR, pC] <;> omega
  have d1 : dl r c = 1 - bit (maskB n m B r c 4) - bit (maskB n m B r c 6) + bit (maskB n m B r c 4 && maskB n m B r c 5 && maskB n m B r c 6) := by
    rw [edl, m4, m5, m6]; unfold quadI
    rw [hx1, hx0, hpn _ _ (by omega), hpn _ _ (by omega), hpn _ _ (by omega)]
    exact loc1 _ _ _
  have d2 : dl r ((c : Int) - 1) = - bit (maskB n m B r c 0) + bit (maskB n m B r c 6 && maskB n m B r c 7 && maskB n m B r c 0) := by
    rw [edl, m0, m6, m7]; unfold quadI
    rw [show (c : Int) - 1 + 1 = c by omega, hx1, hx0, hpn _ _ (by omega), hpn _ _ (by omega), hpn _ _ (by omega)]
    exact loc2 _ _ _
  have d3 : dl ((r : Int) - 1) c = - bit (maskB n m B r c 2) + bit (maskB n m B r c 2 && maskB n m B r c 3 && maskB n m B r c 4) := by
    rw [edl, m2, m3, m4]; unfold quadI
    rw [show (r : Int) - 1 + 1 = r by omega, hx1, hx0, hpn _ _ (by omega), hpn _ _ (by omega), hpn _ _ (by omega)]
    exact loc3 _ _ _
  have d4 : dl ((r : Int) - 1) ((c : Int) - 1) = bit (maskB n m B r c 0 && maskB n m B r c 1 && maskB n m B r c 2) := by
    rw [edl, m0, m1, m2]; unfold quadI
    rw [show (r : Int) - 1 + 1 = r by omega, show (c : Int) - 1 + 1 = c by omega, hx1, hx0, hpn _ _ (by omega), hpn _ _ (by omega), hpn _ _ (by omega)]
    exact loc4 _ _ _
  rw [hsum, d1, d2, d3, d4]
  unfold sidesN sqsN
  simp only [Int.natCast_add, b01_bit]
  omega

/-! ## The step -/
theorem greedy_sub (ok : Nat → Nat → Bool) : ∀ (l acc : List Nat), (greedy ok acc l).Sublist (acc ++ l)
  | [], acc => by rw [greedy, List.append_nil]; exact List.Sublist.refl _
  | y :: ys, acc => by
    rw [greedy]
    by_cases e : acc.all (fun z => ok z y) = true
    · rw [if_pos e]
      have := greedy_sub ok ys (acc ++ [y])
      rwa [List.append_assoc] at this
    · rw [if_neg e]
      exact (greedy_sub ok ys acc).trans (List.Sublist.append_left (List.sublist_cons_self _ _) acc)
noncomputable def eulD (n m : Nat) (B : Nat → Bool) : Int := cntT (n * m) (touchS m) B (n * m) - (cntT ((n + 2) * (m + 2)) (touchB (m + 2) true) (frB n m B) ((n + 2) * (m + 2)) - 1) - chiI n m B
def cell4 (m r c k : Nat) : Nat := (r + pR k).toNat * m + (c + pC k).toNat
def cell8 (m r c k : Nat) : Nat := (r + 1 + pR k).toNat * (m + 2) + (c + 1 + pC k).toNat
theorem idx_div {m r c : Nat} (hc : c < m) : (r * m + c) / m = r := by rw [Nat.add_comm, Nat.add_mul_div_right _ _ (by omega), Nat.div_eq_of_lt hc, Nat.zero_add]
theorem idx_mod {m r c : Nat} (hc : c < m) : (r * m + c) % m = c := by rw [Nat.add_comm, Nat.add_mul_mod_self_right, Nat.mod_eq_of_lt hc]
theorem cell4_ok {n m r c k : Nat} {B : Nat → Bool} (h : celB n m B (r + pR k) (c + pC k) = true) : cell4 m r c k < n * m ∧ B (cell4 m r c k) = true ∧ ((cell4 m r c k / m : Nat) : Int) = r + pR k ∧ ((cell4 m r c k % m : Nat) : Int) = c + pC k := by
  by_cases hin : 0 ≤ (r : Int) + pR k ∧ (r : Int) + pR k < n ∧ 0 ≤ (c : Int) + pC k ∧ (c : Int) + pC k < m
  · unfold celB at h
    rw [decide_eq_true hin, Bool.true_and] at h
    unfold cell4
    refine ⟨idx_lt (by omega) (by omega), h, ?_, ?_⟩
    · rw [idx_div (by omega)]; omega
    · rw [idx_mod (by omega)]; omega
  · rw [celB_out hin] at h; cases h
theorem cell4_touch {n m r c k : Nat} {B : Nat → Bool} (hc : c < m) (hk : isSide k) (h : celB n m B (r + pR k) (c + pC k) = true) : touchS m (cell4 m r c k) (r * m + c) = true := by
  obtain ⟨_, _, h3, h4⟩ := cell4_ok h
  unfold touchS
  rw [h3, h4, idx_div hc, idx_mod hc, show (r : Int) + pR k - r = pR k by omega, show (c : Int) + pC k - c = pC k by omega]
  rcases hk with rfl | rfl | rfl | rfl <;> decide
theorem cell8_ok {n m r c k : Nat} (hr : r < n) (hc : c < m) (hk : k < 8) : cell8 m r c k < (n + 2) * (m + 2) ∧ ((cell8 m r c k / (m + 2) : Nat) : Int) - 1 = r + pR k ∧ ((cell8 m r c k % (m + 2) : Nat) : Int) - 1 = c + pC k := by
  obtain ⟨h1, h2, h3, h4, _⟩ := p_bd hk
  unfold cell8
  refine ⟨idx_lt (by omega) (by omega), ?_, ?_⟩
  · rw [idx_div (by omega)]; omega
  · rw [idx_mod (by omega)]; omega
theorem cell8_touch {n m r c k : Nat} (hr : r < n) (hc : c < m) (hk : k < 8) : touchB (m + 2) true (cell8 m r c k) (emb m (r * m + c)) = true := by
  obtain ⟨_, h1, h2⟩ := cell8_ok hr hc hk
  obtain ⟨b1, b2, b3, b4, _⟩ := p_bd hk
  rw [touch2, emb_div (by omega), emb_mod (by omega), idx_div hc, idx_mod hc]
  generalize cell8 m r c k / (m + 2) = q at *
  generalize cell8 m r c k % (m + 2) = t at *
  omega
open Classical in
theorem euler_step {n m r c : Nat} {B : Nat → Bool} (hr : r < n) (hc : c < m) (hx : B (r * m + c) = false) : eulD n m (put1 B (r * m + c)) ≤ eulD n m B := by
  have hxN := idx_lt hr hc
  have hm0 : 0 < m := by omega
  have h3 := chi_put B hr hc hx
  have hM : ∀ k, k < 8 → maskB n m B r c k = celB n m B (r + pR k) (c + pC k) := fun k hk => maskB_at n m B r c hk
  obtain ⟨jj, ejj⟩ : ∃ jj : Nat → Nat → Bool, ∀ y z, jj y z = (decide (RT (n * m) (touchS m) B (cell4 m r c y) (cell4 m r c z)) && (maskB n m B r c y && maskB n m B r c z)) := ⟨fun y z => _, fun _ _ => rfl⟩
  have jiff : ∀ y z, jj y z = true ↔ RT (n * m) (touchS m) B (cell4 m r c y) (cell4 m r c z) ∧ maskB n m B r c y = true ∧ maskB n m B r c z = true := fun y z => by
    rw [ejj, Bool.and_eq_true, Bool.and_eq_true, decide_eq_true_eq]
  have c4 : ∀ k, k < 8 → maskB n m B r c k = true → cell4 m r c k < n * m ∧ B (cell4 m r c k) = true ∧ ((cell4 m r c k / m : Nat) : Int) = r + pR k ∧ ((cell4 m r c k % m : Nat) : Int) = c + pC k := fun k hk h => cell4_ok (by rw [← hM k hk]; exact h)
  have jsym : ∀ y z, y < 8 → jj y z = true → jj z y = true := fun y z hy h => by
    obtain ⟨h1, h2, h3⟩ := (jiff y z).1 h
    obtain ⟨g1, g2, _⟩ := c4 y hy h2
    exact (jiff z y).2 ⟨(rt_backE (touchS_symE m) g1 g2 h1).1, h3, h2⟩
  have jtr : ∀ y z u, jj y z = true → jj z u = true → jj y u = true := fun y z u h g => by
    obtain ⟨h1, h2, h3⟩ := (jiff y z).1 h
    obtain ⟨g1, g2, g3⟩ := (jiff z u).1 g
    exact (jiff y u).2 ⟨h1.trans g1, h2, g3⟩
  have imp2 : ∀ a b : Bool, (a = true → b = true) → (!a || b) = true := fun a b h => by cases a <;> simp_all
  have imp3 : ∀ a b d : Bool, (a = true → b = true → d = true) → (!(a && b) || d) = true := fun a b d h => by cases a <;> cases b <;> simp_all
  have hok : okJ (maskB n m B r c 0) (maskB n m B r c 2) (maskB n m B r c 4) (maskB n m B r c 6) (jj 0 2) (jj 0 4) (jj 0 6) (jj 2 4) (jj 2 6) (jj 4 6) = true := by
    have two : ∀ y z, (!jj y z || (maskB n m B r c y && maskB n m B r c z)) = true := fun y z => imp2 _ _ fun h => by
      obtain ⟨_, h2, h3⟩ := (jiff y z).1 h
      rw [h2, h3]; rfl
    have t1 : ∀ y z u, (!(jj y z && jj z u) || jj y u) = true := fun y z u => imp3 _ _ _ (jtr y z u)
    have t2 : ∀ y z u, y < 8 → (!(jj y z && jj y u) || jj z u) = true := fun y z u hy => imp3 _ _ _ fun h g => jtr z y u (jsym y z hy h) g
    have t3 : ∀ y z u, z < 8 → (!(jj y u && jj z u) || jj y z) = true := fun y z u hz => imp3 _ _ _ fun h g => jtr y u z h (jsym z u hz g)
    unfold okJ
    rw [two, two, two, two, two, two, t1, t2 0 2 4 (by omega), t3 0 2 4 (by omega), t1 0 2 6, t2 0 2 6 (by omega), t3 0 2 6 (by omega), t1 0 4 6, t2 0 4 6 (by omega), t3 0 4 6 (by omega), t1 2 4 6, t2 2 4 6 (by omega), t3 2 4 6 (by omega)]
    rfl
  have h4 := euler_chk _ _ _ _ _ _ _ _ _ _ hok (maskB n m B r c 1) (maskB n m B r c 3) (maskB n m B r c 5) (maskB n m B r c 7)
  have etab : tab8 (maskB n m B r c 0) (maskB n m B r c 1) (maskB n m B r c 2) (maskB n m B r c 3) (maskB n m B r c 4) (maskB n m B r c 5) (maskB n m B r c 6) (maskB n m B r c 7) = maskB n m B r c := rfl
  rw [etab] at h4
  obtain ⟨J, eJ⟩ : ∃ J, tabJ (jj 0 2) (jj 0 4) (jj 0 6) (jj 2 4) (jj 2 6) (jj 4 6) = J := ⟨_, rfl⟩
  have hJ : ∀ y z, isSide y → isSide z → y < z → J y z = jj y z := fun y z hy hz hlt => by
    rw [← eJ]
    rcases hy with rfl | rfl | rfl | rfl <;> rcases hz with rfl | rfl | rfl | rfl <;> first | rfl | (exfalso; omega)
  rw [eJ] at h4
  obtain ⟨M, eM⟩ : ∃ M, maskB n m B r c = M := ⟨_, rfl⟩
  rw [eM] at h3 h4 hM jiff c4
  clear hok etab eJ ejj jtr imp2 imp3
  have side8 : ∀ k, isSide k → k < 8 := fun k hk => by rcases hk with rfl | rfl | rfl | rfl <;> omega
  -- the pieces of the set
  have k1 := cnt_put1_list (touchS_symE m) hxN ((four M J).map (cell4 m r c)) (fun y hy => by
      obtain ⟨k, hk, rfl⟩ := List.mem_map.1 hy
      rcases greedy_mem _ _ _ _ hk with h | h
      · cases h
      · obtain ⟨h1, h2⟩ := List.mem_filter.1 h
        have hs : isSide k := by simpa [sidesL, isSide] using h1
        obtain ⟨g1, g2, _⟩ := c4 k (side8 k hs) h2
        exact ⟨g1, g2, cell4_touch (B := B) (n := n) hc hs (by rw [← hM k (side8 k hs)]; exact h2)⟩) (by
      rw [List.pairwise_map]
      have p1 : (four M J).Pairwise fun y z => (!J y z) = true := greedy_pw _ _ _ List.Pairwise.nil
      have p2 : (four M J).Pairwise fun y z => y < z := List.Pairwise.sublist ((greedy_sub _ _ _).trans (by rw [List.nil_append]; exact List.filter_sublist)) (show List.Pairwise (fun y z => y < z) [0, 2, 4, 6] by decide)
      refine List.Pairwise.imp_of_mem (fun {y z} hy hz h => ?_) (p1.and p2)
      have mem : ∀ k, k ∈ four M J → isSide k ∧ M k = true := fun k hk => by
        rcases greedy_mem _ _ _ _ hk with h | h
        · cases h
        · obtain ⟨h1, h2⟩ := List.mem_filter.1 h
          exact ⟨by simpa [sidesL, isSide] using h1, h2⟩
      obtain ⟨y1, y2⟩ := mem y hy
      obtain ⟨z1, z2⟩ := mem z hz
      intro hrt
      have := (jiff y z).2 ⟨hrt, y2, z2⟩
      rw [hJ y z y1 z1 h.2, this] at h
      cases h.1)
  -- the pieces of the rest
  obtain ⟨B', eB⟩ : ∃ B', put1 B (r * m + c) = B' := ⟨_, rfl⟩
  have hput := frB_put B hr hc hx
  have hcel := fun R C => celB_put (n := n) (m := m) B hr hc R C
  rw [eB] at k1 h3 hput hcel ⊢
  have rest : ∀ k, k < 8 → M k = false → celB n m B' (r + pR k) (c + pC k) = false := fun k hk h => by
    rw [hcel, decide_eq_false (by have := (p_bd hk).2.2.2.2; omega), Bool.false_or, ← hM k hk, h]
  have k2 := cnt_put1_list (N := (n + 2) * (m + 2)) (T := touchB (m + 2) true) (B := frB n m B') (x := emb m (r * m + c)) (touch_sym (m + 2)) (emb_lt hm0 hxN) ((eight M J).map (cell8 m r c)) (fun y hy => by
      obtain ⟨k, hk, rfl⟩ := List.mem_map.1 hy
      rcases greedy_mem _ _ _ _ hk with h | h
      · cases h
      · obtain ⟨h1, h2⟩ := List.mem_filter.1 h
        have hk8 := List.mem_range.1 h1
        obtain ⟨g1, g2, g3⟩ := cell8_ok hr hc hk8
        refine ⟨g1, ?_, cell8_touch hr hc hk8⟩
        unfold frB
        rw [g2, g3, rest k hk8 (by simpa using h2)]
        rfl) (by
      rw [List.pairwise_map]
      have p1 : (eight M J).Pairwise fun e f => partB J e f = true := greedy_pw _ _ _ List.Pairwise.nil
      refine List.Pairwise.imp_of_mem (fun {e f} he hf h => ?_) p1
      have mem : ∀ k, k ∈ eight M J → k < 8 ∧ M k = false := fun k hk => by
        rcases greedy_mem _ _ _ _ hk with h | h
        · cases h
        · obtain ⟨h1, h2⟩ := List.mem_filter.1 h
          exact ⟨List.mem_range.1 h1, by simpa using h2⟩
      obtain ⟨e1, e2⟩ := mem e he
      obtain ⟨f1, f2⟩ := mem f hf
      intro hrt
      obtain ⟨⟨y, z⟩, hp, hq⟩ := List.any_eq_true.1 h
      rw [Bool.and_eq_true] at hq
      have hyz : isSide y ∧ isSide z ∧ y < z := by
        simp only [pairsL, List.mem_cons, Prod.mk.injEq, List.not_mem_nil, or_false] at hp
        unfold isSide
        omega
      have hj := hq.1
      rw [show J (y, z).1 (y, z).2 = J y z from rfl, hJ y z hyz.1 hyz.2.1 hyz.2.2] at hj
      obtain ⟨j1, j2, j3⟩ := (jiff y z).1 hj
      obtain ⟨y1, y2, y3, y4⟩ := c4 y (side8 y hyz.1) j2
      obtain ⟨z1, z2, z3, z4⟩ := c4 z (side8 z hyz.2.1) j3
      obtain ⟨_, w, hw⟩ := rt_wk y1 y2 j1
      rw [y3, y4, z3, z4] at hw
      have hx0 : ¬ celB n m B (r : Int) (c : Int) = true := by
        unfold celB
        rw [Int.toNat_natCast, Int.toNat_natCast, hx, Bool.and_false]
        exact Bool.false_ne_true
      obtain ⟨W, hcl, hW⟩ := around_w (P := fun R C => celB n m B R C = true) (P' := fun R C => celB n m B' R C = true) (r := r) (c := c) (fun R C h => by show celB n m B' R C = true; rw [hcel, show celB n m B R C = true from h, Bool.or_true]) hx0 (by show celB n m B' r c = true; rw [hcel, decide_eq_true ⟨rfl, rfl⟩, Bool.true_or]) hyz.1 hyz.2.1 hw (by show celB n m B _ _ = true; rw [← hM y (side8 y hyz.1)]; exact j2)
      obtain ⟨_, ge2, ge3⟩ := cell8_ok (n := n) hr hc e1
      obtain ⟨_, gf2, gf3⟩ := cell8_ok (n := n) hr hc f1
      have hsame := (rt_sameW hcl hrt (by unfold frB; rw [ge2, ge3, rest e e1 e2]; rfl)).1
      rw [ge2, ge3, gf2, gf3, hW e e1 (by show ¬ celB n m B' _ _ = true; rw [rest e e1 e2]; exact Bool.false_ne_true), hW f f1 (by show ¬ celB n m B' _ _ = true; rw [rest f f1 f2]; exact Bool.false_ne_true)] at hsame
      have hne := hq.2
      revert hsame hne
      show (w r c ^^ gB y z e) = (w r c ^^ gB y z f) → (gB y z e ^^ gB y z f) = true → False
      cases w r c <;> cases gB y z e <;> cases gB y z f <;> simp)
  rw [← hput] at k2
  rw [List.length_map] at k1 k2
  unfold eulD
  omega
end Go.Proofs.YtaeenedjmakelaaDoor
