/- A grid with a frame around it, as lists: its pieces with corners are one for the frame and those of the grid that do not meet the edge. -/
import Derived.Test.YtaeenedjmakelaaDoorHolesI
import Derived.Test.YtaeenedjmakelaaDoorPeakS
namespace Go.Proofs.YtaeenedjmakelaaDoor
open Go.RowKit

def emb (m i : Nat) : Nat := (i / m + 1) * (m + 2) + (i % m + 1)
theorem cell_div {m R C : Nat} (h : C < m + 2) : (R * (m + 2) + C) / (m + 2) = R := by
  rw [Nat.add_comm, Nat.add_mul_div_right _ _ (by omega), Nat.div_eq_of_lt h, Nat.zero_add]
theorem cell_mod {m R C : Nat} (h : C < m + 2) : (R * (m + 2) + C) % (m + 2) = C := by
  rw [Nat.add_comm, Nat.add_mul_mod_self_right, Nat.mod_eq_of_lt h]
theorem emb_div {m i : Nat} (hm : 0 < m) : emb m i / (m + 2) = i / m + 1 := cell_div (by have := Nat.mod_lt i hm; omega)
theorem emb_mod {m i : Nat} (hm : 0 < m) : emb m i % (m + 2) = i % m + 1 := cell_mod (by have := Nat.mod_lt i hm; omega)
theorem cell_lt {n m R C : Nat} (hR : R < n + 2) (hC : C < m + 2) : R * (m + 2) + C < (n + 2) * (m + 2) := by
  have h1 : (R + 1) * (m + 2) ≤ (n + 2) * (m + 2) := Nat.mul_le_mul_right _ hR
  rw [Nat.add_mul] at h1
  omega
theorem emb_lt {n m i : Nat} (hm : 0 < m) (hi : i < n * m) : emb m i < (n + 2) * (m + 2) :=
  cell_lt (by have := div_lt_of n m i hi; omega) (by have := Nat.mod_lt i hm; omega)
theorem emb_pos (m i : Nat) : 0 < emb m i := by unfold emb; omega
theorem emb_mono {m i j : Nat} (hm : 0 < m) (h : i < j) : emb m i < emb m j := by
  have h1 := Nat.div_le_div_right (c := m) (Nat.le_of_lt h)
  have hi := Nat.mod_lt i hm
  have ei := Nat.div_add_mod i m
  have ej := Nat.div_add_mod j m
  unfold emb
  by_cases e : i / m = j / m
  · rw [e] at ei ⊢; omega
  · have h2 : (i / m + 1 + 1) * (m + 2) ≤ (j / m + 1) * (m + 2) := Nat.mul_le_mul_right _ (by omega)
    rw [Nat.add_mul (i / m + 1) 1] at h2
    omega
theorem emb_le {m i j : Nat} (hm : 0 < m) (h : emb m i < emb m j) : i < j := by
  rcases Nat.lt_trichotomy i j with g | g | g
  · exact g
  · subst g; omega
  · have := emb_mono hm g; omega
theorem emb_inj {m i j : Nat} (hm : 0 < m) (h : emb m i = emb m j) : i = j := by
  rcases Nat.lt_trichotomy i j with g | g | g
  · have := emb_mono hm g; omega
  · exact g
  · have := emb_mono hm g; omega
def inF (n m c : Nat) : Prop := 1 ≤ c / (m + 2) ∧ c / (m + 2) ≤ n ∧ 1 ≤ c % (m + 2) ∧ c % (m + 2) ≤ m
theorem emb_in {n m i : Nat} (hm : 0 < m) (hi : i < n * m) : inF n m (emb m i) := by
  unfold inF
  rw [emb_div hm, emb_mod hm]
  have h1 := div_lt_of n m i hi
  have h2 := Nat.mod_lt i hm
  obtain ⟨R, eR⟩ : ∃ R, i / m = R := ⟨_, rfl⟩
  obtain ⟨C, eC⟩ : ∃ C, i % m = C := ⟨_, rfl⟩
  rw [eR] at h1 ⊢
  rw [eC] at h2 ⊢
  omega
theorem emb_of {n m c : Nat} (hm : 0 < m) (h : inF n m c) : ∃ i, i < n * m ∧ c = emb m i := by
  obtain ⟨h1, h2, h3, h4⟩ := h
  obtain ⟨R, eR⟩ : ∃ R, c / (m + 2) = R + 1 := ⟨c / (m + 2) - 1, by omega⟩
  obtain ⟨C, eC⟩ : ∃ C, c % (m + 2) = C + 1 := ⟨c % (m + 2) - 1, by omega⟩
  have ec := Nat.div_add_mod c (m + 2)
  have hd : (R * m + C) / m = R := by rw [Nat.add_comm, Nat.add_mul_div_right _ _ hm, Nat.div_eq_of_lt (by omega), Nat.zero_add]
  have hmo : (R * m + C) % m = C := by rw [Nat.add_comm, Nat.add_mul_mod_self_right, Nat.mod_eq_of_lt (by omega)]
  refine ⟨R * m + C, ?_, ?_⟩
  · have h5 : (R + 1) * m ≤ n * m := Nat.mul_le_mul_right _ (by omega)
    rw [Nat.add_mul] at h5
    omega
  · unfold emb
    rw [hd, hmo, ← eR, ← eC, Nat.mul_comm]
    exact ec.symm
theorem sq1 (d : Int) : d * d ≤ 1 ↔ -1 ≤ d ∧ d ≤ 1 := by
  constructor
  · intro h
    constructor
    · by_cases g : -1 ≤ d
      · exact g
      · have := Int.mul_le_mul (show (2 : Int) ≤ -d by omega) (show (2 : Int) ≤ -d by omega) (by decide) (by omega)
        rw [Int.neg_mul_neg] at this
        omega
    · by_cases g : d ≤ 1
      · exact g
      · have := Int.mul_le_mul (show (2 : Int) ≤ d by omega) (show (2 : Int) ≤ d by omega) (by decide) (by omega)
        omega
  · rintro ⟨h1, h2⟩
    have : d = -1 ∨ d = 0 ∨ d = 1 := by omega
    rcases this with rfl | rfl | rfl <;> decide
theorem touch2 {m i k : Nat} : touchB m true i k = true ↔ (i / m ≤ k / m + 1 ∧ k / m ≤ i / m + 1) ∧ (i % m ≤ k % m + 1 ∧ k % m ≤ i % m + 1) := by
  unfold touchB
  rw [if_pos rfl, Bool.and_eq_true, decide_eq_true_eq, decide_eq_true_eq, sq1, sq1]
  omega
theorem touch_sym (m i k : Nat) : touchB m true i k = touchB m true k i := by
  rw [Bool.eq_iff_iff, touch2, touch2]; omega
theorem touch_emb {m i k : Nat} (hm : 0 < m) : touchB (m + 2) true (emb m i) (emb m k) = touchB m true i k := by
  rw [Bool.eq_iff_iff, touch2, touch2, emb_div hm, emb_mod hm, emb_div hm, emb_mod hm]; omega
theorem RT.back {N : Nat} {T : Nat → Nat → Bool} {B : Nat → Bool} {i j : Nat} (hT : ∀ a b, T a b = T b a) (hi : i < N) (hb : B i = true) (h : RT N T B i j) : RT N T B j i ∧ j < N ∧ B j = true := by
  induction h with
  | refl => exact ⟨.refl, hi, hb⟩
  | @step j k _ hk hbk hTk ih => exact ⟨(RT.step .refl ih.2.1 ih.2.2 (by rw [hT]; exact hTk)).trans ih.1, hk, hbk⟩
def edgeChk (n m : Nat) : Bool := (List.range (n * m)).all fun i => edgeL n m i == (decide (i / m = 0) || decide (i / m + 1 = n) || decide (i % m = 0) || decide (i % m + 1 = m))
theorem edge_chk : ∀ n, n < 6 → ∀ m, m < 6 → edgeChk n m = true := by decide +kernel
theorem edge_iff {n m i : Nat} (hn : n ≤ 5) (hm : m ≤ 5) (hi : i < n * m) : edgeL n m i = true ↔ i / m = 0 ∨ i / m + 1 = n ∨ i % m = 0 ∨ i % m + 1 = m := by
  have h := edge_chk n (by omega) m (by omega)
  unfold edgeChk at h
  rw [List.all_eq_true] at h
  have h1 := h i (List.mem_range.2 hi)
  rw [beq_iff_eq] at h1
  rw [h1]
  simp only [Bool.or_eq_true, decide_eq_true_eq]
  omega

section frame
variable {n m : Nat} {B B' : Nat → Bool} (hn : n ≤ 5) (hm : m ≤ 5) (hm1 : 0 < m) (hE : ∀ i, i < n * m → B' (emb m i) = B i) (hFr : ∀ c, c < (n + 2) * (m + 2) → ¬ inF n m c → B' c = true)
include hm1 hE
theorem rt_up {i x : Nat} (h : RT (n * m) (touchB m true) B i x) : RT ((n + 2) * (m + 2)) (touchB (m + 2) true) B' (emb m i) (emb m x) := by
  induction h with
  | refl => exact .refl
  | @step j k _ hk hbk hT ih => exact .step ih (emb_lt hm1 hk) (by rw [hE k hk]; exact hbk) (by rw [touch_emb hm1]; exact hT)
omit hm1 hE
include hFr
theorem frame_step {R C R' C' : Nat} (_hR : R < n + 2) (hC : C < m + 2) (hR' : R' < n + 2) (hC' : C' < m + 2) (h1 : R ≤ R' + 1 ∧ R' ≤ R + 1 ∧ C ≤ C' + 1 ∧ C' ≤ C + 1) (h2 : R' = 0 ∨ R' = n + 1 ∨ C' = 0 ∨ C' = m + 1)
    (h : RT ((n + 2) * (m + 2)) (touchB (m + 2) true) B' 0 (R * (m + 2) + C)) : RT ((n + 2) * (m + 2)) (touchB (m + 2) true) B' 0 (R' * (m + 2) + C') := by
  refine .step h (cell_lt hR' hC') (hFr _ (cell_lt hR' hC') ?_) (touch2.2 ?_)
  · unfold inF
    rw [cell_div hC', cell_mod hC']
    omega
  · rw [cell_div hC, cell_mod hC, cell_div hC', cell_mod hC']
    omega
theorem frame_row0 : ∀ C, C < m + 2 → RT ((n + 2) * (m + 2)) (touchB (m + 2) true) B' 0 (0 * (m + 2) + C)
  | 0, _ => by rw [Nat.zero_mul]; exact .refl
  | C + 1, h => frame_step hFr (by omega) (show C < m + 2 by omega) (by omega) h (by omega) (.inl rfl) (frame_row0 C (by omega))
theorem frame_col0 : ∀ R, R < n + 2 → RT ((n + 2) * (m + 2)) (touchB (m + 2) true) B' 0 (R * (m + 2) + 0)
  | 0, _ => by rw [Nat.zero_mul]; exact .refl
  | R + 1, h => frame_step hFr (show R < n + 2 by omega) (by omega) h (by omega) (by omega) (.inr (.inr (.inl rfl))) (frame_col0 R (by omega))
theorem frame_colE : ∀ R, R < n + 2 → RT ((n + 2) * (m + 2)) (touchB (m + 2) true) B' 0 (R * (m + 2) + (m + 1))
  | 0, _ => frame_row0 hFr (m + 1) (by omega)
  | R + 1, h => frame_step hFr (show R < n + 2 by omega) (by omega) h (by omega) (by omega) (.inr (.inr (.inr rfl))) (frame_colE R (by omega))
theorem frame_rowE : ∀ C, C < m + 2 → RT ((n + 2) * (m + 2)) (touchB (m + 2) true) B' 0 ((n + 1) * (m + 2) + C)
  | 0, _ => frame_col0 hFr (n + 1) (by omega)
  | C + 1, h => frame_step hFr (by omega) (show C < m + 2 by omega) (by omega) h (by omega) (.inr (.inl rfl)) (frame_rowE C (by omega))
theorem frame_all {c : Nat} (hc : c < (n + 2) * (m + 2)) (h : ¬ inF n m c) : RT ((n + 2) * (m + 2)) (touchB (m + 2) true) B' 0 c := by
  have ec : c / (m + 2) * (m + 2) + c % (m + 2) = c := by rw [Nat.mul_comm]; exact Nat.div_add_mod c (m + 2)
  have hR : c / (m + 2) < n + 2 := div_lt_of (n + 2) (m + 2) c hc
  have hC : c % (m + 2) < m + 2 := Nat.mod_lt c (by omega)
  unfold inF at h
  obtain ⟨R, eR⟩ : ∃ R, c / (m + 2) = R := ⟨_, rfl⟩
  obtain ⟨C, eC⟩ : ∃ C, c % (m + 2) = C := ⟨_, rfl⟩
  rw [eR, eC] at h ec
  rw [eR] at hR
  rw [eC] at hC
  rw [← ec]
  have h4 : R = 0 ∨ R = n + 1 ∨ C = 0 ∨ C = m + 1 := by omega
  rcases h4 with rfl | rfl | rfl | rfl
  · exact frame_row0 hFr C hC
  · exact frame_rowE hFr C hC
  · exact frame_col0 hFr R hR
  · exact frame_colE hFr R hR
omit hFr
include hn hm hm1
theorem edge_touch {i : Nat} (hi : i < n * m) (he : edgeL n m i = true) : ∃ c, c < (n + 2) * (m + 2) ∧ ¬ inF n m c ∧ touchB (m + 2) true (emb m i) c = true := by
  have hd := div_lt_of n m i hi
  have hmo := Nat.mod_lt i hm1
  have mk : ∀ R C, R < n + 2 → C < m + 2 → (R = 0 ∨ R = n + 1 ∨ C = 0 ∨ C = m + 1) → (i / m + 1 ≤ R + 1 ∧ R ≤ i / m + 1 + 1) ∧ (i % m + 1 ≤ C + 1 ∧ C ≤ i % m + 1 + 1) → ∃ c, c < (n + 2) * (m + 2) ∧ ¬ inF n m c ∧ touchB (m + 2) true (emb m i) c = true := fun R C hR hC h4 ht =>
    ⟨R * (m + 2) + C, cell_lt hR hC, by unfold inF; rw [cell_div hC, cell_mod hC]; omega, touch2.2 (by rw [emb_div hm1, emb_mod hm1, cell_div hC, cell_mod hC]; exact ht)⟩
  rcases (edge_iff hn hm hi).1 he with h | h | h | h
  · exact mk 0 (i % m + 1) (by omega) (by omega) (.inl rfl) (by omega)
  · exact mk (n + 1) (i % m + 1) (by omega) (by omega) (.inr (.inl rfl)) (by omega)
  · exact mk (i / m + 1) 0 (by omega) (by omega) (.inr (.inr (.inl rfl))) (by omega)
  · exact mk (i / m + 1) (m + 1) (by omega) (by omega) (.inr (.inr (.inr rfl))) (by omega)
theorem touch_edge {i c : Nat} (hi : i < n * m) (hc : c < (n + 2) * (m + 2)) (hf : ¬ inF n m c) (ht : touchB (m + 2) true (emb m i) c = true) : edgeL n m i = true := by
  rw [edge_iff hn hm hi]
  have ht' := touch2.1 ht
  rw [emb_div hm1, emb_mod hm1] at ht'
  have hd := div_lt_of n m i hi
  have hmo := Nat.mod_lt i hm1
  have hR : c / (m + 2) < n + 2 := div_lt_of (n + 2) (m + 2) c hc
  have hC : c % (m + 2) < m + 2 := Nat.mod_lt c (by omega)
  unfold inF at hf
  obtain ⟨a1, e1⟩ : ∃ a1, i / m = a1 := ⟨_, rfl⟩
  obtain ⟨a2, e2⟩ : ∃ a2, i % m = a2 := ⟨_, rfl⟩
  obtain ⟨a3, e3⟩ : ∃ a3, c / (m + 2) = a3 := ⟨_, rfl⟩
  obtain ⟨a4, e4⟩ : ∃ a4, c % (m + 2) = a4 := ⟨_, rfl⟩
  rw [e1] at hd ht' ⊢
  rw [e2] at hmo ht' ⊢
  rw [e3] at hR ht' hf
  rw [e4] at hC ht' hf
  omega
include hE
theorem rt_down {i c : Nat} (hi : i < n * m) (hno : ∀ x, RT (n * m) (touchB m true) B i x → edgeL n m x = false) (h : RT ((n + 2) * (m + 2)) (touchB (m + 2) true) B' (emb m i) c) : ∃ x, x < n * m ∧ c = emb m x ∧ RT (n * m) (touchB m true) B i x := by
  induction h with
  | refl => exact ⟨i, hi, rfl, .refl⟩
  | @step j k _ hk hbk hT ih =>
    obtain ⟨x, hx, rfl, hr⟩ := ih
    by_cases hf : inF n m k
    · obtain ⟨y, hy, rfl⟩ := emb_of hm1 hf
      exact ⟨y, hy, rfl, .step hr hy (by rw [← hE y hy]; exact hbk) (by rw [← touch_emb hm1]; exact hT)⟩
    · have := touch_edge hn hm hm1 hx hk hf hT
      rw [hno x hr] at this
      cases this
include hFr
theorem lead_out {i : Nat} (hi : i < n * m) : LeadT ((n + 2) * (m + 2)) (touchB (m + 2) true) B' (emb m i) ↔ LeadT (n * m) (touchB m true) B i ∧ ∀ x, RT (n * m) (touchB m true) B i x → edgeL n m x = false := by
  have h00 : (0 : Nat) < (n + 2) * (m + 2) := Nat.mul_pos (by omega) (by omega)
  have hB0 : B' 0 = true := hFr 0 h00 (by unfold inF; rw [Nat.zero_div]; omega)
  constructor
  · rintro ⟨hb, ho⟩
    have hbi : B i = true := by rw [← hE i hi]; exact hb
    refine ⟨⟨hbi, ?_⟩, fun x hx => ?_⟩
    · rintro ⟨a, ha, hba, hr⟩
      exact ho ⟨emb m a, emb_mono hm1 ha, by rw [hE a (by omega)]; exact hba, rt_up hm1 hE hr⟩
    · cases he : edgeL n m x with
      | false => rfl
      | true =>
        obtain ⟨_, hxN, hbx⟩ := hx.back (touch_sym m) hi hbi
        obtain ⟨c, hc, hf, ht⟩ := edge_touch hn hm hm1 hxN he
        have h1 := RT.step (rt_up hm1 hE hx) hc (hFr c hc hf) ht
        have h2 := (h1.back (touch_sym (m + 2)) (emb_lt hm1 hi) hb).1
        exact absurd ⟨0, emb_pos m i, hB0, (frame_all hFr hc hf).trans h2⟩ ho
  · rintro ⟨⟨hb, ho⟩, hno⟩
    have hb' : B' (emb m i) = true := by rw [hE i hi]; exact hb
    refine ⟨hb', ?_⟩
    rintro ⟨c, hc, hbc, hr⟩
    have hcN : c < (n + 2) * (m + 2) := Nat.lt_trans hc (emb_lt hm1 hi)
    obtain ⟨x, hx, rfl, hrx⟩ := rt_down hn hm hm1 hE hi hno (hr.back (touch_sym (m + 2)) hcN hbc).1
    exact ho ⟨x, emb_le hm1 hc, by rw [← hE x hx]; exact hbc, (hrx.back (touch_sym m) hi hb).1⟩
end frame
theorem holes_len (n m : Nat) (L : List (List Int)) : ∀ K, holesT n m L K = (((List.range K).filter fun k => innerB n m (L.getD k [])).length : Int)
  | 0 => rfl
  | K + 1 => by
    have ih := holes_len n m L K
    rw [List.range_succ, List.filter_append, List.length_append]
    unfold holesT at ih ⊢
    rw [sumTo, ih]
    cases e : innerB n m (L.getD K []) with
    | false => rw [if_neg (by simp), List.filter_cons_of_neg (p := fun k => innerB n m (L.getD k [])) (a := K) (by rw [e]; simp)]; simp
    | true => rw [if_pos rfl, List.filter_cons_of_pos (p := fun k => innerB n m (L.getD k [])) (a := K) e]; simp
theorem flat_rt {n m i x : Nat} {B : Nat → Bool} {f : List Int} (hn : n ≤ 5) (hm : m ≤ 5) (F : Tc.Flats n m (bothB B) f) (hi : i < n * m) (hx : x < n * m) (hbi : B i = true) (hbx : B x = true) : f.getD i 0 = f.getD x 0 ↔ RT (n * m) (touchB m true) B i x := by
  constructor
  · intro h
    obtain ⟨j, e1, _, r1⟩ := F.ok i hi
    obtain ⟨k, e2, _, r2⟩ := F.ok x hx
    obtain rfl : j = k := by omega
    exact (Tc.reach_rt hn hm hi r1).trans ((Tc.reach_rt hn hm hx r2).back (touch_sym m) hx hbx).1
  · intro h
    exact (F.reach hn hm hi (Tc.rt_reach hn hm hi hbi h).2).symm
theorem framed_holes {n m : Nat} {B B' : Nat → Bool} {f : List Int} {L : List (List Int)} (hn : n ≤ 5) (hm : m ≤ 5) (hm1 : 0 < m) (hE : ∀ i, i < n * m → B' (emb m i) = B i) (hFr : ∀ c, c < (n + 2) * (m + 2) → ¬ inF n m c → B' c = true)
    (F : Tc.Flats n m (bothB B) f) (eL : piecesT f (whereL (n * m) B) = L) : cntT ((n + 2) * (m + 2)) (touchB (m + 2) true) B' ((n + 2) * (m + 2)) - 1 = holesT n m L L.length := by
  have P := Tc.pieces_inv hn hm F (n * m) (Nat.le_refl _)
  rw [eL] at P
  have h00 : (0 : Nat) < (n + 2) * (m + 2) := Nat.mul_pos (by omega) (by omega)
  have hB0 : B' 0 = true := hFr 0 h00 (by unfold inF; rw [Nat.zero_div]; omega)
  obtain ⟨S, eS⟩ : ∃ S, leadsL ((n + 2) * (m + 2)) (touchB (m + 2) true) B' ((n + 2) * (m + 2)) = S := ⟨_, rfl⟩
  have hS : ∀ c, c ∈ S ↔ c < (n + 2) * (m + 2) ∧ LeadT ((n + 2) * (m + 2)) (touchB (m + 2) true) B' c := fun c => by rw [← eS]; exact mem_leads
  have hnd : S.Nodup := by rw [← eS]; exact List.nodup_range.filter _
  have h0S : 0 ∈ S := (hS 0).2 ⟨h00, hB0, fun ⟨b, h, _⟩ => absurd h (Nat.not_lt_zero _)⟩
  rw [leads_len, eS, holes_len]
  have hlen := List.length_erase_of_mem h0S
  have hpos := List.length_pos_of_mem h0S
  have hmem : ∀ c, c ∈ S.erase 0 ↔ c ≠ 0 ∧ c ∈ S := fun c => List.Nodup.mem_erase_iff hnd
  have hinn : ∀ K, K ∈ (List.range L.length).filter (fun k => innerB n m (L.getD k [])) ↔ K < L.length ∧ innerB n m (L.getD K []) = true := fun K => by rw [List.mem_filter, List.mem_range]
  have hC : ∀ x : Int, x ∈ whereL (n * m) B ↔ ∃ k : Nat, k < n * m ∧ B k = true ∧ x = k := whereL_mem _ _
  have hlead : ∀ i, i < n * m → (LeadT ((n + 2) * (m + 2)) (touchB (m + 2) true) B' (emb m i) ↔ LeadT (n * m) (touchB m true) B i ∧ ∀ x, RT (n * m) (touchB m true) B i x → edgeL n m x = false) := fun i hi => lead_out hn hm hm1 hE hFr hi
  have hfit : ∀ (K i : Nat), K < L.length → (i : Int) ∈ L.getD K [] → ∀ x : Int, x ∈ L.getD K [] ↔ x ∈ whereL (n * m) B ∧ f.getD x.toNat 0 = f.getD i 0 := fun K i hK hi x => by
    rw [(P.holds hK hi).2, List.mem_filter, beq_iff_eq, Int.toNat_natCast]
  have le1 : (S.erase 0).length ≤ ((List.range L.length).filter fun k => innerB n m (L.getD k [])).length := by
    refine few_rel (fun c K => K < L.length ∧ ∃ i : Nat, i < n * m ∧ c = emb m i ∧ (i : Int) ∈ L.getD K []) _ _ (hnd.erase 0) (fun c hc => ?_) (fun c c' K hc hc' h h' => ?_)
    · obtain ⟨hc0, hcS⟩ := (hmem c).1 hc
      obtain ⟨hcN, hcl⟩ := (hS c).1 hcS
      by_cases hf : inF n m c
      · obtain ⟨i, hi, rfl⟩ := emb_of hm1 hf
        obtain ⟨⟨hbi, _⟩, hno⟩ := (hlead i hi).1 hcl
        obtain ⟨K, hK, hiK⟩ := P.all i ((hC i).2 ⟨i, hi, hbi, rfl⟩)
        refine ⟨K, (hinn K).2 ⟨hK, ?_⟩, hK, i, hi, rfl, hiK⟩
        unfold innerB
        rw [List.all_eq_true]
        intro x hx
        obtain ⟨hxC, hxf⟩ := (hfit K i hK hiK x).1 hx
        obtain ⟨k, hk, hbk, rfl⟩ := (hC x).1 hxC
        rw [Int.toNat_natCast] at hxf ⊢
        rw [hno k ((flat_rt hn hm F hi hk hbi hbk).1 hxf.symm)]
        rfl
      · exact absurd ⟨0, by omega, hB0, frame_all hFr hcN hf⟩ hcl.2
    · obtain ⟨hK, i, hi, rfl, hiK⟩ := h
      obtain ⟨_, j, hj, rfl, hjK⟩ := h'
      obtain ⟨hli, _⟩ := (hlead i hi).1 ((hS _).1 ((hmem _).1 hc).2).2
      obtain ⟨hlj, _⟩ := (hlead j hj).1 ((hS _).1 ((hmem _).1 hc').2).2
      have hfe := ((hfit K i hK hiK j).1 hjK).2
      rw [Int.toNat_natCast] at hfe
      have hr := (flat_rt hn hm F hi hj hli.1 hlj.1).1 hfe.symm
      have hr' := (hr.back (touch_sym m) hi hli.1).1
      rcases Nat.lt_trichotomy i j with g | g | g
      · exact absurd ⟨i, g, hli.1, hr⟩ hlj.2
      · rw [g]
      · exact absurd ⟨j, g, hlj.1, hr'⟩ hli.2
  have le2 : ((List.range L.length).filter fun k => innerB n m (L.getD k [])).length ≤ (S.erase 0).length := by
    refine few_rel (fun K c => ∃ i : Nat, i < n * m ∧ c = emb m i ∧ (i : Int) ∈ L.getD K []) _ _ (List.nodup_range.filter _) (fun K hK => ?_) (fun K K' c hK hK' h h' => ?_)
    · obtain ⟨hKl, hin⟩ := (hinn K).1 hK
      obtain ⟨F0, h1, h2, h3⟩ := P.fits K hKl
      have hm0 := getD_mem h3
      rw [h2] at hm0
      have hm0' := hm0
      rw [h1, List.mem_filter, beq_iff_eq] at hm0'
      obtain ⟨i, hi, hbi, rfl⟩ := (hC F0).1 hm0'.1
      have hfi := hm0'.2
      rw [Int.toNat_natCast] at hfi
      have hli := (Tc.lead_iff hn hm F hi hbi).2 hfi
      have hno : ∀ x, RT (n * m) (touchB m true) B i x → edgeL n m x = false := fun x hx => by
        obtain ⟨_, hxN, hbx⟩ := hx.back (touch_sym m) hi hbi
        have hxK : (x : Int) ∈ L.getD K [] := (hfit K i hKl hm0 x).2 ⟨(hC x).2 ⟨x, hxN, hbx, rfl⟩, by rw [Int.toNat_natCast]; exact ((flat_rt hn hm F hi hxN hbi hbx).2 hx).symm⟩
        unfold innerB at hin
        rw [List.all_eq_true] at hin
        have := hin x hxK
        rw [Int.toNat_natCast] at this
        cases e : edgeL n m x with
        | false => rfl
        | true => rw [e] at this; exact absurd this (by simp)
      exact ⟨emb m i, (hmem _).2 ⟨by have := emb_pos m i; omega, (hS _).2 ⟨emb_lt hm1 hi, (hlead i hi).2 ⟨hli, hno⟩⟩⟩, i, hi, rfl, hm0⟩
    · obtain ⟨i, hi, rfl, hiK⟩ := h
      obtain ⟨j, hj, e, hjK⟩ := h'
      obtain rfl := emb_inj hm1 e
      have hKl := ((hinn K).1 hK).1
      have hKl' := ((hinn K').1 hK').1
      by_cases g : K = K'
      · exact g
      · refine absurd ?_ (P.apart' hKl hKl' g)
        obtain ⟨F1, a1, a2, _⟩ := P.fits K hKl
        obtain ⟨F2, b1, b2, _⟩ := P.fits K' hKl'
        rw [a1, List.mem_filter, beq_iff_eq] at hiK
        rw [b1, List.mem_filter, beq_iff_eq] at hjK
        rw [a2, b2, ← hiK.2, ← hjK.2]
  omega
end Go.Proofs.YtaeenedjmakelaaDoor
