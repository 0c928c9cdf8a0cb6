/- Holes of a grid of two rows or columns, and of a grid turned. -/
import Derived.Test.YtdfnhodhdfhhcaaDoorHoles
import Derived.Test.YtdfnhodhdfhhcaaDoorTurns
namespace Go.Proofs.YtdfnhodhdfhhcaaDoor
open Go.RowKit

theorem RT.lt {N : Nat} {T : Nat → Nat → Bool} {B : Nat → Bool} {i j : Nat} (hi : i < N) (h : RT N T B i j) : j < N := by
  cases h with
  | refl => exact hi
  | step _ hk _ _ => exact hk
theorem lead_of {N : Nat} {T : Nat → Nat → Bool} {B : Nat → Bool} : ∀ x, x < N → B x = true → ∃ c, c < N ∧ LeadT N T B c ∧ RT N T B c x
  | x, hx, hB => by
    by_cases h : OldT N T B x x
    · obtain ⟨c, hc, hb, hr⟩ := h
      obtain ⟨d, h1, h2, h3⟩ := lead_of (N := N) (T := T) c (Nat.lt_trans hc hx) hb
      exact ⟨d, h1, h2, h3.trans hr⟩
    · exact ⟨x, hx, ⟨hB, h⟩, .refl⟩
section iso
variable {N N2 : Nat} {T T2 : Nat → Nat → Bool} {B B2 : Nat → Bool} {s r : Nat → Nat}
theorem rt_pull (hr : ∀ k, k < N2 → r k < N ∧ s (r k) = k) (hT : ∀ i k, i < N → k < N → T2 (s i) (s k) = T i k) (hB : ∀ i, i < N → B2 (s i) = B i) {a b : Nat} (ha : a < N2) (h : RT N2 T2 B2 a b) : RT N T B (r a) (r b) := by
  induction h with
  | refl => exact .refl
  | @step j k hj hk hbk hTk ih =>
    have hjN := RT.lt ha hj
    refine .step ih (hr k hk).1 (by rw [← hB _ (hr k hk).1, (hr k hk).2]; exact hbk) ?_
    rw [← hT _ _ (hr j hjN).1 (hr k hk).1, (hr j hjN).2, (hr k hk).2]
    exact hTk
theorem cnt_iso_le (hs : ∀ i, i < N → s i < N2 ∧ r (s i) = i) (hr : ∀ k, k < N2 → r k < N ∧ s (r k) = k) (hT : ∀ i k, i < N → k < N → T2 (s i) (s k) = T i k) (hB : ∀ i, i < N → B2 (s i) = B i) (hS : ∀ a b, T a b = T b a) (hS2 : ∀ a b, T2 a b = T2 b a) : cntT N T B N ≤ cntT N2 T2 B2 N2 := by
  rw [leads_len, leads_len]
  have key := few_rel (fun c c2 => c2 < N2 ∧ B2 c2 = true ∧ RT N2 T2 B2 c2 (s c)) (leadsL N T B N) (leadsL N2 T2 B2 N2) (List.nodup_range.filter _) (fun c hc => ?_) (fun c c' c2 hc hc' h h' => ?_)
  · omega
  · obtain ⟨hcN, hcB, _⟩ := mem_leads.1 hc
    obtain ⟨c2, h1, h2, h3⟩ := lead_of (T := T2) (B := B2) (s c) (hs c hcN).1 (by rw [hB c hcN]; exact hcB)
    exact ⟨c2, mem_leads.2 ⟨h1, h2⟩, h1, h2.1, h3⟩
  · obtain ⟨hcN, hcB, hcO⟩ := mem_leads.1 hc
    obtain ⟨hcN', hcB', hcO'⟩ := mem_leads.1 hc'
    obtain ⟨h1, h2, h3⟩ := h
    obtain ⟨_, _, h3'⟩ := h'
    have hr2 := (h3.back hS2 h1 h2).1.trans h3'
    have hr1 := rt_pull hr hT hB (hs c hcN).1 hr2
    rw [(hs c hcN).2, (hs c' hcN').2] at hr1
    have hr1' := (hr1.back hS hcN hcB).1
    rcases Nat.lt_trichotomy c c' with g | g | g
    · exact absurd ⟨c, g, hcB, hr1⟩ hcO'
    · exact g
    · exact absurd ⟨c', g, hcB', hr1'⟩ hcO
end iso
/-- The cell of a turned grid of n rows and m columns. -/
def turnC (n m c : Nat) : Nat := c % m * n + c / m
theorem turnC_div {n m c : Nat} (hc : c < n * m) : turnC n m c / n = c % m := by
  have hr := div_lt_of n m c hc
  unfold turnC
  rw [Nat.add_comm, Nat.add_mul_div_right _ _ (Nat.lt_of_le_of_lt (Nat.zero_le _) hr), Nat.div_eq_of_lt hr, Nat.zero_add]
theorem turnC_mod {n m c : Nat} (hc : c < n * m) : turnC n m c % n = c / m := by
  have hr := div_lt_of n m c hc
  unfold turnC
  rw [Nat.add_comm, Nat.add_mul_mod_self_right, Nat.mod_eq_of_lt hr]
theorem turnC_lt {n m c : Nat} (hm : 0 < m) (hc : c < n * m) : turnC n m c < m * n := by
  have hr := div_lt_of n m c hc
  have h1 : (c % m + 1) * n ≤ m * n := Nat.mul_le_mul_right _ (Nat.mod_lt c hm)
  rw [Nat.add_mul] at h1
  unfold turnC
  omega
theorem turnC_back {n m c : Nat} (hc : c < n * m) : turnC m n (turnC n m c) = c := by
  show turnC n m c % n * m + turnC n m c / n = c
  rw [turnC_div hc, turnC_mod hc, Nat.mul_comm]
  exact Nat.div_add_mod c m
theorem turn_touch {n m i k : Nat} (hi : i < n * m) (hk : k < n * m) : touchB n true (turnC n m i) (turnC n m k) = touchB m true i k := by
  rw [Bool.eq_iff_iff, touch2, touch2, turnC_div hi, turnC_mod hi, turnC_div hk, turnC_mod hk]
  exact And.comm
theorem turn_emb {n m i : Nat} (hm : 0 < m) (hi : i < n * m) : turnC (n + 2) (m + 2) (emb m i) = emb n (turnC n m i) := by
  show emb m i % (m + 2) * (n + 2) + emb m i / (m + 2) = (turnC n m i / n + 1) * (n + 2) + (turnC n m i % n + 1)
  rw [emb_div hm, emb_mod hm, turnC_div hi, turnC_mod hi]
theorem turn_in {n m c : Nat} (hc : c < (n + 2) * (m + 2)) : inF m n (turnC (n + 2) (m + 2) c) ↔ inF n m c := by
  unfold inF
  rw [turnC_div hc, turnC_mod hc]
  omega
theorem flip_val {h : List (List Int)} {m i : Nat} (G : Grid h m) (hi : i < h.length * m) : (flipL h).flatten.getD (turnC h.length m i) 0 = h.flatten.getD i 0 := by
  have em : (h.getD 0 []).length = m := G.len 0 G.n1
  have hm : 0 < m := G.m1
  have hr := div_lt_of h.length m i hi
  have hl := flipL_len (h := h) em
  rw [flat_at (flip_grid G) _ (by rw [hl]; exact turnC_lt hm hi), turnC_div hi, turnC_mod hi, flipL_at em _ (Nat.mod_lt i hm), flat_at G i hi]
  simp [hr]
theorem flip_framed {h : List (List Int)} {m c : Nat} (G : Grid h m) (hc : c < (h.length + 2) * (m + 2)) : (framedL (flipL h) h.length).flatten.getD (turnC (h.length + 2) (m + 2) c) 0 = (framedL h m).flatten.getD c 0 := by
  have em : (h.getD 0 []).length = m := G.len 0 G.n1
  have hm : 0 < m := G.m1
  have hl := flipL_len (h := h) em
  by_cases hf : inF h.length m c
  · obtain ⟨i, hi, rfl⟩ := emb_of hm hf
    rw [framed_in G hi, turn_emb hm hi, framed_in (flip_grid G) (by rw [hl]; exact turnC_lt hm hi), flip_val G hi]
  · rw [framed_out G hc hf, framed_out (flip_grid G) (by rw [hl]; exact turnC_lt (by omega) hc) (by rw [hl]; exact fun g => hf ((turn_in hc).1 g))]
theorem holes_flip_le {h : List (List Int)} {m : Nat} (G : Grid h m) (t : Int) :
    cntT ((h.length + 2) * (m + 2)) (touchB (m + 2) true) (below (framedL h m).flatten t) ((h.length + 2) * (m + 2)) ≤ cntT ((m + 2) * (h.length + 2)) (touchB (h.length + 2) true) (below (framedL (flipL h) h.length).flatten t) ((m + 2) * (h.length + 2)) ∧
    cntT ((m + 2) * (h.length + 2)) (touchB (h.length + 2) true) (below (framedL (flipL h) h.length).flatten t) ((m + 2) * (h.length + 2)) ≤ cntT ((h.length + 2) * (m + 2)) (touchB (m + 2) true) (below (framedL h m).flatten t) ((h.length + 2) * (m + 2)) := by
  have b1 : ∀ i, i < (h.length + 2) * (m + 2) → turnC (h.length + 2) (m + 2) i < (m + 2) * (h.length + 2) ∧ turnC (m + 2) (h.length + 2) (turnC (h.length + 2) (m + 2) i) = i := fun i hi => ⟨turnC_lt (by omega) hi, turnC_back hi⟩
  have b2 : ∀ k, k < (m + 2) * (h.length + 2) → turnC (m + 2) (h.length + 2) k < (h.length + 2) * (m + 2) ∧ turnC (h.length + 2) (m + 2) (turnC (m + 2) (h.length + 2) k) = k := fun k hk => ⟨turnC_lt (by omega) hk, turnC_back hk⟩
  constructor
  · refine cnt_iso_le b1 b2 (fun i k hi hk => turn_touch hi hk) (fun i hi => ?_) (touch_sym _) (touch_sym _)
    unfold below above
    rw [flip_framed G hi]
  · refine cnt_iso_le b2 b1 (fun i k hi hk => turn_touch hi hk) (fun k hk => ?_) (touch_sym _) (touch_sym _)
    unfold below above
    rw [← flip_framed G (b2 k hk).1, (b2 k hk).2]
theorem holes_flip {h : List (List Int)} (hg : vGrid h = true) (t : Int) : holesX (flipL h) t = holesX h t := by
  have G := Grid.of hg
  have hl := flipL_len (h := h) (m := (h.getD 0 []).length) rfl
  have G2 := flip_grid G
  have hg2 : vGrid (flipL h) = true := G2.to
  have em2 : ((flipL h).getD 0 []).length = h.length := G2.len 0 G2.n1
  have hN : holesN (flipL h) t = holesN h t := by
    obtain ⟨h1, h2⟩ := holes_flip_le G t
    unfold holesN
    rw [em2, hl]
    omega
  unfold holesX vLevel
  rw [hg, hg2, hN]
/-- A grid of two rows or columns has no holes. -/
theorem holes_thin {h : List (List Int)} {t : Int} {f : List Int} (hp : vLevel h t = true) (F : Tc.Flats h.length (h.getD 0 []).length (bothB (below h.flatten t)) f) (h2 : ¬ (2 < h.length ∧ 2 < (h.getD 0 []).length)) : holesN h t = 0 := by
  have G := Grid.of (vLevel_grid hp)
  have hn5 := G.n5
  have hm5 := G.m5
  have hm1 := G.m1
  rw [← holesN_eq hp F]
  have P := Tc.pieces_inv hn5 hm5 F (h.length * (h.getD 0 []).length) (Nat.le_refl _)
  obtain ⟨L, eL⟩ : ∃ L, piecesT f (whereL (h.length * (h.getD 0 []).length) (below h.flatten t)) = L := ⟨_, rfl⟩
  rw [eL] at P ⊢
  have key : ∀ K, K ≤ L.length → holesT h.length (h.getD 0 []).length L K = 0 := by
    intro K
    induction K with
    | zero => intro _; rfl
    | succ K ih =>
      intro hK
      have ih := ih (by omega)
      unfold holesT at ih ⊢
      rw [sumTo, ih, if_neg]
      · rfl
      · obtain ⟨F0, h1, _, h3⟩ := P.fits K (by omega)
        have hm := getD_mem h3
        have hm' := hm
        rw [h1, List.mem_filter] at hm'
        obtain ⟨k, hk, _, e⟩ := (whereL_mem _ _ _).1 hm'.1
        rw [← h1] at e
        rw [inner_no (j := 0) h3 (by
          rw [e, Int.toNat_natCast, edge_iff hn5 hm5 hk]
          have a1 := div_lt_of h.length _ k hk
          have a2 := Nat.mod_lt k (show 0 < (h.getD 0 []).length from hm1)
          obtain ⟨x, ex⟩ : ∃ x, k / (h.getD 0 []).length = x := ⟨_, rfl⟩
          obtain ⟨y, ey⟩ : ∃ y, k % (h.getD 0 []).length = y := ⟨_, rfl⟩
          rw [ex] at a1 ⊢
          rw [ey] at a2 ⊢
          omega)]
        simp
  exact key _ (Nat.le_refl _)
end Go.Proofs.YtdfnhodhdfhhcaaDoor
