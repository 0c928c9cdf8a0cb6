/- The law FnPondsAt returns true. -/
import Derived.Test.YtdfnhodhdfhhcaaDoorHolesI
import Derived.Test.YtdfnhodhdfhhcaaDoorDrawsL
import Derived.Test.YtdfnhodhdfhhcaaDoorRowOf
namespace Go.Proofs.YtdfnhodhdfhhcaaDoor
open Go.RowKit

theorem cnt_mono (N : Nat) (T : Nat → Nat → Bool) (B : Nat → Bool) : ∀ (l k : Nat), k ≤ l → cntT N T B k ≤ cntT N T B l
  | 0, k, h => by obtain rfl : k = 0 := by omega
                  exact Int.le_refl _
  | l + 1, k, h => by
    by_cases e : k = l + 1
    · subst e; exact Int.le_refl _
    · have ih := cnt_mono N T B l k (by omega)
      by_cases hl : LeadT N T B l
      · rw [cntT_yes hl]; omega
      · rw [cntT_no hl]; exact ih
theorem cnt_pos {N : Nat} {T : Nat → Nat → Bool} {B : Nat → Bool} {k : Nat} : ∀ c, c < k → B c = true → 0 < cntT N T B k
  | c, hc, hB => by
    by_cases h : ∃ b, b < c ∧ B b = true
    · obtain ⟨b, hb, hB'⟩ := h
      exact cnt_pos b (by omega) hB'
    · have hl : LeadT N T B c := ⟨hB, fun ⟨b, h1, h2, _⟩ => h ⟨b, h1, h2⟩⟩
      have h1 := cntT_yes hl
      have h2 := (cntT_le N T B c).1
      have h3 := cnt_mono N T B k (c + 1) hc
      omega
theorem cnt_none {N : Nat} {T : Nat → Nat → Bool} {B : Nat → Bool} : ∀ k, (∀ c, c < k → B c = false) → cntT N T B k = 0
  | 0, _ => rfl
  | k + 1, h => by
    rw [cntT_no (fun hl => by have := h k (by omega); rw [hl.1] at this; cases this)]
    exact cnt_none k fun c hc => h c (by omega)
theorem area_all (p : List Int) (t : Int) : ∀ k, sumTo (fun i => if above p t i = true then (1 : Int) else 0) k ≤ k ∧ (sumTo (fun i => if above p t i = true then (1 : Int) else 0) k = k ↔ ∀ i, i < k → above p t i = true)
  | 0 => ⟨Int.le_refl _, fun _ _ h => absurd h (Nat.not_lt_zero _), fun _ => rfl⟩
  | k + 1 => by
    obtain ⟨h1, h2⟩ := area_all p t k
    rw [sumTo]
    by_cases h : above p t k = true
    · rw [if_pos h]
      refine ⟨by omega, fun e i hi => ?_, fun hA => ?_⟩
      · by_cases e2 : i = k
        · subst e2; exact h
        · exact h2.1 (by omega) i (by omega)
      · have := h2.2 fun i hi => hA i (by omega)
        omega
    · rw [if_neg h]
      exact ⟨by omega, fun e => by omega, fun hA => absurd (hA k (by omega)) h⟩
/-- Nothing is up to t just when all are above. -/
theorem none_below {p : List Int} {t : Int} {N : Nat} {T : Nat → Nat → Bool} (hp : p.length = N) : cntT N T (below p t) N = 0 ↔ areaL p t = N := by
  have ha := area_all p t N
  unfold areaL
  rw [hp, ha.2]
  constructor
  · intro h i hi
    cases e : above p t i with
    | true => rfl
    | false =>
      have := cnt_pos (T := T) (N := N) (B := below p t) i hi (by unfold below; rw [e]; rfl)
      omega
  · intro h
    exact cnt_none N fun c hc => by unfold below; rw [h c hc]; rfl

set_option maxRecDepth 100000 in
set_option maxHeartbeats 4000000 in
theorem FnPondsAt_any (v : Value) (bs : List Int) (w : World) (hv : NumsV .u8 w v bs) (hb : ∀ i, i < bs.length → 0 ≤ bs.getD i 0 ∧ bs.getD i 0 ≤ 255) (hS : Tc.Steps w) :
    Calls Tryd.prog 6 #[v] w fun e w' => e = .returned (.bool true) ∧ Grew w w' := by
  have HD := Lib.hid (DrawPondsAt_any v bs w hv hb)
  have HS := Lib.hid hS
  obtain ⟨a, b, o, c, rfl, ⟨hlc, hcb⟩, _, _⟩ := hv.shape
  clear hv hb hS
  by_cases hbig : 1048576 < bs.length
  · go_enter Tryd.func6, Tryd.ntmps6
    go_wp2
    go_ret
    exact ⟨rfl, Grew.refl _⟩
  · go_enter Tryd.func6, Tryd.ntmps6
    go_wp2_with (fail)
    refine HD.out.mono ?_
    rintro e w1 ⟨v1, h, t, rfl, hO, hd, ht, hg1⟩
    have HV := Lib.hid (And.intro hO.toV hg1)
    have HS1 : Hid (Tc.Steps w1) := Lib.hid (HS.out.grew hg1)
    obtain ⟨a3, c3, rfl⟩ := hO.sh
    obtain ⟨X, eX⟩ : ∃ X, pondsX h t = X := ⟨_, rfl⟩
    have HX := Lib.hid eX
    clear hO hd hg1 HD eX
    go_wp2_with (fail)
    (with_reducible refine (PondsAt_any _ h t _ HV.out.1 HS1.out).mono ?_)
    rw [HX.out]
    rintro e w2 ⟨rfl, hg2⟩
    have HG2 := Lib.hid hg2
    clear hg2
    go_wp2_with (fail)
    (with_reducible refine (SPondsAt_any _ h t _ (HV.out.1.grew HG2.out)).mono ?_)
    rw [HX.out]
    rintro e w3 ⟨rfl, hg3⟩
    have HG3 := Lib.hid (HG2.out.trans hg3)
    clear hg3
    have exx : (X != X) = false := by simp
    cases hp : vLevel h t with
    | false =>
      have hX : X = -1 := by rw [← HX.out]; unfold pondsX; rw [hp]; rfl
      subst hX
      clear hp
      go_wp2_with (fail)
      (with_reducible refine (SPondsAt_any _ h t _ (HV.out.1.grew HG3.out)).mono ?_)
      rw [HX.out]
      rintro e w4 ⟨rfl, hg4⟩
      have HG4 := Lib.hid (HV.out.2.trans (HG3.out.trans hg4))
      clear hg4
      go_wp2
      go_ret
      exact ⟨rfl, HG4.out⟩
    | true =>
      have hg := vLevel_grid hp
      have G := Grid.of hg
      have hpl := flat_grid_len G
      have hx : X = cntT (h.length * (h.getD 0 []).length) (touchB (h.getD 0 []).length true) (below h.flatten t) (h.length * (h.getD 0 []).length) := by rw [← HX.out]; unfold pondsX; rw [if_pos hp]
      have hXb := cntT_le (h.length * (h.getD 0 []).length) (touchB (h.getD 0 []).length true) (below h.flatten t) (h.length * (h.getD 0 []).length)
      rw [← hx] at hXb
      have hiff := none_below (p := h.flatten) (t := t) (T := touchB (h.getD 0 []).length true) hpl
      rw [← hx] at hiff
      obtain ⟨A, eA⟩ : ∃ A, areaX h t = A := ⟨_, rfl⟩
      have hA : A = areaL h.flatten t := by rw [← eA]; unfold areaX; rw [if_pos hp]
      rw [← hA, ← hpl] at hiff
      have HA := Lib.hid eA
      have HHO := Lib.hid (HolesAt_yes _ h t w3 (HV.out.1.grew HG3.out) hp (HS1.out.grew HG3.out))
      have HPC : Hid (∀ f, Tc.Flats h.length (h.getD 0 []).length (bothB (below h.flatten t)) f → ((piecesT f (whereL (h.length * (h.getD 0 []).length) (below h.flatten t))).length : Int) = X) := Lib.hid fun f F => by
        rw [hx]
        exact Tc.pieces_cnt G.n5 G.m5 F _ (Nat.le_refl _)
      have HRO : Hid (∀ W, Grew w1 W → Calls Tryd.prog 15 #[.slice a3 h.length c3] W (FlatPost W h.flatten)) := Lib.hid fun W hW => rowOf_any _ h W (HV.out.1.grew hW) (Nat.le_trans G.n5 (by decide)) (fun r hr => by have := G.len r hr; have := G.m1; have := G.m5; omega)
      have hX0 : ¬ X < 0 := by omega
      have HIF := Lib.hid hiff
      obtain ⟨N, eN⟩ : ∃ N, h.flatten.length = N := ⟨_, rfl⟩
      have HEN := Lib.hid eN
      clear hp hg G hpl hx hXb hiff eA hA eN
      go_wp2_with (fail)
      refine HHO.out.mono ?_
      rintro e w4 ⟨f, hF, rfl, hg4⟩
      have hc := HPC.out f hF
      obtain ⟨L, eL⟩ : ∃ L, piecesT f (whereL (h.length * (h.getD 0 []).length) (below h.flatten t)) = L := ⟨_, rfl⟩
      rw [eL] at hc ⊢
      have hb := holesT_le h.length (h.getD 0 []).length L L.length
      obtain ⟨Z, eZ⟩ : ∃ Z, holesT h.length (h.getD 0 []).length L L.length = Z := ⟨_, rfl⟩
      rw [eZ] at hb ⊢
      have hZX : Z ≤ X := by omega
      have HG4 := Lib.hid (HG3.out.trans hg4)
      clear hF hg4 hc eL hb eZ HHO HPC
      go_wp2_with (fail)
      (with_reducible refine (AreaAt_any _ h t _ (HV.out.1.grew HG4.out)).mono ?_)
      rw [HA.out]
      rintro e w5 ⟨rfl, hg5⟩
      have HG5 := Lib.hid (HG4.out.trans hg5)
      clear hg5
      go_wp2_with (fail)
      refine (HRO.out _ HG5.out).mono ?_
      rintro e w6 ⟨g6, c6, rfl, hO6, hg6⟩
      rw [HEN.out] at hO6 ⊢
      have HG6 := Lib.hid (HV.out.2.trans (HG5.out.trans hg6))
      have hif := HIF.out
      rw [HEN.out] at hif
      clear hO6 hg6
      by_cases hXz : X = 0
      · have hAN : A = (N : Int) := hif.1 hXz
        have e1 : (X == 0) = true := by simp [hXz]
        have e2 : (A == (N : Int)) = true := by simp [hAN]
        clear hif
        go_wp2
        go_ret
        exact ⟨ret_bool (by first | (simp; done) | (simp [e1, e2]; done) | (simp [hXz, hAN]; done) | omega), HG6.out⟩
      · have hAN : ¬ A = (N : Int) := fun e => hXz (hif.2 e)
        have e1 : (X == 0) = false := beq_eq_false_iff_ne.2 hXz
        have e2 : (A == (N : Int)) = false := beq_eq_false_iff_ne.2 hAN
        clear hif
        go_wp2
        go_ret
        exact ⟨ret_bool (by first | (simp; done) | (simp [e1, e2]; done) | (simp [hXz, hAN]; done) | omega), HG6.out⟩
end Go.Proofs.YtdfnhodhdfhhcaaDoor
