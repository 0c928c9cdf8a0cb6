/- The contracts of impl.validPlace, endsSeeEachOther and SeenFrom. -/
import Derived.Test.YtaeenedjmakelaaDoorSSeen
namespace Go.Proofs.YtaeenedjmakelaaDoor
open Go.RowKit

def vPlace (p : List Int) (i : Int) : Bool := vProf p && decide (0 ≤ i) && decide (i < p.length)
set_option maxRecDepth 100000 in
set_option maxHeartbeats 400000 in
theorem validPlace_any (v : Value) (p : List Int) (i : Int) (w : World) (hv : IntsV w v p) :
    Calls Tryd.prog 55 #[v, .int .i64 i] w fun e w' => e = .returned (.bool (vPlace p i)) ∧ w = w' := by
  have HV := Lib.hid (ValidProfile_any v p w hv)
  obtain ⟨a, b, o, c, rfl, ⟨hlc, hcb⟩, _, _⟩ := hv.shape
  clear hv
  cases hp : vProf p
  all_goals
    have HP := Lib.hid hp
    clear hp
    by_cases h0 : 0 ≤ i
    all_goals
      go_enter Tryd.func55, Tryd.ntmps55
      go_wp2_with (fail)
      refine HV.out.mono ?_
      rw [HP.out]
      rintro e w1 ⟨rfl, rfl⟩
      go_wp2
      go_ret
      refine ⟨ret_bool ?_, rfl⟩
      simp [vPlace, HP.out]
      try omega

theorem slicesMax_at (v : Value) (xs : List Int) (w : World) (hv : IntsV w v xs) (h1 : 1 ≤ xs.length) :
    Calls Tryd.prog 88 #[v] w fun e w' => e = .returned (.int .i64 (maxOf xs)) ∧ w' = w :=
  (slicesMax_any v xs w hv h1).mono fun e w' ⟨m, he, hm, hw⟩ => ⟨by rw [he, isMax_eq hm], hw.symm⟩

/-- What endsSeeEachOther tells of a cut. -/
def cutSees (xs : List Int) : Bool := decide (maxOf (tiltL xs (xs.getD (xs.length - 1) 0 - xs.getD 0 0) (((xs.length - 1 : Nat) : Int) - (0 : Nat))) = (tiltL xs (xs.getD (xs.length - 1) 0 - xs.getD 0 0) (((xs.length - 1 : Nat) : Int) - (0 : Nat))).getD 0 0)

set_option maxRecDepth 100000 in
set_option maxHeartbeats 1000000 in
theorem endsSee_any (v : Value) (xs : List Int) (w : World) (hv : IntsV w v xs) (h1 : 1 ≤ xs.length) (h9 : xs.length ≤ 9) (hb : ∀ j, j < xs.length → 0 ≤ xs.getD j 0 ∧ xs.getD j 0 ≤ 12) :
    Calls Tryd.prog 56 #[v] w fun e w' => e = .returned (.bool (cutSees xs)) ∧ Grew w w' := by
  have HV := Lib.hid hv
  have HB := Lib.hid hb
  have HL := Lib.hid (lineBetween_any v xs 0 (xs.length - 1) w hv (by omega) (by omega) (by omega) (fun j hj => by have := hb j hj; omega))
  have hx0 := hb 0 (by omega)
  have hx1 := hb (xs.length - 1) (by omega)
  obtain ⟨a, b, o, c, rfl, ⟨hlc, hcb⟩, _, _⟩ := hv.shape
  obtain ⟨u, eu⟩ : ∃ u, xs.getD (xs.length - 1) 0 - xs.getD 0 0 = u := ⟨_, rfl⟩
  have hub : u.natAbs ≤ 1000 := by omega
  have e1 : ((xs.length - 1 : Nat) : Int) = (xs.length : Int) - 1 := by omega
  obtain ⟨d, ed⟩ : ∃ d, ((xs.length - 1 : Nat) : Int) - (0 : Nat) = d := ⟨_, rfl⟩
  have hdb : d.natAbs ≤ 1000 := by omega
  unfold cutSees
  rw [eu, ed] at HL ⊢
  rw [e1] at HL
  obtain ⟨L, eL⟩ : ∃ L, tiltL xs u d = L := ⟨_, rfl⟩
  rw [eL]
  have hLl : L.length = xs.length := by rw [← eL, tiltL_len]
  obtain ⟨y, ey⟩ : ∃ y, L.getD 0 0 = y := ⟨_, rfl⟩
  obtain ⟨m, em⟩ : ∃ m, maxOf L = m := ⟨_, rfl⟩
  rw [ey, em]
  have HE := Lib.hid (And.intro eL (And.intro hLl (And.intro ey em)))
  clear hv hb hx0 hx1 eu ed e1 eL hLl ey em
  go_enter Tryd.func56, Tryd.ntmps56
  go_wp2_with (fail)
  refine HL.out.mono ?_
  rintro e w1 ⟨rfl, hg1⟩
  have HG1 := Lib.hid hg1
  clear hg1
  go_wp2_with (fail)
  refine (tilted_any _ xs u d w1 (HV.out.grew HG1.out) h9 hub hdb (fun j hj => by have := HB.out j hj; omega)).mono ?_
  rintro e w2 ⟨g, c2, rfl, hO2, hg2⟩
  rw [HE.out.1] at hO2
  obtain ⟨hc0, _⟩ := hO2.at rfl (i := 0) (by rw [HE.out.2.1]; exact h1)
  have hM : ∀ n, Calls Tryd.prog 88 #[.slice (some ⟨g, 0, none⟩) xs.length c2] (w2.drewN n) fun e w' => e = .returned (.int .i64 (maxOf L)) ∧ w' = w2.drewN n :=
    fun n => slicesMax_at _ L (w2.drewN n) (hO2.grew ((Grew.refl w2).drewN n)).toV (by rw [HE.out.2.1]; exact h1)
  rw [HE.out.2.2.2] at hM
  rw [HE.out.2.2.1] at hc0
  have HM := Lib.hid hM
  have HG2 := Lib.hid (HG1.out.trans hg2)
  have r1 : (0 : Int) < xs.length := by omega
  have r2 : 0 < xs.length := by omega
  clear hO2 hg2 hM
  go_wp2
  go_quiet ((go_at_call 88; exact Calls.quiet_of_same (HM.out _)))
  go_wp2
  go_ret
  exact ⟨ret_bool (by first | rfl | (by_cases h : m = y <;> simp [h])), HG2.out.drewN _⟩

theorem cutSees_eq (p : List Int) (a b : Nat) (hab : a ≤ b) (hb : b < p.length) : cutSees (cutL p a (b - a + 1)) = seesB p a b := by
  have hl : (cutL p a (b - a + 1)).length = b - a + 1 := cutL_len _ _ _ (by omega)
  have h0 := cutL_at p a (b - a + 1) 0 (by omega)
  have h1 := cutL_at p a (b - a + 1) (b - a) (by omega)
  rw [← tilt_sees p a b hab hb]
  unfold cutSees
  rw [hl, show b - a + 1 - 1 = b - a by omega, h1, h0, show a + (b - a) = b by omega, show a + 0 = a from rfl, show ((b - a : Nat) : Int) - (0 : Nat) = (b : Int) - a by omega]

theorem IntsV.cut {w : World} {b o n c : Nat} {p : List Int} (h : IntsV w (.slice (some ⟨b, o, none⟩) n c) p) (A m : Nat) (hm : A + m ≤ p.length) : IntsV w (.slice (some ⟨b, o + A, none⟩) m m) (cutL p A m) := by
  obtain ⟨a', b', o', c', e, hl, hc⟩ := h
  have hcl := cutL_len p A m hm
  refine ⟨_, b, o + A, m, by rw [hcl], ⟨by omega, by omega⟩, fun i hi => ⟨rfl, ?_⟩⟩
  rw [hcl] at hi
  obtain ⟨h1, h2⟩ := hc (A + i) (by omega)
  simp only [Value.slice.injEq] at e
  rw [h1] at e
  simp only [Option.some.injEq, Addr.mk.injEq] at e
  obtain ⟨⟨rfl, rfl, _⟩, _, _⟩ := e
  rw [cutL_at p A m i hi, Nat.add_assoc]
  exact h2

/-- The first k of what is seen, then false. -/
def seenTo (p : List Int) (i k : Nat) : List Bool := (seenL p i).take k ++ List.replicate (p.length - k) false
theorem seenTo_len (p : List Int) (i k : Nat) (h : k ≤ p.length) : (seenTo p i k).length = p.length := by simp [seenTo, seenL_len]; omega
theorem seenTo_set (p : List Int) (i k : Nat) (h : k < p.length) : (seenTo p i k).set k (seesB p (min i k) (max i k)) = seenTo p i (k + 1) := by
  have e1 : ((seenL p i).take k).length = k := by simp [seenL_len]; omega
  have e2 : p.length - k = (p.length - (k + 1)) + 1 := by omega
  have hk : k < (seenL p i).length := by rw [seenL_len]; exact h
  unfold seenTo
  rw [List.set_append_right _ _ (by omega), e1, Nat.sub_self, e2, List.replicate_succ, List.set_cons_zero, List.take_succ_eq_append_getElem hk, List.append_assoc]
  have := seenL_at p i k h
  simp [hk] at this
  simp [this]

set_option maxRecDepth 100000 in
set_option maxHeartbeats 1000000 in
theorem Seen_no (v : Value) (p : List Int) (i : Int) (w : World) (hv : IntsV w v p) (h : vPlace p i = false) :
    Calls Tryd.prog 18 #[v, .int .i64 i] w (SeenPost [] w) := by
  have HV := Lib.hid (validPlace_any v p i w hv)
  rw [h] at HV
  obtain ⟨a, b, o, c, rfl, ⟨hlc, hcb⟩, _, _⟩ := hv.shape
  clear hv h
  go_enter Tryd.func18, Tryd.ntmps18
  go_wp2_with (fail)
  refine HV.out.mono ?_
  rintro e w1 ⟨rfl, rfl⟩
  go_wp2
  go_ret
  exact ⟨_, rfl, BoolsO.nil _ _ _ _, Grew.refl _⟩

set_option maxRecDepth 100000 in
set_option maxHeartbeats 1000000 in
theorem Seen_yes (v : Value) (p : List Int) (i : Nat) (w : World) (hv : IntsV w v p) (hp : vProf p = true) (hi : i < p.length) :
    Calls Tryd.prog 18 #[v, .int .i64 i] w (SeenPost (seenL p i) w) := by
  obtain ⟨h1, h9⟩ := vProf_len hp
  have HV := Lib.hid hv
  have HP := Lib.hid hp
  have hpl : vPlace p i = true := by simp [vPlace, hp, hi]
  have HPL := Lib.hid (validPlace_any v p i w hv)
  rw [hpl] at HPL
  obtain ⟨a, b, o, c, rfl, ⟨hlc, hcb⟩, ha, _⟩ := hv.shape
  obtain rfl := ha h1
  clear hv hp hpl ha
  have hlen : p.length ≤ 17592186044416 := by omega
  go_enter Tryd.func18, Tryd.ntmps18
  go_wp2_with (fail)
  refine HPL.out.mono ?_
  rintro e w1 ⟨rfl, rfl⟩
  go_wp2_with (at_make; refine wpList_make_bools rfl (.tmp 14) (.tmp 14) 29 rfl Tryd.underlying29 Tryd.infoBool rfl rfl rfl rfl hlen ?_; intro w1 hO1 hg1 hs1; have H1 := Lib.hid (And.intro hO1 hg1); clear hO1 hg1)
  have H0 : Hid (BoolsO 4 w.heap.size w1.heap.size w1 (.slice (some ⟨w.heap.size, 0, none⟩) p.length p.length) (seenTo p i 0) ∧ Grew w w1) := by
    refine ⟨?_, H1.out.2⟩
    have : seenTo p i 0 = List.replicate p.length false := by simp [seenTo]
    rw [this]; exact H1.out.1
  clear H1
  go_loopw [18] (fun i' wr => ∃ k : Nat, k ≤ p.length ∧ i' = .int .i64 k ∧ Hid (BoolsO 4 w.heap.size w1.heap.size wr (.slice (some ⟨w.heap.size, 0, none⟩) p.length p.length) (seenTo p i k) ∧ Grew w wr)) (fun i' _ => p.length - (intOf i').toNat)
  case atStart => exact ⟨0, Nat.zero_le _, rfl, H0⟩
  case round =>
    obtain ⟨k, hk, rfl, HI⟩ := hrel
    clear H0
    by_cases hlt : k < p.length
    · obtain ⟨A, hA⟩ : ∃ A, min i k = A := ⟨_, rfl⟩
      obtain ⟨B, hB⟩ : ∃ B, max i k = B := ⟨_, rfl⟩
      have e1 : min (i : Int) (k : Int) = (A : Int) := by omega
      have e2 : max (i : Int) (k : Int) = (B : Int) := by omega
      have hAB : A ≤ B := by omega
      have hBl : B < p.length := by omega
      have HAB := Lib.hid (And.intro hA hB)
      clear hA hB
      have HC : Hid (Calls Tryd.prog 56 #[.slice (some ⟨b, o + A, none⟩) (B + 1 - A) (B + 1 - A)] wr fun e w' => e = .returned (.bool (seesB p A B)) ∧ Grew wr w') := by
        have hcut := IntsV.cut (HV.out.grew HI.out.2) A (B + 1 - A) (by omega)
        have hcl := cutL_len p A (B + 1 - A) (by omega)
        have := endsSee_any _ (cutL p A (B + 1 - A)) wr hcut (by omega) (by omega) (fun j hj => by
          rw [hcl] at hj
          rw [cutL_at p A _ j hj]
          exact vProf_at HP.out _ (by omega))
        have e := cutSees_eq p A B hAB hBl
        rw [show B - A + 1 = B + 1 - A by omega] at e
        rw [e] at this
        exact this
      go_wp2_with (fail)
      refine HC.out.mono ?_
      rintro e w2 ⟨rfl, hg2⟩
      have HG := Lib.hid hg2
      obtain ⟨hel, hfr⟩ := (HI.out.1.grew hg2).at rfl (i := k) (by rw [seenTo_len p i k hk]; exact hlt)
      obtain ⟨z, ez⟩ : ∃ z, (seenTo p i k).getD k false = z := ⟨_, rfl⟩
      rw [ez] at hel
      obtain ⟨y, ey⟩ : ∃ y, seesB p A B = y := ⟨_, rfl⟩
      have HY := Lib.hid ey
      rw [ey]
      clear ez ey hg2 HC e1 e2
      go_wp2
      go_roundw
      case rel => exact ⟨k + 1, by omega, by go_num, by
        have := (HI.out.1.grew HG.out).set rfl k y
        rw [← HY.out, ← HAB.out.1, ← HAB.out.2, seenTo_set p i k hlt] at this
        rw [HAB.out.1, HAB.out.2, HY.out] at this
        exact this, Within.grew (lo := w.heap.size) (hi := w.heap.size + 1) (HI.out.2.trans HG.out) ((Within.refl _ _ _).setCell (p := ⟨w.heap.size, k, none⟩) (Nat.le_refl _) (Nat.lt_succ_self _) _) (Nat.le_refl _)⟩
      case measure => simp [intOf]; omega
    · obtain rfl : k = p.length := by omega
      go_wp2
      go_ret
      have hO := HI.out.1
      have e : seenTo p i p.length = seenL p i := by
        unfold seenTo
        rw [List.take_of_length_le (by rw [seenL_len]; exact Nat.le_refl _), Nat.sub_self]
        simp
      rw [e] at hO
      exact ⟨_, rfl, ⟨hO.1, fun g e => (World.ownsRow.lt hO.1 g e).2⟩, HI.out.2⟩

theorem SeenFrom_any (v : Value) (p : List Int) (i : Int) (w : World) (hv : IntsV w v p) :
    Calls Tryd.prog 18 #[v, .int .i64 i] w (SeenPost (seenX p i) w) := by
  unfold seenX
  by_cases h : vProf p = true ∧ 0 ≤ i ∧ i < p.length
  · rw [if_pos h]
    have := Seen_yes v p i.toNat w hv h.1 (by omega)
    rwa [Int.toNat_of_nonneg h.2.1] at this
  · rw [if_neg h]
    refine Seen_no v p i w hv ?_
    cases hq : vPlace p i with
    | false => rfl
    | true =>
      simp only [vPlace, Bool.and_eq_true, decide_eq_true_eq] at hq
      exact absurd ⟨hq.1.1, hq.1.2, hq.2⟩ h
end Go.Proofs.YtaeenedjmakelaaDoor
