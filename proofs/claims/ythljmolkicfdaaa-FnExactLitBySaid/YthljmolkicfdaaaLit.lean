/- The contracts of impl.LitBy and spec.LitBy. -/
import Derived.Test.YthljmolkicfdaaaSeen
namespace Go.Proofs.Ythljmolkicfdaaa
open Go.RowKit

/-- Below k no place behind i is above the line from it. -/
def litTo (p : List Int) (up ac : Int) (i k : Nat) : Bool := (List.range k).all fun x => !decide (i < x) || decide ((p.getD x 0 - p.getD i 0) * ac ≤ up * ((x : Int) - i))
def litB (p : List Int) (up ac : Int) (i : Nat) : Bool := litTo p up ac i p.length
theorem litTo_iff (p : List Int) (up ac : Int) (i k : Nat) : litTo p up ac i k = true ↔ ∀ x, i < x → x < k → (p.getD x 0 - p.getD i 0) * ac ≤ up * ((x : Int) - i) := by
  simp only [litTo, List.all_eq_true, List.mem_range, Bool.or_eq_true, Bool.not_eq_true', decide_eq_false_iff_not, decide_eq_true_eq]
  constructor
  · intro h x h1 h2
    rcases h x h2 with h3 | h3
    · exact absurd h1 h3
    · exact h3
  · intro h x h2
    by_cases h1 : i < x
    · exact .inr (h x h1 h2)
    · exact .inl h1
theorem litTo_succ (p : List Int) (up ac : Int) (i k : Nat) (h : i < k) : litTo p up ac i (k + 1) = (litTo p up ac i k && decide ((p.getD k 0 - p.getD i 0) * ac ≤ up * ((k : Int) - i))) := by
  unfold litTo
  rw [List.range_succ, List.all_append]
  simp [h]
theorem litTo_start (p : List Int) (up ac : Int) (i : Nat) : litTo p up ac i (i + 1) = true := by
  rw [litTo_iff]; intro x h1 h2; omega
def litL (p : List Int) (up ac : Int) : List Bool := (List.range p.length).map fun i => litB p up ac i
theorem litL_len (p : List Int) (up ac : Int) : (litL p up ac).length = p.length := by simp [litL]
theorem litL_at (p : List Int) (up ac : Int) (i : Nat) (h : i < p.length) : (litL p up ac).getD i false = litB p up ac i := by simp [litL, h]

/-- The greatest of the rest of a tilted row is its first exactly if the sun shines on it. -/
theorem tilt_lit (p : List Int) (up ac : Int) (i : Nat) (hi : i < p.length) : decide (maxOf ((tiltL p up ac).drop i) = (tiltL p up ac).getD i 0) = litB p up ac i := by
  have hl : ((tiltL p up ac).drop i).length = p.length - i := by simp [tiltL_len]
  have hat : ∀ j, i + j < p.length → ((tiltL p up ac).drop i).getD j 0 = p.getD (i + j) 0 * ac - up * ((i + j : Nat) : Int) := fun j hj => by
    rw [← tiltL_at p up ac (i + j) hj]
    simp [List.getD_eq_getElem?_getD, List.getElem?_drop]
  obtain ⟨⟨a, ha, ea⟩, hall⟩ := maxOf_isMax (xs := (tiltL p up ac).drop i) (by omega)
  rw [hl] at ha hall
  rw [tiltL_at p up ac i hi, Bool.eq_iff_iff, decide_eq_true_eq]
  unfold litB
  rw [litTo_iff]
  constructor
  · intro h x h1 h2
    have hx := hall (x - i) (by omega)
    rw [h, hat (x - i) (by omega), show i + (x - i) = x by omega] at hx
    rw [Int.sub_mul, Int.mul_sub]
    omega
  · intro h
    have h0 := hall 0 (by omega)
    rw [hat 0 (by omega)] at h0
    rw [hat a (by omega)] at ea
    rw [← ea] at h0 ⊢
    by_cases e : a = 0
    · subst e; rfl
    · have := h (i + a) (by omega) (by omega)
      rw [Int.sub_mul, Int.mul_sub] at this
      have e0 : p.getD (i + 0) 0 * ac - up * ((i + 0 : Nat) : Int) = p.getD i 0 * ac - up * (i : Int) := rfl
      rw [e0] at h0
      omega

theorem IntsV.rest {w : World} {b o n c : Nat} {p : List Int} (h : IntsV w (.slice (some ⟨b, o, none⟩) n c) p) (A m c' : Nat) (hm : m = p.length - A) (hA : A < p.length) (h1 : m ≤ c') (h2 : c' ≤ 9223372036854775807) : IntsV w (.slice (some ⟨b, o + A, none⟩) m c') (p.drop A) := by
  obtain ⟨a', b', o', c'', e, hl, hc⟩ := h
  have hcl : (p.drop A).length = m := by simp [hm]
  refine ⟨_, b, o + A, c', by rw [hcl], ⟨by omega, h2⟩, fun i hi => ⟨rfl, ?_⟩⟩
  rw [hcl] at hi
  obtain ⟨q1, q2⟩ := hc (A + i) (by omega)
  simp only [Value.slice.injEq] at e
  rw [q1] at e
  simp only [Option.some.injEq, Addr.mk.injEq] at e
  obtain ⟨⟨rfl, rfl, _⟩, _, _⟩ := e
  rw [show (p.drop A).getD i 0 = p.getD (A + i) 0 by simp [List.getD_eq_getElem?_getD, List.getElem?_drop], Nat.add_assoc]
  exact q2

/-- What LitBy answers at all arguments. -/
def litOk (p : List Int) (up ac : Int) : Bool := vProf p && inR up 0 12 && inR ac 1 9
def litX (p : List Int) (up ac : Int) : List Bool := if litOk p up ac = true then litL p up ac else []
/-- The first k of what is lit, then false. -/
def litFill (p : List Int) (up ac : Int) (k : Nat) : List Bool := (litL p up ac).take k ++ List.replicate (p.length - k) false
theorem litFill_len (p : List Int) (up ac : Int) (k : Nat) (h : k ≤ p.length) : (litFill p up ac k).length = p.length := by simp [litFill, litL_len]; omega
theorem litFill_set (p : List Int) (up ac : Int) (k : Nat) (h : k < p.length) : (litFill p up ac k).set k (litB p up ac k) = litFill p up ac (k + 1) := by
  have e1 : ((litL p up ac).take k).length = k := by simp [litL_len]; omega
  have e2 : p.length - k = (p.length - (k + 1)) + 1 := by omega
  have hk : k < (litL p up ac).length := by rw [litL_len]; exact h
  unfold litFill
  rw [List.set_append_right _ _ (by omega), e1, Nat.sub_self, e2, List.replicate_succ, List.set_cons_zero, List.take_succ_eq_append_getElem hk, List.append_assoc]
  have := litL_at p up ac k h
  simp [hk] at this
  simp [this]

set_option maxRecDepth 100000 in
set_option maxHeartbeats 1000000 in
theorem Lit_no (v : Value) (p : List Int) (up ac : Int) (w : World) (hv : IntsV w v p) (h : litOk p up ac = false) :
    Calls Try.prog 22 #[v, .int .i64 up, .int .i64 ac] w (SeenPost [] w) := by
  have HV := Lib.hid (ValidProfile_any v p w hv)
  obtain ⟨a, b, o, c, rfl, ⟨hlc, hcb⟩, _, _⟩ := hv.shape
  clear hv
  simp only [litOk, inR, Bool.and_eq_false_iff, decide_eq_false_iff_not] at h
  cases hp : vProf p with
  | false =>
    have HP := Lib.hid hp
    clear hp h
    go_enter Try.func22, Try.ntmps22
    go_wp2_with (fail)
    refine HV.out.mono ?_
    rw [HP.out]
    rintro e w1 ⟨rfl, rfl⟩
    go_wp2
    go_ret
    exact ⟨_, rfl, BoolsO.nil _ _ _ _, Grew.refl _⟩
  | true =>
    have HP := Lib.hid hp
    rw [hp] at h
    have h' : ¬ 0 ≤ up ∨ ¬ up ≤ 12 ∨ ¬ 1 ≤ ac ∨ ¬ ac ≤ 9 := by
      rcases h with (h | h) | h
      · cases h
      · omega
      · omega
    clear hp h
    have h2 : up < 0 ∨ (0 ≤ up ∧ 12 < up) ∨ (0 ≤ up ∧ up ≤ 12 ∧ ac < 1) ∨ (0 ≤ up ∧ up ≤ 12 ∧ 1 ≤ ac ∧ 9 < ac) := by omega
    clear h'
    rcases h2 with h2 | ⟨h2, h3⟩ | ⟨h2, h3, h4⟩ | ⟨h2, h3, h4, h5⟩
    all_goals
      go_enter Try.func22, Try.ntmps22
      go_wp2_with (fail)
      refine HV.out.mono ?_
      rw [HP.out]
      rintro e w1 ⟨rfl, rfl⟩
      go_wp2
      go_ret
      exact ⟨_, rfl, BoolsO.nil _ _ _ _, Grew.refl _⟩

set_option maxRecDepth 100000 in
set_option maxHeartbeats 1000000 in
theorem Lit_yes (v : Value) (p : List Int) (up ac : Int) (w : World) (hv : IntsV w v p) (h : litOk p up ac = true) :
    Calls Try.prog 22 #[v, .int .i64 up, .int .i64 ac] w (SeenPost (litL p up ac) w) := by
  have HV := Lib.hid (ValidProfile_any v p w hv)
  simp only [litOk, inR, Bool.and_eq_true, decide_eq_true_eq] at h
  obtain ⟨⟨hp, hu0, hu1⟩, ha0, ha1⟩ := h
  obtain ⟨h1, h9⟩ := vProf_len hp
  have HT := Lib.hid (tilted_any v p up ac w hv h9 (by omega) (by omega) (fun j hj => by have := vProf_at hp j hj; omega))
  have HP := Lib.hid hp
  obtain ⟨a, b, o, c, rfl, ⟨hlc, hcb⟩, _, _⟩ := hv.shape
  clear hv hp
  have hlen : p.length ≤ 17592186044416 := by omega
  go_enter Try.func22, Try.ntmps22
  go_wp2_with (fail)
  refine HV.out.mono ?_
  rw [HP.out]
  rintro e w1 ⟨rfl, rfl⟩
  go_wp2_with (fail)
  refine HT.out.mono ?_
  rintro e w1 ⟨g, c1, rfl, hO1, hg1⟩
  have hsh : p.length ≤ c1 ∧ c1 ≤ 9223372036854775807 := by
    rcases hO1.shape with ⟨e, _⟩ | ⟨g', c', e, _, _, q1, q2⟩
    · cases e
    · simp only [Value.slice.injEq] at e
      rw [tiltL_len] at q1 e
      unfold maxLen at q2
      obtain ⟨_, _, rfl⟩ := e
      omega
  obtain ⟨hc1, hc2⟩ := hsh
  have hb1 := hO1.blk
  have HO1 := Lib.hid (And.intro hO1 hg1)
  clear hO1 hg1
  go_wp2_with (at_make; refine wpList_make_bools rfl (.tmp 35) (.tmp 35) 27 rfl Try.underlying27 Try.infoBool rfl rfl rfl rfl hlen ?_; intro w2 hO2 hg2 hs2; have H2 := Lib.hid (And.intro hO2 hg2); clear hO2 hg2)
  have H0 : Hid (BoolsO 4 w1.heap.size w2.heap.size w2 (.slice (some ⟨w1.heap.size, 0, none⟩) p.length p.length) (litFill p up ac 0) ∧ Grew w1 w2) := by
    refine ⟨?_, H2.out.2⟩
    have : litFill p up ac 0 = List.replicate p.length false := by simp [litFill]
    rw [this]; exact H2.out.1
  clear H2
  go_loopw [39] (fun i' wr => ∃ k : Nat, k ≤ p.length ∧ i' = .int .i64 k ∧ Hid (BoolsO 4 w1.heap.size w2.heap.size wr (.slice (some ⟨w1.heap.size, 0, none⟩) p.length p.length) (litFill p up ac k) ∧ Grew w1 wr)) (fun i' _ => p.length - (intOf i').toNat)
  case atStart => exact ⟨0, Nat.zero_le _, rfl, H0⟩
  case round =>
    obtain ⟨k, hk, rfl, HI⟩ := hrel
    clear H0
    by_cases hlt : k < p.length
    · obtain ⟨hel, hfr⟩ := HI.out.1.at rfl (i := k) (by rw [litFill_len p up ac k hk]; exact hlt)
      obtain ⟨z, ez⟩ : ∃ z, (litFill p up ac k).getD k false = z := ⟨_, rfl⟩
      rw [ez] at hel
      have hT := HO1.out.1.grew HI.out.2
      obtain ⟨hck, _⟩ := hT.at rfl (i := k) (by rw [tiltL_len]; exact hlt)
      obtain ⟨y, ey⟩ : ∃ y, (tiltL p up ac).getD k 0 = y := ⟨_, rfl⟩
      rw [ey] at hck
      obtain ⟨m, em⟩ : ∃ m, maxOf ((tiltL p up ac).drop k) = m := ⟨_, rfl⟩
      have HE : Hid (decide (m = y) = litB p up ac k) := by rw [← em, ← ey]; exact tilt_lit p up ac k hlt
      have HM : Hid (∀ W, Grew wr W → Calls Try.prog 47 #[.slice (some ⟨g, k, none⟩) (p.length - k) (c1 - k)] W fun e w' => e = .returned (.int .i64 m) ∧ w' = W) := fun W hW => by
        have hV := (hT.grew hW).toV.rest k (p.length - k) (c1 - k) (by rw [tiltL_len]) (by rw [tiltL_len]; exact hlt) (by omega) (by omega)
        rw [Nat.zero_add] at hV
        have := slicesMax_at _ _ W hV (by simp [tiltL_len]; omega)
        rw [em] at this
        exact this
      have r1 : (k : Int) < p.length := by omega
      have r2 : (0 : Int) ≤ k := by omega
      have r3 : (k : Int) ≤ p.length := by omega
      have r4 : k < c1 := by omega
      have r5 : ¬ c1 = k := by omega
      clear ez ey em hT
      go_wp2
      go_still_tail 12, (by kernel_rfl)
      still_call (HM.out _ ((Grew.refl wr).drew))
      repeat still_step
      refine wpStill_nil ?_
      change wpList _ _ _ _ _ wr.drew
      obtain ⟨W3, hW3⟩ : ∃ W3, wr.drew = W3 := ⟨_, rfl⟩
      have hel3 : W3.cell? ⟨w1.heap.size, k, none⟩ = some (.bool z) := by rw [← hW3]; exact hel
      have hfr3 : W3.frozen? ⟨w1.heap.size, k, none⟩ = false := by rw [← hW3]; exact hfr
      have H3 : Hid (BoolsO 4 w1.heap.size w2.heap.size W3 (.slice (some ⟨w1.heap.size, 0, none⟩) p.length p.length) (litFill p up ac k) ∧ Grew w1 W3) := by
        rw [← hW3]; exact ⟨HI.out.1.grew ((Grew.refl _).drew), HI.out.2.drew⟩
      rw [hW3]
      clear hW3 hel hfr hck
      go_wp2
      go_roundw
      case rel => exact ⟨k + 1, by omega, by go_num, by
        have := H3.out.1.set rfl k (m == y)
        have e : (m == y) = litB p up ac k := HE.out
        rw [e, litFill_set p up ac k hlt] at this
        rw [e]
        exact this, Within.grew (lo := w1.heap.size) (hi := w1.heap.size + 1) H3.out.2 ((Within.refl _ _ _).setCell (p := ⟨w1.heap.size, k, none⟩) (Nat.le_refl _) (Nat.lt_succ_self _) _) (Nat.le_refl _)⟩
      case measure => simp [intOf]; omega
    · obtain rfl : k = p.length := by omega
      go_wp2
      go_ret
      have hO := HI.out.1
      have e : litFill p up ac p.length = litL p up ac := by
        unfold litFill
        rw [List.take_of_length_le (by rw [litL_len]; exact Nat.le_refl _), Nat.sub_self]
        simp
      rw [e] at hO
      exact ⟨_, rfl, ⟨ownsRow_base hO.1 HO1.out.2.size, fun g e => (World.ownsRow.lt hO.1 g e).2⟩, HO1.out.2.trans HI.out.2⟩
theorem LitBy_any (v : Value) (p : List Int) (up ac : Int) (w : World) (hv : IntsV w v p) :
    Calls Try.prog 22 #[v, .int .i64 up, .int .i64 ac] w (SeenPost (litX p up ac) w) := by
  unfold litX
  cases h : litOk p up ac with
  | true => rw [if_pos rfl]; exact Lit_yes v p up ac w hv h
  | false => rw [if_neg (by simp)]; exact Lit_no v p up ac w hv h

set_option maxRecDepth 100000 in
set_option maxHeartbeats 1000000 in
theorem SLit_no (v : Value) (p : List Int) (up ac : Int) (w : World) (hv : IntsV w v p) (h : litOk p up ac = false) :
    Calls Try.prog 24 #[v, .int .i64 up, .int .i64 ac] w (SeenPost [] w) := by
  have HV := Lib.hid hv
  obtain ⟨a, b, o, c, rfl, ⟨hlc, hcb⟩, _, _⟩ := hv.shape
  clear hv
  simp only [litOk] at h
  cases hp : vProf p with
  | false =>
    have HP := Lib.hid hp
    clear hp h
    go_enter Try.func24, Try.ntmps24
    go_wp2_with (fail)
    refine (sValidProfile0_any _ p _ HV.out).mono ?_
    rw [HP.out]
    rintro e w1 ⟨rfl, rfl⟩
    go_wp2
    go_ret
    exact ⟨_, rfl, BoolsO.nil _ _ _ _, Grew.refl _⟩
  | true =>
    have HP := Lib.hid hp
    rw [hp] at h
    clear hp
    cases hu : inR up 0 12 with
    | false =>
      have HU := Lib.hid hu
      clear hu h
      go_enter Try.func24, Try.ntmps24
      go_wp2_with (fail)
      refine (sValidProfile0_any _ p _ HV.out).mono ?_
      rw [HP.out]
      rintro e w1 ⟨rfl, rfl⟩
      go_wp2_with (fail)
      refine (inRange_any _ _ _ _).mono ?_
      rw [HU.out]
      rintro e w1 ⟨rfl, rfl⟩
      go_wp2
      go_ret
      exact ⟨_, rfl, BoolsO.nil _ _ _ _, Grew.refl _⟩
    | true =>
      have HU := Lib.hid hu
      rw [hu] at h
      have HA : Hid (inR ac 1 9 = false) := by show _ = _; simpa using h
      clear hu h
      go_enter Try.func24, Try.ntmps24
      go_wp2_with (fail)
      refine (sValidProfile0_any _ p _ HV.out).mono ?_
      rw [HP.out]
      rintro e w1 ⟨rfl, rfl⟩
      go_wp2_with (fail)
      refine (inRange_any _ _ _ _).mono ?_
      rw [HU.out]
      rintro e w1 ⟨rfl, rfl⟩
      go_wp2_with (fail)
      refine (inRange_any _ _ _ _).mono ?_
      rw [HA.out]
      rintro e w1 ⟨rfl, rfl⟩
      go_wp2
      go_ret
      exact ⟨_, rfl, BoolsO.nil _ _ _ _, Grew.refl _⟩

set_option maxRecDepth 100000 in
set_option maxHeartbeats 2000000 in
theorem SLit_yes (v : Value) (p : List Int) (up ac : Int) (w : World) (hv : IntsV w v p) (h : litOk p up ac = true) :
    Calls Try.prog 24 #[v, .int .i64 up, .int .i64 ac] w (SeenPost (litL p up ac) w) := by
  have HV := Lib.hid hv
  simp only [litOk, Bool.and_eq_true] at h
  obtain ⟨⟨hp, hu⟩, ha⟩ := h
  obtain ⟨h1, h9⟩ := vProf_len hp
  have HP := Lib.hid hp
  have HU := Lib.hid hu
  have HA := Lib.hid ha
  simp only [inR, Bool.and_eq_true, decide_eq_true_eq] at hu ha
  obtain ⟨hu0, hu1⟩ := hu
  obtain ⟨ha0, ha1⟩ := ha
  obtain ⟨a, b, o, c, rfl, ⟨hlc, hcb⟩, hsa, HC⟩ := hv.shape
  obtain rfl := hsa h1
  clear hv hp hsa
  go_enter Try.func24, Try.ntmps24
  go_wp2_with (fail)
  refine (sValidProfile0_any _ p _ HV.out).mono ?_
  rw [HP.out]
  rintro e w1 ⟨rfl, rfl⟩
  go_wp2_with (fail)
  refine (inRange_any _ _ _ _).mono ?_
  rw [HU.out]
  rintro e w1 ⟨rfl, rfl⟩
  go_wp2_with (fail)
  refine (inRange_any _ _ _ _).mono ?_
  rw [HA.out]
  rintro e w1 ⟨rfl, rfl⟩
  go_wp2_with (fail)
  have H0 : Hid (([] : List Bool) = (litL p up ac).take 0 ∧ BoolsO 4 w.heap.size (w.alloc (.cells #[] 4)).heap.size (w.alloc (.cells #[] 4)) (.slice (some ⟨w.heap.size, 0, none⟩) 0 0) [] ∧ Grew w (w.alloc (.cells #[] 4))) :=
    ⟨rfl, BoolsO.litAt _ _ _ _ _ _ [] #[] rfl rfl rfl (Nat.le_refl _) (by simp) (by simp), (Grew.refl _).alloc _⟩
  go_loopw [7, 8] (fun v i' wr => ∃ (xs : List Bool) (g c : Nat), v = .slice (some ⟨g, 0, none⟩) (List.length xs) c ∧ List.length xs ≤ p.length ∧ i' = .int .i64 (List.length xs) ∧ Hid (xs = (litL p up ac).take (List.length xs) ∧ BoolsO 4 w.heap.size wr.heap.size wr v xs ∧ Grew w wr)) (fun _ i' _ => p.length - (intOf i').toNat)
  case atStart => exact ⟨[], _, _, rfl, Nat.zero_le _, rfl, H0⟩
  case round =>
    obtain ⟨xs, g, c2, rfl, hx, rfl, HI⟩ := hrel
    clear H0
    obtain ⟨wo, rfl⟩ : ∃ wo : World, wo = wr := ⟨_, rfl⟩
    by_cases hlt : xs.length < p.length
    · obtain ⟨i, hi⟩ : ∃ i, xs.length = i := ⟨_, rfl⟩
      have hi' : i < p.length := by omega
      have hci0 := HI.out.2.2.cell (HC.out i hi')
      have bi := vProf_at HP.out i hi'
      obtain ⟨x, ex⟩ : ∃ x, p.getD i 0 = x := ⟨_, rfl⟩
      rw [ex] at hci0 bi
      have HX := Lib.hid (And.intro ex (And.intro hci0 hi))
      rw [hi] at hlt hx ⊢
      clear ex hci0 hi
      go_wp2
      go_loopw [9, 10] (fun l k wr => ∃ (L : Bool) (K : Nat), i < K ∧ K ≤ p.length ∧ l = .bool L ∧ k = .int .i64 K ∧ Hid (L = litTo p up ac i K ∧ Grew wo wr)) (fun _ k _ => p.length - (intOf k).toNat)
      case atStart => exact ⟨true, i + 1, by omega, by omega, rfl, by go_num, (litTo_start p up ac i).symm, Grew.refl _⟩
      case round =>
        obtain ⟨L, K, hiK, hK, rfl, rfl, HJ⟩ := hrel
        by_cases hltK : K < p.length
        · have r1 : (K : Int) < p.length := by omega
          have r2 : (i : Int) < p.length := by omega
          have r3 : (0 : Int) ≤ K := by omega
          have r4 : (0 : Int) ≤ i := by omega
          have hcK := (HI.out.2.2.trans HJ.out.2).cell (HC.out K hltK)
          have hci := HJ.out.2.cell HX.out.2.1
          have bK := vProf_at HP.out K hltK
          obtain ⟨z, ez⟩ : ∃ z, p.getD K 0 = z := ⟨_, rfl⟩
          rw [ez] at hcK bK
          have HZ := Lib.hid ez
          have m1 := mul_bd (z - x) ac 100 100 (by omega) (by omega)
          have m2 := mul_bd up ((K : Int) - i) 100 100 (by omega) (by omega)
          have w1 : IntKind.i64.wrap (z - x) = z - x := wrap_small _ (by omega) (by omega)
          have w2 : IntKind.i64.wrap ((z - x) * ac) = (z - x) * ac := wrap_small _ (by omega) (by omega)
          have w3 : IntKind.i64.wrap ((K : Int) - i) = (K : Int) - i := wrap_small _ (by omega) (by omega)
          have w4 : IntKind.i64.wrap (up * ((K : Int) - i)) = up * ((K : Int) - i) := wrap_small _ (by omega) (by omega)
          clear ez m1 m2
          cases L with
          | false =>
            go_wp2
            go_quiet (fail)
            go_wp2
            clear w1 w2 w3 w4
            go_roundw
            case rel => exact ⟨false, K + 1, by omega, by omega, rfl, by go_num, by rw [litTo_succ p up ac i K hiK, ← HJ.out.1]; rfl, HJ.out.2.drewN _⟩
            case measure => simp [intOf]; omega
          | true =>
            go_wp2
            go_quiet (fail)
            go_wp2
            clear w1 w2 w3 w4
            go_roundw
            case rel => exact ⟨decide ((z - x) * ac ≤ up * ((K : Int) - i)), K + 1, by omega, by omega, rfl, by go_num, by rw [litTo_succ p up ac i K hiK, ← HJ.out.1, HZ.out, HX.out.1, Bool.true_and], HJ.out.2.drewN _⟩
            case measure => simp [intOf]; omega
        · have HL : Hid (L = litB p up ac i) := by
            have h := HJ.out.1
            rwa [show K = p.length by omega] at h
          have HGA := Lib.hid (HI.out.2.2.trans HJ.out.2)
          have hsz : w.heap.size ≤ wr.heap.size := HGA.out.size
          have HO := Lib.hid ((HI.out.2.1.grew HJ.out.2).wide (Nat.le_refl _) HJ.out.2.size)
          have hl17 : xs.length + 1 ≤ 17592186044416 := by have := HX.out.2.2; omega
          have hlen := HX.out.2.2
          subst hlen
          go_wp2_with (at_builtin; refine wpList_append_bool rfl (.tmp 59) (.tmp 61) 27 rfl Try.underlying27 Try.infoBool rfl rfl rfl HO.out hl17 (by omega) ?_; intro g5 c5 w5 hO5 hW5 hS5)
          have HF : Hid (BoolsO 4 w.heap.size w5.heap.size w5 (.slice (some ⟨g5, 0, none⟩) (xs.length + 1) c5) (xs ++ [L]) ∧ Grew w w5) := ⟨hO5, Within.grew HGA.out hW5 (Nat.le_refl _)⟩
          clear hO5 hW5 hS5
          go_wp2
          go_roundw
          case rel => exact ⟨xs ++ [L], g5, c5, by simp, by simp; omega, by simp, by
            have := take_snocB HI.out.1 (by rw [litL_len]; exact hlt)
            rw [litL_at p up ac _ hlt, ← HL.out] at this
            rw [List.length_append, List.length_singleton, this], HF.out.1, HF.out.2⟩
          case measure => simp [intOf]; omega
    · go_wp2
      go_ret
      have e := HI.out.1
      rw [List.take_of_length_le (by rw [litL_len]; omega)] at e
      have hb := HI.out.2.1
      rw [← e]
      exact ⟨_, rfl, hb, HI.out.2.2⟩
theorem SLitBy_any (v : Value) (p : List Int) (up ac : Int) (w : World) (hv : IntsV w v p) :
    Calls Try.prog 24 #[v, .int .i64 up, .int .i64 ac] w (SeenPost (litX p up ac) w) := by
  unfold litX
  cases h : litOk p up ac with
  | true => rw [if_pos rfl]; exact SLit_yes v p up ac w hv h
  | false => rw [if_neg (by simp)]; exact SLit_no v p up ac w hv h
end Go.Proofs.Ythljmolkicfdaaa
