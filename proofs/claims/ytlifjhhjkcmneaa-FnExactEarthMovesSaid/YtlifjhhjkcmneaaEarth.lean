/- The contracts of impl.canMove, impl.surplusOf, impl.EarthCost, spec.validMove and spec.EarthCost. -/
import Derived.Test.YtlifjhhjkcmneaaSums
import Derived.Test.YtlifjhhjkcmneaaEarthM
import Derived.Test.YtlifjhhjkcmneaaProf
import Derived.Test.YtlifjhhjkcmneaaClone
import Derived.StillTailTactics
namespace Go.Proofs.Ytlifjhhjkcmneaa
open Go.RowKit

/-- What a row amounts to. -/
def psum (p : List Int) : Int := sumTo (fun i => p.getD i 0) p.length
def mvOk (p q : List Int) : Bool := vProf p && (vProf q && (decide (p.length = q.length) && decide (psum p = psum q)))
def surL (p q : List Int) : List Int := (List.range p.length).map fun i => p.getD i 0 - q.getD i 0
theorem surL_len (p q : List Int) : (surL p q).length = p.length := by simp [surL]
theorem surL_at (p q : List Int) (i : Nat) (h : i < p.length) : (surL p q).getD i 0 = p.getD i 0 - q.getD i 0 := by simp [surL, h]
theorem prof_bd {p : List Int} (h : vProf p = true) (i : Nat) (hi : i < p.length) : 0 ≤ p.getD i 0 ∧ p.getD i 0 ≤ 12 := ((vProf_iff p).1 h).2.2 i hi
theorem prof_len {p : List Int} (h : vProf p = true) : 1 ≤ p.length ∧ p.length ≤ 9 := ⟨((vProf_iff p).1 h).1, ((vProf_iff p).1 h).2.1⟩
theorem prof_wide {p : List Int} (h : vProf p = true) (i : Nat) (hi : i < p.length) : -1000 ≤ p.getD i 0 ∧ p.getD i 0 ≤ 1000 := by have := prof_bd h i hi; omega
theorem mvOk_iff {p q : List Int} : mvOk p q = true ↔ vProf p = true ∧ vProf q = true ∧ p.length = q.length ∧ psum p = psum q := by simp [mvOk]
theorem mvOk_sums {p q : List Int} (hp : vProf p = true) (hq : vProf q = true) (hl : p.length = q.length) : mvOk p q = (sumTo (fun i => p.getD i 0) p.length == sumTo (fun i => q.getD i 0) q.length) := by
  unfold mvOk psum
  rw [hp, hq, decide_eq_true hl, Bool.true_and, Bool.true_and, Bool.true_and]
  rfl
theorem psum_sub {p q : List Int} (hl : p.length = q.length) (k : Nat) (hk : k ≤ p.length) : sumTo (at0 (surL p q)) k = sumTo (fun i => p.getD i 0) k - sumTo (fun i => q.getD i 0) k := by
  rw [← sumTo_sub]
  exact sumTo_congr fun i hi => surL_at p q i (by omega)
theorem sur_of {p q : List Int} (h : mvOk p q = true) : Sur (surL p q) := by
  obtain ⟨hp, hq, hl, hs⟩ := mvOk_iff.1 h
  refine ⟨?_, fun i hi => ?_⟩
  · rw [surL_len, psum_sub hl _ (Nat.le_refl _)]
    unfold psum at hs
    rw [hl] at hs ⊢
    omega
  · rw [surL_len] at hi
    have h1 := prof_bd hp i hi
    have h2 := prof_bd hq i (by omega)
    simp only [at0]
    rw [surL_at p q i hi]
    omega
def earthX (p q : List Int) : Int := if mvOk p q = true then earthT (at0 (surL p q)) p.length else -1

theorem IntsV.cut {w : World} {a : Option Addr} {n c : Nat} {p : List Int} (h : IntsV w (.slice a n c) p) (m : Nat) (hm : m ≤ p.length) : IntsV w (.slice a m c) (p.take m) := by
  obtain ⟨a', b, o, c', e, ⟨h1, h2⟩, hc⟩ := h
  simp only [Value.slice.injEq] at e
  obtain ⟨rfl, rfl, rfl⟩ := e
  have hl : (p.take m).length = m := by simp; omega
  refine ⟨a, b, o, c, by rw [hl], ⟨by omega, h2⟩, fun i hi => ?_⟩
  rw [hl] at hi
  obtain ⟨e1, e2⟩ := hc i (by omega)
  refine ⟨e1, ?_⟩
  rw [e2]
  simp [hi]
theorem sumTo_take (p : List Int) (m : Nat) (hm : m ≤ p.length) : sumTo (fun i => (p.take m).getD i 0) (p.take m).length = sumTo (fun i => p.getD i 0) m := by
  have hl : (p.take m).length = m := by simp; omega
  rw [hl]
  exact sumTo_congr fun i hi => by simp [hi]

set_option maxRecDepth 100000 in
set_option maxHeartbeats 1000000 in
theorem canMove_any (v u : Value) (p q : List Int) (w : World) (hv : IntsV w v p) (hu : IntsV w u q) :
    Calls Try.prog 75 #[v, u] w (QuietBool (mvOk p q) w) := by
  have HV := Lib.hid (ValidProfile_any v p w hv)
  have HU := Lib.hid (ValidProfile_any u q w hu)
  have HVV := Lib.hid hv
  have HUU := Lib.hid hu
  obtain ⟨a, b, o, c, rfl, _, _, _⟩ := hv.shape
  obtain ⟨a2, b2, o2, c2, rfl, _, _, _⟩ := hu.shape
  clear hv hu
  cases hp : vProf p with
  | false =>
    have HP := Lib.hid hp
    clear hp
    go_enter Try.func75, Try.ntmps75
    go_wp2_with (fail)
    refine HV.out.mono ?_
    rw [HP.out]
    rintro e w1 ⟨rfl, rfl⟩
    go_wp2
    go_ret
    exact ⟨ret_bool (by simp [mvOk, HP.out]), 0, rfl⟩
  | true =>
    have HP := Lib.hid hp
    clear hp
    cases hq : vProf q with
    | false =>
      have HQ := Lib.hid hq
      clear hq
      go_enter Try.func75, Try.ntmps75
      go_wp2_with (fail)
      refine HV.out.mono ?_
      rw [HP.out]
      rintro e w1 ⟨rfl, rfl⟩
      go_wp2_with (fail)
      refine HU.out.mono ?_
      rw [HQ.out]
      rintro e w1 ⟨rfl, rfl⟩
      go_wp2
      go_ret
      exact ⟨ret_bool (by simp [mvOk, HQ.out]), 0, rfl⟩
    | true =>
      have HQ := Lib.hid hq
      clear hq
      by_cases hl : p.length = q.length
      · have HL := Lib.hid hl
        have hd : ((p.length : Int) == (q.length : Int)) = true := by simp [hl]
        clear hl
        go_enter Try.func75, Try.ntmps75
        go_wp2_with (fail)
        refine HV.out.mono ?_
        rw [HP.out]
        rintro e w1 ⟨rfl, rfl⟩
        go_wp2_with (fail)
        refine HU.out.mono ?_
        rw [HQ.out]
        rintro e w1 ⟨rfl, rfl⟩
        go_wp2_with (fail)
        refine (sumOf_itself _ p _ HVV.out (by have := prof_len HP.out; omega) (prof_wide HP.out)).mono ?_
        rintro e w2 ⟨rfl, hq2⟩
        have HQ2 := Lib.hid hq2
        clear hq2
        obtain ⟨s1, e1⟩ : ∃ s1, sumTo (fun i => p.getD i 0) p.length = s1 := ⟨_, rfl⟩
        have HE1 := Lib.hid e1
        rw [e1]
        clear e1
        go_wp2_with (fail)
        refine (sumOf_itself _ q _ (HUU.out.grew (quiet_grew HQ2.out)) (by have := prof_len HQ.out; omega) (prof_wide HQ.out)).mono ?_
        rintro e w3 ⟨rfl, hq3⟩
        have HQ3 := Lib.hid hq3
        clear hq3
        obtain ⟨s2, e2⟩ : ∃ s2, sumTo (fun i => q.getD i 0) q.length = s2 := ⟨_, rfl⟩
        have HE2 := Lib.hid e2
        rw [e2]
        clear e2
        go_wp2
        go_ret
        exact ⟨ret_bool (by rw [mvOk_sums HP.out HQ.out HL.out, HE1.out, HE2.out]), by obtain ⟨r, hr⟩ := HQ3.out; rw [hr]; exact quiet_step HQ2.out r⟩
      · have HL := Lib.hid hl
        have hd : ((p.length : Int) == (q.length : Int)) = false := by simp; omega
        clear hl
        go_enter Try.func75, Try.ntmps75
        go_wp2_with (fail)
        refine HV.out.mono ?_
        rw [HP.out]
        rintro e w1 ⟨rfl, rfl⟩
        go_wp2_with (fail)
        refine HU.out.mono ?_
        rw [HQ.out]
        rintro e w1 ⟨rfl, rfl⟩
        go_wp2
        go_ret
        exact ⟨ret_bool (by simp [mvOk, HP.out, HQ.out, HL.out]), 0, rfl⟩

set_option maxRecDepth 100000 in
set_option maxHeartbeats 1000000 in
theorem validMove_any (v u : Value) (p q : List Int) (w : World) (hv : IntsV w v p) (hu : IntsV w u q) :
    Calls Try.prog 79 #[v, u] w fun e w' => e = .returned (.bool (mvOk p q)) ∧ w = w' := by
  have HV := Lib.hid (sValidProfile0_any v p w hv)
  have HU := Lib.hid (sValidProfile0_any u q w hu)
  have HVV := Lib.hid hv
  have HUU := Lib.hid hu
  obtain ⟨a, b, o, c, rfl, _, _, _⟩ := hv.shape
  obtain ⟨a2, b2, o2, c2, rfl, _, _, _⟩ := hu.shape
  clear hv hu
  cases hp : vProf p with
  | false =>
    have HP := Lib.hid hp
    clear hp
    go_enter Try.func79, Try.ntmps79
    go_wp2_with (fail)
    refine HV.out.mono ?_
    rw [HP.out]
    rintro e w1 ⟨rfl, rfl⟩
    go_wp2
    go_ret
    exact ⟨ret_bool (by simp [mvOk, HP.out]), rfl⟩
  | true =>
    have HP := Lib.hid hp
    clear hp
    cases hq : vProf q with
    | false =>
      have HQ := Lib.hid hq
      clear hq
      go_enter Try.func79, Try.ntmps79
      go_wp2_with (fail)
      refine HV.out.mono ?_
      rw [HP.out]
      rintro e w1 ⟨rfl, rfl⟩
      go_wp2_with (fail)
      refine HU.out.mono ?_
      rw [HQ.out]
      rintro e w1 ⟨rfl, rfl⟩
      go_wp2
      go_ret
      exact ⟨ret_bool (by simp [mvOk, HQ.out]), rfl⟩
    | true =>
      have HQ := Lib.hid hq
      clear hq
      by_cases hl : p.length = q.length
      · have HL := Lib.hid hl
        have hd : ((p.length : Int) == (q.length : Int)) = true := by simp [hl]
        clear hl
        go_enter Try.func79, Try.ntmps79
        go_wp2_with (fail)
        refine HV.out.mono ?_
        rw [HP.out]
        rintro e w1 ⟨rfl, rfl⟩
        go_wp2_with (fail)
        refine HU.out.mono ?_
        rw [HQ.out]
        rintro e w1 ⟨rfl, rfl⟩
        go_wp2_with (fail)
        refine (ssumTo_any _ p _ HVV.out (by have := prof_len HP.out; omega) (prof_wide HP.out)).mono ?_
        rintro e w2 ⟨rfl, rfl⟩
        obtain ⟨s1, e1⟩ : ∃ s1, sumTo (fun i => p.getD i 0) p.length = s1 := ⟨_, rfl⟩
        have HE1 := Lib.hid e1
        rw [e1]
        clear e1
        go_wp2_with (fail)
        refine (ssumTo_any _ q _ HUU.out (by have := prof_len HQ.out; omega) (prof_wide HQ.out)).mono ?_
        rintro e w3 ⟨rfl, rfl⟩
        obtain ⟨s2, e2⟩ : ∃ s2, sumTo (fun i => q.getD i 0) q.length = s2 := ⟨_, rfl⟩
        have HE2 := Lib.hid e2
        rw [e2]
        clear e2
        go_wp2
        go_ret
        exact ⟨ret_bool (by rw [mvOk_sums HP.out HQ.out HL.out, HE1.out, HE2.out]), rfl⟩
      · have HL := Lib.hid hl
        have hd : ((p.length : Int) == (q.length : Int)) = false := by simp; omega
        clear hl
        go_enter Try.func79, Try.ntmps79
        go_wp2_with (fail)
        refine HV.out.mono ?_
        rw [HP.out]
        rintro e w1 ⟨rfl, rfl⟩
        go_wp2_with (fail)
        refine HU.out.mono ?_
        rw [HQ.out]
        rintro e w1 ⟨rfl, rfl⟩
        go_wp2
        go_ret
        exact ⟨ret_bool (by simp [mvOk, HP.out, HQ.out, HL.out]), rfl⟩

/-- How much more p has than q at the first k places; of the others what p has. -/
def surTo (p q : List Int) (k : Nat) : List Int := (List.range p.length).map fun i => if i < k then p.getD i 0 - q.getD i 0 else p.getD i 0
theorem surTo_len (p q : List Int) (k : Nat) : (surTo p q k).length = p.length := by simp [surTo]
theorem surTo_at (p q : List Int) (k i : Nat) (h : i < p.length) : (surTo p q k).getD i 0 = if i < k then p.getD i 0 - q.getD i 0 else p.getD i 0 := by simp [surTo, h]
theorem ext_at {xs ys : List Int} (hl : xs.length = ys.length) (h : ∀ i, i < xs.length → xs.getD i 0 = ys.getD i 0) : xs = ys :=
  List.ext_getElem hl fun i h1 h2 => by have := h i h1; simpa [h1, h2] using this
theorem surTo_zero (p q : List Int) : surTo p q 0 = p := ext_at (surTo_len _ _ _) fun i hi => by rw [surTo_len] at hi; rw [surTo_at _ _ _ _ hi, if_neg (Nat.not_lt_zero _)]
theorem surTo_all (p q : List Int) : surTo p q p.length = surL p q := ext_at (by rw [surTo_len, surL_len]) fun i hi => by rw [surTo_len] at hi; rw [surTo_at _ _ _ _ hi, if_pos hi, surL_at _ _ _ hi]
theorem surTo_step (p q : List Int) (k : Nat) (h : k < p.length) : (surTo p q k).set k (p.getD k 0 - q.getD k 0) = surTo p q (k + 1) :=
  ext_at (by rw [List.length_set, surTo_len, surTo_len]) fun i hi => by
    rw [List.length_set, surTo_len] at hi
    rw [getD_setS _ _ _ (by rw [surTo_len]; exact h), surTo_at _ _ _ _ hi, surTo_at _ _ _ _ hi]
    by_cases e : i = k
    · subst e; rw [if_pos rfl, if_pos (by omega)]
    · rw [if_neg e]
      by_cases e2 : i < k
      · rw [if_pos e2, if_pos (by omega)]
      · rw [if_neg e2, if_neg (by omega)]

set_option maxRecDepth 100000 in
set_option maxHeartbeats 2000000 in
theorem surplusOf_any (v u : Value) (p q : List Int) (w : World) (hv : IntsV w v p) (hu : IntsV w u q) (hp : vProf p = true) (hq : vProf q = true) (hl : p.length = q.length) :
    Calls Try.prog 76 #[v, u] w (FlatPost w (surL p q)) := by
  obtain ⟨h1, h9⟩ := prof_len hp
  have HP := Lib.hid (And.intro hp hq)
  obtain ⟨a, b, o, c, rfl, ⟨hlc, hcb⟩, ha, HC⟩ := hv.shape
  obtain rfl := ha h1
  obtain ⟨a2, b2, o2, c2, rfl, ⟨hlc2, hcb2⟩, ha2, HC2⟩ := hu.shape
  obtain rfl := ha2 (by omega)
  have HK := Lib.hid (slicesClone_any b o c p w HC.out h1 (by omega))
  rw [← hl]
  have hnl : q.length = p.length := hl.symm
  clear hv hu hp hq ha ha2 hl hlc2 hcb2
  go_enter Try.func76, Try.ntmps76
  go_wp2_with (fail)
  refine HK.out.mono ?_
  rintro e w1 ⟨g, c1, rfl, hO, hg⟩
  have H0 : Hid (IntsO 3 w.heap.size w1.heap.size w1 (.slice (some ⟨g, 0, none⟩) p.length c1) (surTo p q 0) ∧ Grew w w1) := by rw [surTo_zero]; exact ⟨hO, hg⟩
  have hgb := hO.blk
  clear hO hg HK
  go_wp2
  go_loopw [11] (fun i wr => ∃ k : Nat, k ≤ p.length ∧ i = .int .i64 k ∧ Hid (IntsO 3 w.heap.size w1.heap.size wr (.slice (some ⟨g, 0, none⟩) p.length c1) (surTo p q k) ∧ Grew w wr)) (fun i _ => p.length - (intOf i).toNat)
  case atStart => exact ⟨0, Nat.zero_le _, rfl, H0⟩
  case round =>
    obtain ⟨k, hk, rfl, HI⟩ := hrel
    clear H0
    by_cases hlt : k < p.length
    · obtain ⟨hel, hfr⟩ := HI.out.1.at rfl (i := k) (by rw [surTo_len]; exact hlt)
      rw [surTo_at _ _ _ _ hlt, if_neg (Nat.lt_irrefl k)] at hel
      have hcq := HI.out.2.cell (HC2.out k (by omega))
      have hbx := prof_bd HP.out.1 k hlt
      have hby := prof_bd HP.out.2 k (by omega)
      obtain ⟨x, ex⟩ : ∃ x, p.getD k 0 = x := ⟨_, rfl⟩
      obtain ⟨y, ey⟩ : ∃ y, q.getD k 0 = y := ⟨_, rfl⟩
      rw [ex] at hel hbx
      rw [ey] at hcq hby
      have HX := Lib.hid (And.intro ex ey)
      have e1 : IntKind.i64.wrap (x - y) = x - y := wrap_small' _ (by omega) (by omega)
      have r1 : (k : Int) < p.length := by omega
      have r2 : (0 : Int) ≤ k := by omega
      have r3 : k < q.length := by omega
      have r4 : (k : Int) < q.length := by omega
      clear ex ey
      go_wp2
      go_still_tail 9, (by kernel_rfl)
      change wpList _ _ _ _ _ wr.drew
      obtain ⟨W3, hW3⟩ : ∃ W3, wr.drew = W3 := ⟨_, rfl⟩
      have hel3 : W3.cell? ⟨g, k, none⟩ = some (.int .i64 x) := by rw [← hW3]; exact hel
      have hfr3 : W3.frozen? ⟨g, k, none⟩ = false := by rw [← hW3]; exact hfr
      have H3 : Hid (IntsO 3 w.heap.size w1.heap.size W3 (.slice (some ⟨g, 0, none⟩) p.length c1) (surTo p q k) ∧ Grew w W3) := by
        rw [← hW3]; exact ⟨HI.out.1.grew ((Grew.refl _).drew), HI.out.2.drew⟩
      rw [hW3]
      clear hW3 hel hfr
      go_wp2
      go_roundw
      case rel => exact ⟨k + 1, by omega, by go_num, by
        have := H3.out.1.set rfl k (x - y)
        rw [← HX.out.1, ← HX.out.2, surTo_step p q k hlt, HX.out.1, HX.out.2] at this
        exact this, Within.grew (lo := g) (hi := g + 1) H3.out.2 ((Within.refl _ _ _).setCell (p := ⟨g, k, none⟩) (Nat.le_refl _) (Nat.lt_succ_self _) _) hgb.1⟩
      case measure => simp [intOf]; omega
    · obtain rfl : k = p.length := by omega
      go_wp2
      go_ret
      have hO := HI.out.1
      rw [surTo_all] at hO
      have e := surL_len p q
      unfold FlatPost
      rw [e]
      exact ⟨g, c1, rfl, ⟨ownsRow_base hO.1 (Nat.le_refl _), fun g e => (World.ownsRow.lt hO.1 g e).2⟩, HI.out.2⟩
end Go.Proofs.Ytlifjhhjkcmneaa
