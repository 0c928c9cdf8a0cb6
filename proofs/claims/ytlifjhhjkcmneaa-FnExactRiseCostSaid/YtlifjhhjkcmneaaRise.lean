/- The contracts of impl.RiseCost and spec.RiseCost. -/
import Derived.Test.YtlifjhhjkcmneaaSums
import Derived.Test.YtlifjhhjkcmneaaProf
import Derived.StillTailTactics
namespace Go.Proofs.Ytlifjhhjkcmneaa
open Go.RowKit

theorem riseP_bd {p : List Int} (h : vProf p = true) (i : Nat) (hi : i < p.length) : 0 ≤ p.getD i 0 ∧ p.getD i 0 ≤ ((12 : Nat) : Int) := ((vProf_iff p).1 h).2.2 i hi
def riseX (p : List Int) : Int := if vProf p = true then riseT (fun i => p.getD i 0) p.length 12 else -1
/-- The costs when the first t of them speak of one place more than k. -/
def costMix (p : Nat → Int) (k t : Nat) : List Int := (List.range 13).map fun x => if x < t then riseT p (k + 1) x else riseT p k x
theorem costMix_len (p : Nat → Int) (k t : Nat) : (costMix p k t).length = 13 := by simp [costMix]
theorem costMix_at (p : Nat → Int) (k t x : Nat) (h : x < 13) : (costMix p k t).getD x 0 = if x < t then riseT p (k + 1) x else riseT p k x := by simp [costMix, h]
theorem ext_at' {xs ys : List Int} (hl : xs.length = ys.length) (h : ∀ i, i < xs.length → xs.getD i 0 = ys.getD i 0) : xs = ys :=
  List.ext_getElem hl fun i h1 h2 => by have := h i h1; simpa [h1, h2] using this
theorem getD_setR (s : List Int) (j : Nat) (x : Int) (hj : j < s.length) (i : Nat) : (s.set j x).getD i 0 = if i = j then x else s.getD i 0 := by
  by_cases h : i = j
  · subst h; simp [hj]
  · rw [if_neg h]
    simp [Ne.symm h]
theorem costMix_all (p : Nat → Int) (k : Nat) : costMix p k 13 = costMix p (k + 1) 0 := ext_at' (by rw [costMix_len, costMix_len]) fun i hi => by
  rw [costMix_len] at hi
  rw [costMix_at _ _ _ _ hi, costMix_at _ _ _ _ hi, if_pos hi, if_neg (Nat.not_lt_zero _)]
theorem costMix_set (p : Nat → Int) (k t : Nat) (h : t < 13) : (costMix p k t).set t (riseT p (k + 1) t) = costMix p k (t + 1) := ext_at' (by rw [List.length_set, costMix_len, costMix_len]) fun i hi => by
  rw [List.length_set, costMix_len] at hi
  rw [getD_setR _ _ _ (by rw [costMix_len]; exact h), costMix_at _ _ _ _ hi, costMix_at _ _ _ _ hi]
  by_cases e : i = t
  · subst e; rw [if_pos rfl, if_pos (by omega)]
  · rw [if_neg e]
    by_cases e2 : i < t
    · rw [if_pos e2, if_pos (by omega)]
    · rw [if_neg e2, if_neg (by omega)]
theorem costMix_zero (p : Nat → Int) : costMix p 0 0 = List.replicate 13 0 := rfl
theorem rise_small {p : List Int} (h : vProf p = true) (k t : Nat) (hk : k ≤ p.length) (ht : t ≤ 12) : 0 ≤ riseT (fun i => p.getD i 0) k t ∧ riseT (fun i => p.getD i 0) k t ≤ 108 := by
  have h1 := riseT_nonneg (fun i => p.getD i 0) k t
  have h2 := riseT_bd (fun i => p.getD i 0) k t 12 (fun i hi => riseP_bd h i (by omega)) ht
  have := ((vProf_iff p).1 h).2.1
  omega

set_option maxRecDepth 100000 in
set_option maxHeartbeats 4000000 in
theorem RiseCost_any (v : Value) (p : List Int) (w : World) (hv : IntsV w v p) :
    Calls Try.prog 33 #[v] w fun e w' => e = .returned (.int .i64 (riseX p)) ∧ Grew w w' := by
  have HV := Lib.hid (ValidProfile_any v p w hv)
  obtain ⟨a, b, o, c, rfl, ⟨hlc, hcb⟩, ha, HC⟩ := hv.shape
  clear hv
  unfold riseX
  cases hp : vProf p with
  | false =>
    have HP := Lib.hid hp
    clear hp ha
    go_enter Try.func33, Try.ntmps33
    go_wp2_with (fail)
    refine HV.out.mono ?_
    rw [HP.out]
    rintro e w1 ⟨rfl, rfl⟩
    go_wp2
    go_ret
    exact ⟨rfl, Grew.refl _⟩
  | true =>
    have HP := Lib.hid hp
    have h1 := ((vProf_iff p).1 hp).1
    have h9 := ((vProf_iff p).1 hp).2.1
    obtain rfl := ha h1
    have HB := Lib.hid (riseP_bd hp)
    have HS := Lib.hid (rise_small hp)
    obtain ⟨f, ef⟩ : ∃ f : Nat → Int, (fun i => p.getD i 0) = f := ⟨_, rfl⟩
    have HF : Hid (∀ i, p.getD i 0 = f i) := fun i => by rw [← ef]
    rw [ef] at HS ⊢
    clear hp ha ef
    go_enter Try.func33, Try.ntmps33
    go_wp2_with (fail)
    refine HV.out.mono ?_
    rw [HP.out]
    rintro e w1 ⟨rfl, rfl⟩
    go_wp2
    have H0 : Hid (IntsO 71 w.heap.size (w.heap.size + 1) (w.alloc (.cells #[.int .i64 0, .int .i64 0, .int .i64 0, .int .i64 0, .int .i64 0, .int .i64 0, .int .i64 0, .int .i64 0, .int .i64 0, .int .i64 0, .int .i64 0, .int .i64 0, .int .i64 0] 71)) (.slice (some ⟨w.heap.size, 0, none⟩) 13 13) (costMix f 0 0) ∧ Grew w (w.alloc (.cells #[.int .i64 0, .int .i64 0, .int .i64 0, .int .i64 0, .int .i64 0, .int .i64 0, .int .i64 0, .int .i64 0, .int .i64 0, .int .i64 0, .int .i64 0, .int .i64 0, .int .i64 0] 71))) :=
      ⟨IntsO.lit 71 w.heap.size w (costMix f 0 0) _ (by rw [costMix_zero]; rfl) (Nat.le_refl _) (by rw [costMix_len]; decide), (Grew.refl _).alloc _⟩
    go_loopw [12] (fun i wr => ∃ k : Nat, k ≤ p.length ∧ i = .int .i64 k ∧ Hid (IntsO 71 w.heap.size (w.heap.size + 1) wr (.slice (some ⟨w.heap.size, 0, none⟩) 13 13) (costMix f k 0) ∧ Grew w wr)) (fun i _ => p.length - (intOf i).toNat)
    case atStart => exact ⟨0, Nat.zero_le _, rfl, H0⟩
    case round =>
      obtain ⟨k, hk, rfl, HI⟩ := hrel
      clear H0
      by_cases hlt : k < p.length
      · have hck := HI.out.2.cell (HC.out k hlt)
        have hbk := HB.out k hlt
        rw [HF.out k] at hck hbk
        obtain ⟨x, ex⟩ : ∃ x, f k = x := ⟨_, rfl⟩
        rw [ex] at hck hbk
        have HX := Lib.hid ex
        clear ex
        go_wp2
        go_loopw [16] (fun i wr => ∃ t : Nat, t ≤ 13 ∧ i = .int .i64 t ∧ Hid (IntsO 71 w.heap.size (w.heap.size + 1) wr (.slice (some ⟨w.heap.size, 0, none⟩) 13 13) (costMix f k t) ∧ Grew w wr)) (fun i _ => 13 - (intOf i).toNat)
        case atStart => exact ⟨0, Nat.zero_le _, rfl, HI.out⟩
        case round =>
          obtain ⟨t, ht, rfl, HJ⟩ := hrel
          by_cases hltt : t < 13
          · obtain ⟨hel, hfr⟩ := HJ.out.1.at rfl (i := t) (by rw [costMix_len]; exact hltt)
            rw [costMix_at _ _ _ _ hltt, if_neg (Nat.lt_irrefl t)] at hel
            have hsm := HS.out k t (by omega) (by omega)
            obtain ⟨r, er⟩ : ∃ r, riseT f k t = r := ⟨_, rfl⟩
            rw [er] at hel hsm
            have hia : 0 ≤ iab (x - t) ∧ iab (x - t) ≤ 12 := by unfold iab; omega
            obtain ⟨y, ey⟩ : ∃ y, iab (x - t) = y := ⟨_, rfl⟩
            have HA : Hid (∀ W, Calls Try.prog 73 #[.int .i64 x, .int .i64 t] W fun e w' => e = .returned (.int .i64 y) ∧ w' = W) := fun W => by
              have := apart_any x t W (by omega) (by omega)
              rw [ey] at this
              exact this.mono fun _ _ ⟨h1, h2⟩ => ⟨h1, h2.symm⟩
            rw [ey] at hia
            have HRY := Lib.hid (And.intro er ey)
            have w1' : IntKind.i64.wrap (r + y) = r + y := wrap_small' _ (by omega) (by omega)
            have r1 : (t : Int) < 13 := by omega
            have r2 : (0 : Int) ≤ t := by omega
            clear er ey
            go_wp2
            go_still_tail 7, (by kernel_rfl)
            still_call (HA.out _)
            repeat still_step
            refine wpStill_nil ?_
            change wpList _ _ _ _ _ wr.drew
            obtain ⟨W3, hW3⟩ : ∃ W3, wr.drew = W3 := ⟨_, rfl⟩
            have hel3 : W3.cell? ⟨w.heap.size, t, none⟩ = some (.int .i64 r) := by rw [← hW3]; exact hel
            have hfr3 : W3.frozen? ⟨w.heap.size, t, none⟩ = false := by rw [← hW3]; exact hfr
            have H3 : Hid (IntsO 71 w.heap.size (w.heap.size + 1) W3 (.slice (some ⟨w.heap.size, 0, none⟩) 13 13) (costMix f k t) ∧ Grew w W3) := by
              rw [← hW3]; exact ⟨HJ.out.1.grew ((Grew.refl _).drew), HJ.out.2.drew⟩
            rw [hW3]
            clear hW3 hel hfr
            have HW : Hid (∀ u, Within w.heap.size (w.heap.size + 1) W3 (W3.setCell ⟨w.heap.size, t, none⟩ u)) := fun u => (Within.refl _ _ _).setCell (p := ⟨w.heap.size, t, none⟩) (Nat.le_refl _) (Nat.lt_succ_self _) _
            by_cases ht0 : t = 0
            · subst ht0
              have HN : Hid (IntsO 71 w.heap.size (w.heap.size + 1) (W3.setCell ⟨w.heap.size, 0, none⟩ (.int .i64 (r + y))) (.slice (some ⟨w.heap.size, 0, none⟩) 13 13) (costMix f k 1) ∧ Grew w (W3.setCell ⟨w.heap.size, 0, none⟩ (.int .i64 (r + y)))) := by
                have h1 := H3.out.1.set rfl 0 (r + y)
                have h2 := costMix_set f k 0 (by decide)
                rw [riseT_zero, HRY.out.1, HX.out, show (x - (0 : Int)) = x - ((0 : Nat) : Int) by rfl, HRY.out.2] at h2
                rw [h2] at h1
                exact ⟨h1, Within.grew H3.out.2 (HW.out _) (Nat.le_refl _)⟩
              clear H3 HW
              go_wp2
              go_roundw
              case rel => exact ⟨1, by omega, by go_num, HN.out⟩
              case measure => simp [intOf]
            · obtain ⟨t1, et⟩ : ∃ t1, t1 + 1 = t := ⟨t - 1, by omega⟩
              obtain ⟨r', er'⟩ : ∃ r', riseT f (k + 1) t1 = r' := ⟨_, rfl⟩
              have hsm' := HS.out (k + 1) t1 (by omega) (by omega)
              rw [er'] at hsm'
              have hsucc := riseT_succ f k t1
              rw [et] at hsucc
              rw [er', HRY.out.1, HX.out, HRY.out.2] at hsucc
              have HSU := Lib.hid hsucc
              have h4 := H3.out.1.set rfl t (r + y)
              have hprev : ((costMix f k t).set t (r + y)).getD t1 0 = r' := by
                rw [getD_setR _ _ _ (by rw [costMix_len]; exact hltt), if_neg (by omega), costMix_at _ _ _ _ (by omega), if_pos (by omega), er']
              have hself : ((costMix f k t).set t (r + y)).getD t 0 = r + y := by
                rw [getD_setR _ _ _ (by rw [costMix_len]; exact hltt), if_pos rfl]
              have H4 : Hid (IntsO 71 w.heap.size (w.heap.size + 1) (W3.setCell ⟨w.heap.size, t, none⟩ (.int .i64 (r + y))) (.slice (some ⟨w.heap.size, 0, none⟩) 13 13) ((costMix f k t).set t (r + y)) ∧ Grew w (W3.setCell ⟨w.heap.size, t, none⟩ (.int .i64 (r + y)))) :=
                ⟨h4, Within.grew H3.out.2 (HW.out _) (Nat.le_refl _)⟩
              have HPS := Lib.hid (And.intro hprev hself)
              have e1 : (t : Int) - 1 = (t1 : Int) := by omega
              have r3 : (0 : Int) < (t : Int) := by omega
              have r4 : (t1 : Int) < 13 := by omega
              have r5 : (0 : Int) ≤ t1 := by omega
              have w2' : IntKind.i64.wrap (t1 : Int) = (t1 : Int) := wrap_small' _ (by omega) (by omega)
              clear et ht0 er' hsucc h4 hprev hself H3 HW
              go_wp2
              obtain ⟨W4, hW4⟩ : ∃ W4, W3.setCell ⟨w.heap.size, t, none⟩ (.int .i64 (r + y)) = W4 := ⟨_, rfl⟩
              have hO4 := H4.out
              rw [hW4] at hO4
              obtain ⟨hc1, hf1⟩ := hO4.1.at rfl (i := t) (by rw [List.length_set, costMix_len]; exact hltt)
              obtain ⟨hc2, _⟩ := hO4.1.at rfl (i := t1) (by rw [List.length_set, costMix_len]; omega)
              rw [HPS.out.2] at hc1
              rw [HPS.out.1] at hc2
              have HO4 := Lib.hid hO4
              rw [hW4]
              clear hW4 hO4 H4 hel3 hfr3
              go_still_tail 9, (by kernel_rfl)
              change wpList _ _ _ _ _ W4.drew
              obtain ⟨W5, hW5⟩ : ∃ W5, W4.drew = W5 := ⟨_, rfl⟩
              have hc1' : W5.cell? ⟨w.heap.size, t, none⟩ = some (.int .i64 (r + y)) := by rw [← hW5]; exact hc1
              have hf1' : W5.frozen? ⟨w.heap.size, t, none⟩ = false := by rw [← hW5]; exact hf1
              have HN : Hid (IntsO 71 w.heap.size (w.heap.size + 1) (W5.setCell ⟨w.heap.size, t, none⟩ (.int .i64 (min (r + y) r'))) (.slice (some ⟨w.heap.size, 0, none⟩) 13 13) (costMix f k (t + 1)) ∧ Grew w (W5.setCell ⟨w.heap.size, t, none⟩ (.int .i64 (min (r + y) r')))) := by
                rw [← hW5]
                have h1 := (HO4.out.1.grew ((Grew.refl _).drew)).set rfl t (min (r + y) r')
                rw [List.set_set, Int.min_comm, ← HSU.out, costMix_set f k t hltt] at h1
                rw [Int.min_comm, ← HSU.out]
                exact ⟨h1, Within.grew HO4.out.2.drew ((Within.refl w.heap.size (w.heap.size + 1) _).setCell (p := ⟨w.heap.size, t, none⟩) (Nat.le_refl _) (Nat.lt_succ_self _) _) (Nat.le_refl _)⟩
              rw [hW5]
              clear hW5 hc1 hc2 hf1 HO4
              go_wp2
              go_roundw
              case rel => exact ⟨t + 1, by omega, by go_num, HN.out⟩
              case measure => simp [intOf]; omega
          · obtain rfl : t = 13 := by omega
            have HN : Hid (IntsO 71 w.heap.size (w.heap.size + 1) wr (.slice (some ⟨w.heap.size, 0, none⟩) 13 13) (costMix f (k + 1) 0) ∧ Grew w wr) := by
              rw [← costMix_all]; exact HJ.out
            go_wp2
            go_roundw
            case rel => exact ⟨k + 1, by omega, by go_num, HN.out⟩
            case measure => simp [intOf]; omega
      · obtain rfl : k = p.length := by omega
        obtain ⟨hel, _⟩ := HI.out.1.at rfl (i := 12) (by rw [costMix_len]; decide)
        rw [costMix_at _ _ _ _ (by decide), if_neg (by decide)] at hel
        have HG := Lib.hid HI.out.2
        obtain ⟨r, er⟩ : ∃ r, riseT f p.length 12 = r := ⟨_, rfl⟩
        rw [er] at hel
        have HR := Lib.hid er
        clear er
        go_wp2
        go_ret
        exact ⟨ret_int HR.out.symm, HG.out⟩
end Go.Proofs.Ytlifjhhjkcmneaa
