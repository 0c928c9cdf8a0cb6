/- The contract of impl.TerraceCost. -/
import Derived.Test.YtlifjhhjkcmneaaTerr2
namespace Go.Proofs.Ytlifjhhjkcmneaa
open Go.RowKit

def terrOk (p : List Int) (k : Int) : Bool := vProf p && (decide (1 ≤ k) && decide (k ≤ 9))
def terrX (p : List Int) (k : Int) : Int := if terrOk p k = true then terrT (fun i => p.getD i 0) k.toNat p.length else -1
theorem terrOk_iff {p : List Int} {k : Int} : terrOk p k = true ↔ vProf p = true ∧ 1 ≤ k ∧ k ≤ 9 := by simp [terrOk]
theorem terrL_zero (f : Nat → Int) (n : Nat) : (List.replicate (n + 1) (109 : Int)).set 0 0 = terrL f 0 n := ext_at' (by rw [List.length_set, List.length_replicate, terrL_len]) fun i hi => by
  rw [List.length_set, List.length_replicate] at hi
  rw [getD_setR _ _ _ (by simp), terrL_at _ _ _ _ hi, terrT]
  by_cases e : i = 0
  · rw [if_pos e, if_pos e]
  · rw [if_neg e, if_neg e]
    simp [hi]

set_option maxRecDepth 100000 in
set_option maxHeartbeats 4000000 in
theorem TerraceCost_any (v : Value) (p : List Int) (k : Int) (w : World) (hv : IntsV w v p) :
    Calls Try.prog 29 #[v, .int .i64 k] w fun e w' => e = .returned (.int .i64 (terrX p k)) ∧ Grew w w' := by
  have HV := Lib.hid (ValidProfile_any v p w hv)
  have HVV := Lib.hid hv
  obtain ⟨a, b, o, c, rfl, ⟨hlc, hcb⟩, ha, HC⟩ := hv.shape
  clear hv
  unfold terrX
  cases hp : vProf p with
  | false =>
    have HP := Lib.hid hp
    have hok : terrOk p k = false := by simp [terrOk, hp]
    rw [hok]
    clear hp ha hok
    go_enter Try.func29, Try.ntmps29
    go_wp2_with (fail)
    refine HV.out.mono ?_
    rw [HP.out]
    rintro e w1 ⟨rfl, rfl⟩
    go_wp2
    go_ret
    exact ⟨rfl, Grew.refl _⟩
  | true =>
    have HP := Lib.hid hp
    by_cases hk1 : k < 1
    · have hok : terrOk p k = false := by
        cases h : terrOk p k with
        | false => rfl
        | true => have := terrOk_iff.1 h; omega
      rw [hok]
      clear hp ha hok
      go_enter Try.func29, Try.ntmps29
      go_wp2_with (fail)
      refine HV.out.mono ?_
      rw [HP.out]
      rintro e w1 ⟨rfl, rfl⟩
      go_wp2
      go_ret
      exact ⟨rfl, Grew.refl _⟩
    · by_cases hk9 : 9 < k
      · have hok : terrOk p k = false := by
          cases h : terrOk p k with
          | false => rfl
          | true => have := terrOk_iff.1 h; omega
        rw [hok]
        clear hp ha hok
        go_enter Try.func29, Try.ntmps29
        go_wp2_with (fail)
        refine HV.out.mono ?_
        rw [HP.out]
        rintro e w1 ⟨rfl, rfl⟩
        go_wp2
        go_ret
        exact ⟨rfl, Grew.refl _⟩
      · have hok : terrOk p k = true := terrOk_iff.2 ⟨hp, by omega, by omega⟩
        rw [hok]
        have h1 := ((vProf_iff p).1 hp).1
        have h9 := ((vProf_iff p).1 hp).2.1
        obtain rfl := ha h1
        obtain ⟨f, ef⟩ : ∃ f : Nat → Int, (fun i => p.getD i 0) = f := ⟨_, rfl⟩
        have HF : Hid (∀ i, p.getD i 0 = f i) := fun i => by rw [← ef]
        rw [ef]
        obtain ⟨K, rfl⟩ := Int.eq_ofNat_of_zero_le (show 0 ≤ k by omega)
        have hb0 : Hid (b < w.heap.size) := World.block_lt_of_cell? _ _ (HC.out 0 h1)
        obtain ⟨n1, en1⟩ : ∃ n1, p.length + 1 = n1 := ⟨_, rfl⟩
        have HN1 := Lib.hid en1
        have w1' : IntKind.i64.wrap (n1 : Int) = (n1 : Int) := wrap_small' _ (by omega) (by omega)
        have e1 : (p.length : Int) + 1 = (n1 : Int) := by omega
        have hn1 : 1 ≤ n1 := by omega
        have hn10 : n1 ≤ 10 := by omega
        have HR : Hid (∀ (B : Nat) (W : World), W.cell? ⟨B, 0, none⟩ = some (.int .i64 109) → Calls Try.prog 69 #[.slice (some ⟨B, 0, none⟩) 1 1, .int .i64 n1] W (FlatPost W (List.replicate n1 109))) := fun B W h => slicesRepeat_any B 0 1 109 n1 W h hn1 (by omega)
        clear hp ha hok ef en1
        go_enter Try.func29, Try.ntmps29
        go_wp2_with (fail)
        refine HV.out.mono ?_
        rw [HP.out]
        rintro e w1 ⟨rfl, rfl⟩
        go_wp2_with (fail)
        refine (HR.out _ _ (by simp)).mono ?_
        rintro e w2 ⟨g, c2, rfl, hO, hg⟩
        rw [List.length_replicate] at hO ⊢
        obtain ⟨hel, hfr⟩ := hO.at rfl (i := 0) (by rw [List.length_replicate]; omega)
        obtain ⟨z, ez⟩ : ∃ z, (List.replicate n1 (109 : Int)).getD 0 0 = z := ⟨_, rfl⟩
        rw [ez] at hel
        have hgb := hO.blk
        have hsz0 : w.heap.size < w2.heap.size := by have := hg.size; simp at this; omega
        have hlt : w.heap.size ≤ g := by have := hgb.1; simp at this; omega
        have HG2 : Hid (Grew w w2) := ((Grew.refl _).alloc _).trans hg
        have H0 : Hid (IntsV (w2.setCell ⟨g, 0, none⟩ (.int .i64 0)) (.slice (some ⟨g, 0, none⟩) n1 c2) (terrL f 0 p.length) ∧ Grew w (w2.setCell ⟨g, 0, none⟩ (.int .i64 0))) := by
          have h := hO.set rfl 0 0
          rw [← HN1.out, terrL_zero] at h
          rw [← HN1.out]
          exact ⟨h.toV, Within.grew HG2.out ((Within.refl g (g + 1) _).setCell (p := ⟨g, 0, none⟩) (Nat.le_refl _) (Nat.lt_succ_self _) _) hlt⟩
        have r1 : (0 : Int) < n1 := by omega
        have hk0 : Hid (((K : Nat) : Int).toNat = K) := by show _ = _; omega
        clear hO hg ez hgb
        go_wp2
        go_loopw [5, 25] (fun cv i wr => ∃ j gb cb : Nat, cv = .slice (some ⟨gb, 0, none⟩) n1 cb ∧ j ≤ K ∧ i = .int .i64 j ∧ Hid (IntsV wr cv (terrL f j p.length) ∧ Grew w wr)) (fun _ i _ => K - (intOf i).toNat)
        case atStart => exact ⟨0, _, _, rfl, Nat.zero_le _, rfl, H0.out⟩
        case round =>
          obtain ⟨j, gb, cb, rfl, hj, rfl, HI⟩ := hrel
          clear H0
          by_cases hlt : j < K
          · have HM : Hid (Calls Try.prog 70 #[.slice (some ⟨b, o, none⟩) p.length c, .slice (some ⟨gb, 0, none⟩) n1 cb] wr (FlatPost wr (terrL f (j + 1) p.length))) := by
              have := oneTerraceMore_any (.slice (some ⟨b, o, none⟩) p.length c) p f j gb cb wr (HVV.out.grew HI.out.2) HP.out HF.out (by rw [HN1.out]; exact HI.out.1)
              rw [HN1.out] at this
              exact this
            have r3 : (j : Int) < K := by omega
            go_wp2_with (fail)
            refine HM.out.mono ?_
            rintro e w4 ⟨g4, c4, rfl, hO4, hg4⟩
            have H4 : Hid (IntsV w4 (.slice (some ⟨g4, 0, none⟩) n1 c4) (terrL f (j + 1) p.length) ∧ Grew w w4) := by
              have h := hO4.toV
              rw [terrL_len, HN1.out] at h
              exact ⟨h, HI.out.2.trans hg4⟩
            rw [terrL_len, HN1.out]
            clear hO4 hg4
            go_wp2
            go_roundw
            case rel => exact ⟨j + 1, g4, c4, rfl, by omega, by go_num, H4.out⟩
            case measure => simp [intOf]; omega
          · obtain rfl : j = K := by omega
            have hce := HI.out.1.at p.length (by rw [terrL_len]; omega)
            rw [terrL_at _ _ _ _ (by omega)] at hce
            obtain ⟨y, ey⟩ : ∃ y, terrT f j p.length = y := ⟨_, rfl⟩
            rw [ey] at hce
            have HE : Hid (y = terrT f (j : Int).toNat p.length) := by rw [← ey]; congr 1
            have HG := Lib.hid HI.out.2
            have r4 : (p.length : Int) < n1 := by omega
            have r5 : p.length < n1 := by omega
            clear ey
            go_wp2
            go_ret
            exact ⟨ret_int HE.out, HG.out⟩
end Go.Proofs.Ytlifjhhjkcmneaa
