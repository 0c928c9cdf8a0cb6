/- The contract of spec.RiseCost. -/
import Derived.Test.YtlifjhhjkcmneaaRise
import Derived.Test.YtlifjhhjkcmneaaStepAppend
namespace Go.Proofs.Ytlifjhhjkcmneaa
open Go.RowKit

/-- What the first k places cost if the last one of them is x. -/
def bestF (f : Nat → Int) : Nat → Nat → Int
  | 0, _ => 0
  | k + 1, x => riseT f k x + iab (f k - x)
def bestL (f : Nat → Int) (k : Nat) : List Int := (List.range 13).map (bestF f k)
theorem bestL_len (f : Nat → Int) (k : Nat) : (bestL f k).length = 13 := by simp [bestL]
theorem bestL_at (f : Nat → Int) (k x : Nat) (h : x < 13) : (bestL f k).getD x 0 = bestF f k x := by simp [bestL, h]
theorem mn_zero : ∀ t, mn (fun _ => 0) t = 0
  | 0 => rfl
  | t + 1 => by rw [mn, mn_zero t]; rfl
theorem best_mn (f : Nat → Int) : ∀ k t, mn (bestF f k) t = riseT f k t
  | 0, t => mn_zero t
  | _ + 1, _ => rfl
theorem best_first (f : Nat → Int) (k : Nat) : bestF f k 0 = riseT f k 0 := by rw [← best_mn]; rfl
theorem best_next (f : Nat → Int) (k t : Nat) : riseT f k (t + 1) = min (riseT f k t) (bestF f k (t + 1)) := by rw [← best_mn, ← best_mn]; rfl
theorem bestL_zero (f : Nat → Int) : bestL f 0 = List.replicate 13 0 := rfl
theorem bestL_take (f : Nat → Int) (k x : Nat) (h : x < 13) : (bestL f k).take x ++ [bestF f k x] = (bestL f k).take (x + 1) := by
  have hk : x < (bestL f k).length := by rw [bestL_len]; exact h
  rw [List.take_succ_eq_append_getElem hk]
  congr 2
  have := bestL_at f k x h
  simp only [List.getD_eq_getElem?_getD, List.getElem?_eq_getElem hk, Option.getD_some] at this
  exact this.symm
theorem best_small {p : List Int} (h : vProf p = true) (k x : Nat) (hk : k ≤ p.length) (hx : x ≤ 12) : 0 ≤ bestF (fun i => p.getD i 0) k x ∧ bestF (fun i => p.getD i 0) k x ≤ 130 := by
  cases k with
  | zero => exact ⟨Int.le_refl _, by show (0 : Int) ≤ 130; decide⟩
  | succ k =>
    have h1 := rise_small h k x (by omega) hx
    have h2 := riseP_bd h k (by omega)
    simp only [bestF]
    unfold iab
    omega

set_option maxRecDepth 100000 in
set_option maxHeartbeats 8000000 in
theorem SRiseCost_any (v : Value) (p : List Int) (w : World) (hv : IntsV w v p) :
    Calls Try.prog 34 #[v] w fun e w' => e = .returned (.int .i64 (riseX p)) ∧ Grew w w' := by
  have HV := Lib.hid (sValidProfile0_any v p w hv)
  obtain ⟨a, b, o, c, rfl, ⟨hlc, hcb⟩, ha, HC⟩ := hv.shape
  clear hv
  unfold riseX
  cases hp : vProf p with
  | false =>
    have HP := Lib.hid hp
    clear hp ha
    go_enter Try.func34, Try.ntmps34
    go_wp2_with (fail)
    refine HV.out.mono ?_
    rw [HP.out]
    rintro e w1 ⟨rfl, rfl⟩
    go_wp2
    go_ret
    exact ⟨rfl, Grew.refl _⟩
  | true =>
    have HP := Lib.hid hp
    have h1 := ((vProf_iff p).1 hp).1
    have h9 := ((vProf_iff p).1 hp).2.1
    obtain rfl := ha h1
    have HB := Lib.hid (riseP_bd hp)
    have HS := Lib.hid (rise_small hp)
    have HS2 := Lib.hid (best_small hp)
    obtain ⟨f, ef⟩ : ∃ f : Nat → Int, (fun i => p.getD i 0) = f := ⟨_, rfl⟩
    have HF : Hid (∀ i, p.getD i 0 = f i) := fun i => by rw [← ef]
    have hbb := World.block_lt_of_cell? _ _ (HC.out 0 h1)
    simp only [] at hbb
    rw [ef] at HS HS2 ⊢
    clear hp ha ef
    go_enter Try.func34, Try.ntmps34
    go_wp2_with (fail)
    refine HV.out.mono ?_
    rw [HP.out]
    rintro e w1 ⟨rfl, rfl⟩
    go_wp2_with (at_make; refine wpList_make_ints rfl (.const (.int .i64 13)) (.const (.int .i64 13)) 23 rfl Try.underlying23 Try.infoE (n := 13) rfl rfl rfl rfl (by omega) ?_; intro w1 hO1 hg1 hs1)
    have H0 : Hid (IntsO 3 w.heap.size (w.heap.size + 1) w1 (.slice (some ⟨w.heap.size, 0, none⟩) 13 13) (bestL f 0) ∧ Grew w w1 ∧ w.heap.size ≤ w.heap.size) := by
      rw [bestL_zero]; exact ⟨hO1.at1, hg1, Nat.le_refl _⟩
    clear hO1 hg1 hs1
    go_wp2
    go_loopw [3, 4] (fun bv i wr => ∃ k gb cb : Nat, bv = .slice (some ⟨gb, 0, none⟩) 13 cb ∧ k ≤ p.length ∧ i = .int .i64 k ∧ Hid (IntsO 3 gb (gb + 1) wr bv (bestL f k) ∧ Grew w wr ∧ w.heap.size ≤ gb)) (fun _ i _ => p.length - (intOf i).toNat)
    case atStart => exact ⟨0, _, _, rfl, Nat.zero_le _, rfl, H0.out⟩
    case round =>
      obtain ⟨k, gb, cb, rfl, hk, rfl, HI⟩ := hrel
      clear H0
      obtain ⟨wo, rfl⟩ : ∃ wo : World, wo = wr := ⟨_, rfl⟩
      by_cases hlt : k < p.length
      · have hck := HI.out.2.1.cell (HC.out k hlt)
        have hbk := HB.out k hlt
        rw [HF.out k] at hck hbk
        obtain ⟨y, ey⟩ : ∃ y, f k = y := ⟨_, rfl⟩
        rw [ey] at hck hbk
        have HY := Lib.hid ey
        have HCK := Lib.hid hck
        have hgblt := HI.out.1.blkLt
        have hwo := HI.out.2.1.size
        clear ey hck
        go_wp2_with (fail)
        have HJ0 : Hid (IntsO 3 wo.heap.size (wo.heap.size + 1) (wo.alloc (.cells #[] 3)) (.slice (some ⟨wo.heap.size, 0, none⟩) 0 0) ((bestL f (k + 1)).take 0) ∧ Grew wo (wo.alloc (.cells #[] 3)) ∧ wo.heap.size ≤ wo.heap.size) :=
          ⟨by have := IntsO.lit 3 wo.heap.size wo [] #[] rfl (Nat.le_refl _) (by decide); simpa using this, (Grew.refl _).alloc _, Nat.le_refl _⟩
        go_loopw [5, 6, 7] (fun l nv i wr => ∃ (x : Nat) (lo : Int) (g c' : Nat), l = .int .i64 lo ∧ nv = .slice (some ⟨g, 0, none⟩) x c' ∧ i = .int .i64 x ∧ x ≤ 13 ∧ lo = (if x = 0 then (-1 : Int) else riseT f k (x - 1)) ∧ Hid (IntsO 3 g (g + 1) wr nv ((bestL f (k + 1)).take x) ∧ Grew wo wr ∧ wo.heap.size ≤ g)) (fun _ _ i _ => 13 - (intOf i).toNat)
        case atStart => exact ⟨0, -1, _, _, rfl, rfl, rfl, by omega, rfl, HJ0.out⟩
        case round =>
          obtain ⟨x, lo, g, c', rfl, rfl, rfl, hx, hlo, HJ⟩ := hrel
          clear HJ0
          by_cases hltx : x < 13
          · have hcy := HJ.out.2.1.cell HCK.out
            have hcb := HJ.out.2.1.cell (HI.out.1.at rfl (i := x) (by rw [bestL_len]; exact hltx)).1
            rw [bestL_at _ _ _ hltx] at hcb
            have hsb := HS2.out k x (by omega) (by omega)
            have hsr := HS.out k x (by omega) (by omega)
            obtain ⟨z, ez⟩ : ∃ z, bestF f k x = z := ⟨_, rfl⟩
            obtain ⟨r, er⟩ : ∃ r, riseT f k x = r := ⟨_, rfl⟩
            rw [ez] at hcb hsb
            rw [er] at hsr
            have HLN : Hid (((bestL f (k + 1)).take x).length = x) := by show _ = _; simp [bestL_len]; omega
            have hst := bestL_take f (k + 1) x hltx
            have hbf : bestF f (k + 1) x = r + max (y - (x : Int)) ((x : Int) - y) := by
              show riseT f k x + iab (f k - x) = _
              rw [er, HY.out, show iab (y - (x : Int)) = max (y - (x : Int)) ((x : Int) - y) by unfold iab; omega]
            rw [hbf] at hst
            have HNX : Hid ((bestL f (k + 1)).take x ++ [r + max (y - (x : Int)) ((x : Int) - y)] = (bestL f (k + 1)).take (x + 1)) := hst
            have hgw := HJ.out.2.2
            have HSA : Hid (∀ O : Obj, (wr.drew.alloc O).cell? ⟨b, o + k, none⟩ = some (.int .i64 y)) := fun O => (((Grew.refl wr).drew).alloc O).cell hcy
            have w1' : IntKind.i64.wrap (y - (x : Int)) = y - x := wrap_small' _ (by omega) (by omega)
            have w2' : IntKind.i64.wrap ((x : Int) - y) = x - y := wrap_small' _ (by omega) (by omega)
            have w3' : IntKind.i64.wrap (r + max (y - (x : Int)) ((x : Int) - y)) = r + max (y - (x : Int)) ((x : Int) - y) := wrap_small' _ (by omega) (by omega)
            have r1 : (k : Int) < p.length := by omega
            have r2 : (0 : Int) ≤ k := by omega
            have r3 : (x : Int) < 13 := by omega
            have r4 : (0 : Int) ≤ x := by omega
            have HZR := Lib.hid (And.intro ez er)
            by_cases hx0 : x = 0
            · have hz : z = r := by rw [← ez, ← er, hx0]; exact best_first f k
              obtain rfl : lo = -1 := by rw [hlo, if_pos hx0]
              have h0 : (-1 : Int) < 0 := by decide
              subst hz
              clear ez er hlo hst hbf hx0
              go_wp2_with (fail)
              go_region_held3 (fun W => W.cell? ⟨b, o + k, none⟩ = some (.int .i64 y))
                (first
                  | exact hcy
                  | assumption
                  | exact HSA.out _
                  | exact h5c)
                (first
                  | (refine step_append_int (w := wr.drew) rfl (.tmp 39) (.tmp 55) 23 rfl Try.underlying23 Try.infoE (by simp [Act.eval]) (by simp [Act.eval]) rfl (HJ.out.1.grew ((Grew.refl wr).drew)) (by rw [HLN.out]; omega) HLN.out.symm ?_; rw [HLN.out]; intro g5 c5 w5 hO5 hW5 hat5 hlt5; have h5c := hW5.cell (((Grew.refl wr).drew).cell hcy) (.inl (by show b < g; omega))))
              rw [HNX.out] at hO5
              have HN : Hid (IntsO 3 g5 (g5 + 1) w5 (.slice (some ⟨g5, 0, none⟩) (x + 1) c5) ((bestL f (k + 1)).take (x + 1)) ∧ Grew wo w5 ∧ wo.heap.size ≤ g5) :=
                ⟨hO5, Within.grew HJ.out.2.1.drew hW5 hgw, by
                  have h := HJ.out.2.1.size
                  have e : wr.drew.heap.size = wr.heap.size := rfl
                  rcases hat5 with h5 | h5
                  · omega
                  · omega⟩
              clear hO5 hW5 hat5 hlt5 h5c
              go_wp2
              go_roundw
              case rel => exact ⟨x + 1, _, g5, c5, rfl, rfl, by go_num, by omega, by show _ = if x + 1 = 0 then (-1 : Int) else riseT f k (x + 1 - 1); rw [if_neg (by omega), show x + 1 - 1 = x by omega]; exact HZR.out.2.symm, HN.out⟩
              case measure => simp [intOf]; omega
            · have hlo' : lo = riseT f k (x - 1) := by rw [hlo, if_neg hx0]
              have hl0 := HS.out k (x - 1) (by omega) (by omega)
              rw [← hlo'] at hl0
              have hnx := best_next f k (x - 1)
              rw [show x - 1 + 1 = x by omega, ← hlo', er, ez] at hnx
              have hl1 : ¬ lo < 0 := by omega
              by_cases hzl : z < lo
              · obtain rfl : r = z := by omega
                clear ez er hlo hst hbf hx0 hlo' hnx
                go_wp2_with (fail)
                go_region_held3 (fun W => W.cell? ⟨b, o + k, none⟩ = some (.int .i64 y))
                  (first
                    | exact hcy
                    | assumption
                    | exact HSA.out _
                    | exact h5c)
                  (first
                    | (refine step_append_int (w := wr.drew) rfl (.tmp 39) (.tmp 55) 23 rfl Try.underlying23 Try.infoE (by simp [Act.eval]) (by simp [Act.eval]) rfl (HJ.out.1.grew ((Grew.refl wr).drew)) (by rw [HLN.out]; omega) HLN.out.symm ?_; rw [HLN.out]; intro g5 c5 w5 hO5 hW5 hat5 hlt5; have h5c := hW5.cell (((Grew.refl wr).drew).cell hcy) (.inl (by show b < g; omega))))
                rw [HNX.out] at hO5
                have HN : Hid (IntsO 3 g5 (g5 + 1) w5 (.slice (some ⟨g5, 0, none⟩) (x + 1) c5) ((bestL f (k + 1)).take (x + 1)) ∧ Grew wo w5 ∧ wo.heap.size ≤ g5) :=
                  ⟨hO5, Within.grew HJ.out.2.1.drew hW5 hgw, by
                    have h := HJ.out.2.1.size
                    have e : wr.drew.heap.size = wr.heap.size := rfl
                    rcases hat5 with h5 | h5
                    · omega
                    · omega⟩
                clear hO5 hW5 hat5 hlt5 h5c
                go_wp2
                go_roundw
                case rel => exact ⟨x + 1, _, g5, c5, rfl, rfl, by go_num, by omega, by show _ = if x + 1 = 0 then (-1 : Int) else riseT f k (x + 1 - 1); rw [if_neg (by omega), show x + 1 - 1 = x by omega]; exact HZR.out.2.symm, HN.out⟩
                case measure => simp [intOf]; omega
              · obtain rfl : r = lo := by omega
                clear ez er hlo hst hbf hx0 hlo' hnx
                go_wp2_with (fail)
                go_region_held3 (fun W => W.cell? ⟨b, o + k, none⟩ = some (.int .i64 y))
                  (first
                    | exact hcy
                    | assumption
                    | exact HSA.out _
                    | exact h5c)
                  (first
                    | (refine step_append_int (w := wr.drew) rfl (.tmp 39) (.tmp 55) 23 rfl Try.underlying23 Try.infoE (by simp [Act.eval]) (by simp [Act.eval]) rfl (HJ.out.1.grew ((Grew.refl wr).drew)) (by rw [HLN.out]; omega) HLN.out.symm ?_; rw [HLN.out]; intro g5 c5 w5 hO5 hW5 hat5 hlt5; have h5c := hW5.cell (((Grew.refl wr).drew).cell hcy) (.inl (by show b < g; omega))))
                rw [HNX.out] at hO5
                have HN : Hid (IntsO 3 g5 (g5 + 1) w5 (.slice (some ⟨g5, 0, none⟩) (x + 1) c5) ((bestL f (k + 1)).take (x + 1)) ∧ Grew wo w5 ∧ wo.heap.size ≤ g5) :=
                  ⟨hO5, Within.grew HJ.out.2.1.drew hW5 hgw, by
                    have h := HJ.out.2.1.size
                    have e : wr.drew.heap.size = wr.heap.size := rfl
                    rcases hat5 with h5 | h5
                    · omega
                    · omega⟩
                clear hO5 hW5 hat5 hlt5 h5c
                go_wp2
                go_roundw
                case rel => exact ⟨x + 1, _, g5, c5, rfl, rfl, by go_num, by omega, by show _ = if x + 1 = 0 then (-1 : Int) else riseT f k (x + 1 - 1); rw [if_neg (by omega), show x + 1 - 1 = x by omega]; exact HZR.out.2.symm, HN.out⟩
                case measure => simp [intOf]; omega
          · obtain rfl : x = 13 := by omega
            have HN : Hid (IntsO 3 g (g + 1) wr (.slice (some ⟨g, 0, none⟩) 13 c') (bestL f (k + 1)) ∧ Grew w wr ∧ w.heap.size ≤ g) := by
              have h := HJ.out.1
              rw [List.take_of_length_le (by rw [bestL_len]; exact Nat.le_refl _)] at h
              exact ⟨h, HI.out.2.1.trans HJ.out.2.1, by have := HJ.out.2.2; omega⟩
            clear hlo
            go_wp2
            go_roundw
            case rel => exact ⟨k + 1, g, c', rfl, by omega, by go_num, HN.out⟩
            case measure => simp [intOf]; omega
      · obtain rfl : k = p.length := by omega
        have hc0 := (HI.out.1.at rfl (i := 0) (by rw [bestL_len]; decide)).1
        rw [bestL_at _ _ _ (by decide), best_first] at hc0
        have hs0 := HS.out p.length 0 (Nat.le_refl _) (by omega)
        obtain ⟨r0, er0⟩ : ∃ r0, riseT f p.length 0 = r0 := ⟨_, rfl⟩
        rw [er0] at hc0
        have HR0 := Lib.hid er0
        clear er0
        go_wp2
        go_loop [8, 9] (fun t i => ∃ (x : Nat) (z : Int), x < 13 ∧ t = .int .i64 z ∧ i = .int .i64 ((x + 1 : Nat) : Int) ∧ Hid (z = riseT f p.length x)) (fun _ i => 14 - (intOf i).toNat)
        case atStart => exact ⟨0, r0, by omega, rfl, rfl, HR0.out.symm⟩
        case round =>
          obtain ⟨x, z, hx, rfl, rfl, HZ⟩ := hrel
          obtain ⟨x1, ex1⟩ : ∃ x1, x + 1 = x1 := ⟨_, rfl⟩
          rw [ex1]
          have HX1 := Lib.hid ex1
          by_cases hlx : x1 < 13
          · have hcx := (HI.out.1.at rfl (i := x1) (by rw [bestL_len]; exact hlx)).1
            rw [bestL_at _ _ _ hlx] at hcx
            have hnx := best_next f p.length x
            rw [ex1] at hnx
            obtain ⟨y, ey⟩ : ∃ y, bestF f p.length x1 = y := ⟨_, rfl⟩
            rw [ey] at hcx hnx
            have HNX : Hid (min z y = riseT f p.length x1) := by rw [HZ.out]; exact hnx.symm
            have r1 : (x1 : Int) < 13 := by omega
            have r2 : (0 : Int) ≤ x1 := by omega
            clear ey hnx ex1
            go_wp2
            go_round
            case rel => exact ⟨x1, min z y, by omega, rfl, by go_num, HNX.out⟩
            case measure => simp [intOf]; omega
          · have hx12 : x = 12 := by omega
            have HE : Hid (z = riseT f p.length 12) := by rw [← hx12]; exact HZ.out
            have HG := Lib.hid HI.out.2.1
            have hx1 : ¬ (x1 : Int) ≤ 12 := by omega
            clear ex1 hx12
            go_wp2
            go_ret
            exact ⟨ret_int HE.out, HG.out⟩
end Go.Proofs.Ytlifjhhjkcmneaa
