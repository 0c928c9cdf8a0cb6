/- spec.areas, outlet, steps, and AreasOf, BasinsOf, LongestOf. -/
import Derived.Test.YtekhjjcgkmnmlaaDoorStrM
import Derived.Test.YtekhjjcgkmnmlaaDoorHeights
import Derived.Test.YtekhjjcgkmnmlaaDoorRows
import Derived.Test.YtekhjjcgkmnmlaaDoorBase
import Derived.Test.YtekhjjcgkmnmlaaDoorFlowW
import Derived.Test.YtekhjjcgkmnmlaaDoorStrT
import Derived.Test.YtekhjjcgkmnmlaaDoorSFlow
import Derived.Lib.MinMax
/- The contract of spec.areas. -/
namespace Go.Proofs.YtekhjjcgkmnmlaaDoor
open Go.RowKit

set_option maxRecDepth 100000 in
set_option maxHeartbeats 4000000 in
theorem sareas_any (v : Value) (ts : List Int) (N : Nat) (w : World) (hv : IntsV w v ts) (R : Runs N ts) (hN : N ≤ 25) (hN1 : 1 ≤ N) :
    Calls Tryd.prog 47 #[v] w (OwnI w (toldU (phiA ts) N)) := by
  obtain ⟨a, b, o, c, rfl, ⟨hlc, hcb⟩, ha, HC⟩ := hv.shape
  obtain rfl := ha (by rw [R.len]; omega)
  have HC2 : Hid (∀ X, X < N → w.cell? ⟨b, o + X, none⟩ = some (.int .i64 (ts.getD X 0))) := Lib.hid fun X hX => HC.out X (by rw [R.len]; exact hX)
  obtain ⟨rk, _, hr2⟩ := R.rank
  have HR := Lib.hid R
  have HK := Lib.hid hr2
  have hln := R.len
  have HBB := Lib.hid (World.block_lt_of_cell? _ _ (HC2.out 0 (by omega)))
  rw [hln] at hlc ⊢
  have HLN := Lib.hid hln
  clear hv ha HC R hr2 hln
  go_enter Tryd.func47, Tryd.ntmps47
  go_wp2_with (at_make; refine wpList_make_ints rfl (.tmp 7) (.tmp 7) 27 rfl Tryd.underlying27 Tryd.infoI rfl rfl rfl rfl (by omega) ?_; intro w4 hO4 hg4 hs4)
  obtain ⟨B, eB⟩ : ∃ B, w.heap.size = B := ⟨_, rfl⟩
  obtain ⟨C, eC⟩ : ∃ C, w4.heap.size = C := ⟨_, rfl⟩
  rw [eB] at hO4 hs4 ⊢
  have H4 : Hid (IntsO 3 B C w4 (.slice (some ⟨B, 0, none⟩) N N) (List.replicate N 0) ∧ Grew w w4 ∧ B < C ∧ w4.heap.size = C ∧ w.heap.size = B) := Lib.hid ⟨by rw [← eC]; exact hO4, hg4, by omega, eC, eB⟩
  clear hO4 hg4 hs4 eB eC
  go_wp2
  go_loopw [4] (fun i wr => ∃ k : Nat, k ≤ N ∧ i = .int .i64 (k : Int) ∧ Hid (∃ xs : List Int, xs.length = N ∧ (∀ x, x < N → xs.getD x 0 = areaP ts k x) ∧ IntsO 3 B C wr (.slice (some ⟨B, 0, none⟩) N N) xs ∧ Grew w wr ∧ C ≤ wr.heap.size)) (fun i _ => N - (intOf i).toNat)
  case atStart => exact ⟨0, Nat.zero_le _, rfl, _, by simp, fun x hx => by simp [hx]; rfl, H4.out.1, H4.out.2.1, by rw [H4.out.2.2.2.1]; exact Nat.le_refl _⟩
  case round =>
    obtain ⟨k, hk, rfl, HX⟩ := hrel
    by_cases hlt : k < N
    · have hki : (k : Int) < (N : Int) := by omega
      have HX2 : Hid (∃ xs : List Int, AreaI N ts k k xs ∧ IntsO 3 B C wr (.slice (some ⟨B, 0, none⟩) N N) xs ∧ Grew w wr ∧ C ≤ wr.heap.size) := by
        obtain ⟨xs, z1, z2, z3, z4, z5⟩ := HX.out
        exact Lib.hid ⟨xs, areaI_start z1 z2, z3, z4, z5⟩
      clear HX
      go_wp2
      go_loopw [5] (fun xv wr => ∃ x : Int, xv = .int .i64 x ∧ ((x = -1 ∧ Hid (∃ xs : List Int, xs.length = N ∧ (∀ x, x < N → xs.getD x 0 = areaP ts (k + 1) x) ∧ IntsO 3 B C wr (.slice (some ⟨B, 0, none⟩) N N) xs ∧ Grew w wr ∧ C ≤ wr.heap.size)) ∨ ∃ X : Nat, x = X ∧ X < N ∧ Hid (∃ xs : List Int, AreaI N ts k X xs ∧ IntsO 3 B C wr (.slice (some ⟨B, 0, none⟩) N N) xs ∧ Grew w wr ∧ C ≤ wr.heap.size))) (fun xv _ => if intOf xv < 0 then 0 else rk (intOf xv).toNat + 1)
      case atStart => exact ⟨k, rfl, .inr ⟨k, rfl, hlt, HX2.out⟩⟩
      case round =>
        clear HX2
        obtain ⟨x, rfl, hx⟩ := hrel
        rcases hx with ⟨rfl, HE⟩ | ⟨X, rfl, hX, HX⟩
        · go_wp2
          go_roundw
          case rel => exact ⟨k + 1, by omega, by go_num, HE.out⟩
          case measure => simp [intOf]; omega
        · obtain ⟨xs, HE2⟩ : ∃ xs : List Int, Hid (AreaI N ts k X xs ∧ IntsO 3 B C wr (.slice (some ⟨B, 0, none⟩) N N) xs ∧ Grew w wr ∧ C ≤ wr.heap.size) := by
            obtain ⟨xs, h⟩ := HX.out
            exact ⟨xs, Lib.hid h⟩
          obtain ⟨hcx, hfx⟩ := HE2.out.2.1.at rfl (i := X) (by rw [HE2.out.1.len]; exact hX)
          have hbd := HE2.out.1.bd X hX hlt
          have hXi : (X : Int) < (N : Int) := by omega
          have hct : (wr.setCell ⟨B, X, none⟩ (.int .i64 (xs.getD X 0 + 1))).cell? ⟨b, o + X, none⟩ = some (.int .i64 (ts.getD X 0)) := by
            rw [World.cell?_setCell_other _ _ _ _ (by have h1 := HBB.out; have h2 := H4.out.2.2.2.2; simp only [ne_eq, Addr.mk.injEq, not_and]; intro e; have h3 : b < w.heap.size := h1; omega)]
            exact HE2.out.2.2.1.cell (HC2.out X hX)
          have HF : ∀ ys, IntsO 3 B C (wr.setCell ⟨B, X, none⟩ (.int .i64 (xs.getD X 0 + 1))) (.slice (some ⟨B, 0, none⟩) N N) (xs.set X (xs.getD X 0 + 1)) → ys = xs.set X (xs.getD X 0 + 1) → IntsO 3 B C (wr.setCell ⟨B, X, none⟩ (.int .i64 (xs.getD X 0 + 1))) (.slice (some ⟨B, 0, none⟩) N N) ys := fun ys h e => by rw [e]; exact h
          have HO : Hid (IntsO 3 B C (wr.setCell ⟨B, X, none⟩ (.int .i64 (xs.getD X 0 + 1))) (.slice (some ⟨B, 0, none⟩) N N) (xs.set X (xs.getD X 0 + 1)) ∧ Grew w (wr.setCell ⟨B, X, none⟩ (.int .i64 (xs.getD X 0 + 1))) ∧ C ≤ (wr.setCell ⟨B, X, none⟩ (.int .i64 (xs.getD X 0 + 1))).heap.size) := by
            obtain ⟨z1, z3, z4, z5⟩ := HE2.out
            have hwi : Within B C wr (wr.setCell ⟨B, X, none⟩ (.int .i64 (xs.getD X 0 + 1))) := (Within.refl _ _ _).setCell (p := ⟨B, X, none⟩) (Nat.le_refl _) H4.out.2.2.1 _
            exact Lib.hid ⟨z3.set rfl X _, Within.grew z4 hwi (by rw [H4.out.2.2.2.2]; exact Nat.le_refl _), by simpa using z5⟩
          have HA := Lib.hid HE2.out.1
          clear HF HX HE2
          obtain ⟨y, ey⟩ : ∃ y, xs.getD X 0 = y := ⟨_, rfl⟩
          have hw : IntKind.i64.wrap (y + 1) = y + 1 := IntWalk.i64_in _ (by rw [ey] at hbd; omega)
          have HEY := Lib.hid ey
          rw [ey] at hcx hct HO
          clear ey hbd
          rcases HR.out.to X hX with e | ⟨Y, e, hY⟩
          · rw [e] at hct
            have HL := Lib.hid (HA.out.last hX e)
            rw [HEY.out] at HL
            clear e
            go_wp2
            go_roundw
            case rel => exact ⟨-1, rfl, .inl ⟨rfl, _, HL.out.1, HL.out.2, HO.out⟩⟩
            case measure =>
              have h0 : ¬ (X : Int) < 0 := by omega
              simp [intOf, h0]
          · rw [e] at hct
            have HL := Lib.hid (HA.out.step HR.out hX hY e)
            rw [HEY.out] at HL
            have HM := Lib.hid (HK.out X Y hX e)
            clear e
            go_wp2
            go_roundw
            case rel => exact ⟨Y, rfl, .inr ⟨Y, rfl, hY, _, HL.out, HO.out⟩⟩
            case measure =>
              have h0 : ¬ (X : Int) < 0 := by omega
              have h1 : ¬ (Y : Int) < 0 := by omega
              have := HM.out
              simp [intOf, h0, h1]
              omega
    · obtain rfl : k = N := by omega
      have HF : Hid (IntsO 3 w.heap.size wr.heap.size wr (.slice (some ⟨B, 0, none⟩) k k) (toldU (phiA ts) k) ∧ Grew w wr) := by
        obtain ⟨xs, z1, z2, z3, z4, z5⟩ := HX.out
        have e : xs = toldU (phiA ts) k := ext_getD (n := k) z1 (toldU_len _ _) fun i hi => by
          rw [z2 i hi, toldU_at _ _ _ hi, areaP_all]
          unfold phiA
          rw [HLN.out]
        rw [e] at z3
        exact Lib.hid ⟨z3.wide (by rw [H4.out.2.2.2.2]; exact Nat.le_refl _) z5, z4⟩
      clear HX
      go_wp2
      go_ret
      refine ⟨some ⟨B, 0, none⟩, k, ret_slice (toldU_len _ _).symm, ?_, HF.out.2⟩
      rw [toldU_len]
      exact HF.out.1
end Go.Proofs.YtekhjjcgkmnmlaaDoor

/- The contracts of spec's outlet and steps. -/
namespace Go.Proofs.YtekhjjcgkmnmlaaDoor
open Go.RowKit

set_option maxRecDepth 100000 in
set_option maxHeartbeats 1000000 in
theorem outlet_any (v : Value) (ts : List Int) (N i : Nat) (w : World) (hv : IntsV w v ts) (R : Runs N ts) (hi : i < N) :
    Calls Tryd.prog 53 #[v, .int .i64 (i : Int)] w fun e w' => e = .returned (.int .i64 (lastL ts i : Int)) ∧ w = w' := by
  obtain ⟨a, b, o, c, rfl, ⟨hlc, hcb⟩, ha, HC⟩ := hv.shape
  obtain rfl := ha (by rw [R.len]; omega)
  have HC2 : Hid (∀ X, X < N → w.cell? ⟨b, o + X, none⟩ = some (.int .i64 (ts.getD X 0))) := Lib.hid fun X hX => HC.out X (by rw [R.len]; exact hX)
  obtain ⟨rk, hr1, hr2⟩ := R.rank
  have HR := Lib.hid R
  have HK := Lib.hid hr2
  have hln := R.len
  rw [hln] at hlc ⊢
  clear hv ha HC R hr1 hr2 hln
  go_enter Tryd.func53, Tryd.ntmps53
  go_wp2
  go_loop [1] (fun iv => ∃ X : Nat, X < N ∧ iv = .int .i64 (X : Int) ∧ Hid (lastL ts X = lastL ts i)) (fun iv => rk (intOf iv).toNat)
  case atStart => exact ⟨i, hi, rfl, Lib.hid rfl⟩
  case round =>
    obtain ⟨X, hX, rfl, HL⟩ := hrel
    have hc := HC2.out X hX
    have hXi : (X : Int) < (N : Int) := by omega
    rcases HR.out.to X hX with e | ⟨k, e, hk⟩
    · rw [e] at hc
      have HE := Lib.hid (way_end e).2.1
      clear e
      go_wp2
      go_ret
      exact ⟨ret_int (by rw [← HL.out, HE.out]), rfl⟩
    · rw [e] at hc
      have HE := Lib.hid (way_on HR.out hX e).2.1
      have HM := Lib.hid (HK.out X k hX e)
      clear e
      go_wp2
      go_round
      case rel => exact ⟨k, hk, rfl, Lib.hid (by rw [← HL.out, HE.out])⟩
      case measure => have := HM.out; simp [intOf]; omega

set_option maxRecDepth 100000 in
set_option maxHeartbeats 1000000 in
theorem steps_any (v : Value) (ts : List Int) (N i : Nat) (w : World) (hv : IntsV w v ts) (R : Runs N ts) (hi : i < N) (hN : N ≤ 25) :
    Calls Tryd.prog 57 #[v, .int .i64 (i : Int)] w fun e w' => e = .returned (.int .i64 (lenL ts i)) ∧ w = w' := by
  obtain ⟨a, b, o, c, rfl, ⟨hlc, hcb⟩, ha, HC⟩ := hv.shape
  obtain rfl := ha (by rw [R.len]; omega)
  have HC2 : Hid (∀ X, X < N → w.cell? ⟨b, o + X, none⟩ = some (.int .i64 (ts.getD X 0))) := Lib.hid fun X hX => HC.out X (by rw [R.len]; exact hX)
  obtain ⟨rk, hr1, hr2⟩ := R.rank
  have HR := Lib.hid R
  have HK := Lib.hid hr2
  have HB := Lib.hid (len_le R hi)
  have hln := R.len
  rw [hln] at hlc ⊢
  clear hv ha HC R hr1 hr2 hln
  go_enter Tryd.func57, Tryd.ntmps57
  go_wp2
  go_loop [5, 6] (fun nv xv => ∃ (q : Nat) (x : Int), nv = .int .i64 (q : Int) ∧ xv = .int .i64 x ∧ (x = -1 ∨ ∃ X : Nat, x = X ∧ X < N) ∧ Hid ((x = -1 ∧ (q : Int) = lenL ts i) ∨ ∃ X : Nat, x = X ∧ X < N ∧ (q : Int) + lenL ts X = lenL ts i)) (fun _ xv => if intOf xv < 0 then 0 else rk (intOf xv).toNat + 1)
  case atStart => exact ⟨0, i, rfl, rfl, .inr ⟨i, rfl, hi⟩, Lib.hid (.inr ⟨i, rfl, hi, by omega⟩)⟩
  case round =>
    obtain ⟨q, x, rfl, rfl, hx, HL⟩ := hrel
    rcases hx with rfl | ⟨X, rfl, hX⟩
    · have HE : Hid ((q : Int) = lenL ts i) := Lib.hid (by
        rcases HL.out with ⟨_, h⟩ | ⟨X, h, _⟩
        · exact h
        · omega)
      clear HL
      go_wp2
      go_ret
      exact ⟨ret_int HE.out, rfl⟩
    · have HQ : Hid ((q : Int) + lenL ts X = lenL ts i) := Lib.hid (by
        rcases HL.out with ⟨h, _⟩ | ⟨X', h, _, h2⟩
        · omega
        · obtain rfl : X = X' := by omega
          exact h2)
      have hc := HC2.out X hX
      have hXi : (X : Int) < (N : Int) := by omega
      have hq : (q : Int) + 1 ≤ 25 := by
        have h1 := HQ.out
        have h2 := HB.out
        have h3 := (len_area HR.out X hX).1
        omega
      clear HL
      rcases HR.out.to X hX with e | ⟨k, e, hk⟩
      · rw [e] at hc
        have HE := Lib.hid (way_end e).1
        clear e
        go_wp2
        go_round
        case rel => exact ⟨q + 1, -1, by go_num, rfl, .inl rfl, Lib.hid (.inl ⟨rfl, by have h1 := HQ.out; have h2 := HE.out; omega⟩)⟩
        case measure =>
          have h0 : ¬ (X : Int) < 0 := by omega
          simp [intOf, h0]
      · rw [e] at hc
        have HE := Lib.hid (way_on HR.out hX e).1
        have HM := Lib.hid (HK.out X k hX e)
        clear e
        go_wp2
        go_round
        case rel => exact ⟨q + 1, k, by go_num, rfl, .inr ⟨k, rfl, hk⟩, Lib.hid (.inr ⟨k, rfl, hk, by have h1 := HQ.out; have h2 := HE.out; omega⟩)⟩
        case measure =>
          have h0 : ¬ (X : Int) < 0 := by omega
          have h1 : ¬ (k : Int) < 0 := by omega
          have := HM.out
          simp [intOf, h0, h1]
          omega
end Go.Proofs.YtekhjjcgkmnmlaaDoor

/- spec's AreasOf, BasinsOf, LongestOf, StreamOrders and SpringsOf. -/

namespace Go.Proofs.YtekhjjcgkmnmlaaDoor
open Go.RowKit

/-- The greatest of the first numbers, 0 if there are none. -/
def mostL (f : Nat → Int) : Nat → Int
  | 0 => 0
  | k + 1 => max (mostL f k) (f k)
noncomputable def longX (h : List (List Int)) : Int := if vGrid h = true then mostL (phiL (tgtsL h)) (h.length * (h.getD 0 []).length) else -1
theorem longX_no {h : List (List Int)} (hg : vGrid h = false) : longX h = -1 := by unfold longX; rw [hg]; rfl

set_option maxRecDepth 100000 in
set_option maxHeartbeats 4000000 in
theorem SAreasOf_any (v : Value) (h : List (List Int)) (w : World) (hv : RowsV w v h) :
    Calls Tryd.prog 17 #[v] w (NewRows w (toldX phiA h)) := by
  have HK := sValidGrid_any v h w hv
  cases hg : vGrid h with
  | false =>
    rw [hg] at HK
    have HK2 := Lib.hid HK
    rw [toldX_no hg]
    obtain ⟨a, b, o, c, rfl, _, _, _⟩ := hv.shape
    clear hv HK hg
    go_enter Tryd.func17, Tryd.ntmps17
    go_wp2_with (fail)
    refine HK2.out.mono ?_
    rintro e w1 ⟨rfl, hG⟩
    have HG := Lib.hid hG
    clear hG
    go_wp2
    go_ret
    exact ⟨_, rfl, RowsO.nil _ _ _ _ _, HG.out⟩
  | true =>
    rw [hg] at HK
    have HK2 := Lib.hid HK
    have G := Grid.of hg
    have hRun := tgts_run hg
    obtain ⟨n, en⟩ : ∃ n, h.length = n := ⟨_, rfl⟩
    obtain ⟨m, em⟩ : ∃ m, (h.getD 0 []).length = m := ⟨_, rfl⟩
    obtain ⟨N, eN⟩ : ∃ N, n * m = N := ⟨_, rfl⟩
    have HF := Lib.hid fun W (hW : Grew w W) => sflow_any v h n m N W (hv.grew hW) hg en em eN
    have hTl : (tgtsL h).length = N := by rw [tgtsL, tgtsU_len, en, em, eN]
    rw [en, em, eN] at hRun
    obtain ⟨ts, ets⟩ : ∃ ts, tgtsL h = ts := ⟨_, rfl⟩
    have HR : Hid (toldX phiA h = shapeL (toldU (phiA ts) N) m n) := Lib.hid (by unfold toldX; rw [if_pos hg, ets, en, em, eN])
    rw [ets] at HF hTl hRun
    have HRUN := Lib.hid hRun
    have hn5 := G.n5
    have hn1 := G.n1
    have hm5 := G.m5
    have hm1 := G.m1
    rw [en] at hn5 hn1
    rw [em] at hm5 hm1
    have hN1 : 1 ≤ N := by rw [← eN]; exact Nat.mul_pos hn1 hm1
    have hN25 : N ≤ 25 := by rw [← eN]; exact Nat.mul_le_mul hn5 hm5
    obtain ⟨a, b, o, c, rfl, ⟨hlc, hcb⟩, ha, HCR⟩ := hv.shape
    obtain rfl := ha (by omega)
    obtain ⟨u0, hcu0, hu0⟩ := HCR.out 0 (by omega)
    rw [Nat.add_zero] at hcu0
    obtain ⟨a0, b0, o0, c0, rfl, _, _, _⟩ := hu0.shape
    rw [em] at hcu0
    rw [en] at HK2 HF hlc ⊢
    have hn0 : (0 : Int) < (n : Int) := by omega
    have HNM : Hid (n ≤ 5 ∧ 1 ≤ m ∧ m ≤ 5 ∧ n * m = N ∧ ts.length = N) := Lib.hid ⟨hn5, hm1, hm5, eN, hTl⟩
    have HSL : Hid (∀ (lo hi : Nat) (xs : List Int) (a : Option Addr) (c : Nat) W, xs.length = N → IntsO 3 lo hi W (.slice a N c) xs → ∃ g, a = some ⟨g, 0, none⟩) := Lib.hid fun lo hi xs a c W hl hO => by
      obtain ⟨g, c', e, _⟩ := hO.pos (by rw [hl]; omega)
      simp only [Value.slice.injEq] at e
      exact ⟨g, e.1⟩
    have HIN := Lib.hid fun v W (hi : IntsV W v ts) => sareas_any v ts N W hi hRun hN25 hN1
    obtain ⟨R, eR⟩ : ∃ R, toldX phiA h = R := ⟨_, rfl⟩
    rw [eR] at HR ⊢
    have HUL := Lib.hid (toldU_len (phiA ts) N)
    obtain ⟨us, eus⟩ : ∃ us, toldU (phiA ts) N = us := ⟨_, rfl⟩
    rw [eus] at HR HIN HUL
    clear hv HK hg G ha HCR hu0 en em eN ets hTl eR hRun eus hm5 hn5
    go_enter Tryd.func17, Tryd.ntmps17
    go_wp2_with (fail)
    refine HK2.out.mono ?_
    rintro e w1 ⟨rfl, hG1⟩
    have HG1 := Lib.hid hG1
    have H0 := Lib.hid (hG1.cell hcu0)
    have hcu1 := H0.out
    clear hG1 hcu0
    go_wp2
    go_region_with (first
      | (go_at_call 48; refine (HF.out _ (HG1.out.drew)).mono ?_; rintro e w2 ⟨a2, c2, rfl, hO2, hg2⟩; rw [HNM.out.2.2.2.2] at hO2 ⊢; obtain ⟨g2, rfl⟩ := HSL.out _ _ _ a2 c2 w2 HNM.out.2.2.2.2 hO2; have H2 := Lib.hid (And.intro hO2 hg2); have hcu2 := hg2.cell H0.out; clear hO2 hg2)
      | (go_at_call 47; refine (HIN.out _ _ (by first | exact H2.out.1.toV | exact H2.out.1.toV.grew (Grew.refl _).drew)).mono ?_; rintro e w3 ⟨a3, c3, rfl, hO3, hg3⟩; rw [HUL.out] at hO3 ⊢; obtain ⟨g3, rfl⟩ := HSL.out _ _ _ a3 c3 w3 HUL.out hO3; have H3 := Lib.hid (And.intro hO3 hg3); have hcu3 := hg3.cell hcu2; clear hO3 hg3)
      | (go_at_call 46; refine (shaped_own H3.out.1 (by rw [HUL.out, HNM.out.2.2.2.1]) HNM.out.1 HNM.out.2.1 HNM.out.2.2.1).mono ?_; rintro e w4 ⟨v4, rfl, hO4, hg4⟩; obtain ⟨a4, c4, rfl⟩ := hO4.sh; have H4 := Lib.hid (And.intro hO4 hg4); clear hO4 hg4))
    all_goals
      go_wp2
      go_ret
      rw [HR.out]
      exact ⟨_, rfl, H4.out.1.wide (Nat.le_trans HG1.out.size (Nat.le_trans H2.out.2.size H3.out.2.size)) (Nat.le_refl _), HG1.out.drew.trans (H2.out.2.trans (H3.out.2.trans H4.out.2))⟩

set_option maxRecDepth 100000 in
set_option maxHeartbeats 4000000 in
theorem SBasinsOf_any (v : Value) (h : List (List Int)) (w : World) (hv : RowsV w v h) :
    Calls Tryd.prog 22 #[v] w (NewRows w (toldX phiB h)) := by
  have HK := sValidGrid_any v h w hv
  cases hg : vGrid h with
  | false =>
    rw [hg] at HK
    have HK2 := Lib.hid HK
    rw [toldX_no hg]
    obtain ⟨a, b, o, c, rfl, _, _, _⟩ := hv.shape
    clear hv HK hg
    go_enter Tryd.func22, Tryd.ntmps22
    go_wp2_with (fail)
    refine HK2.out.mono ?_
    rintro e w1 ⟨rfl, hG⟩
    have HG := Lib.hid hG
    clear hG
    go_wp2
    go_ret
    exact ⟨_, rfl, RowsO.nil _ _ _ _ _, HG.out⟩
  | true =>
    rw [hg] at HK
    have HK2 := Lib.hid HK
    have G := Grid.of hg
    have hRun := tgts_run hg
    obtain ⟨n, en⟩ : ∃ n, h.length = n := ⟨_, rfl⟩
    obtain ⟨m, em⟩ : ∃ m, (h.getD 0 []).length = m := ⟨_, rfl⟩
    obtain ⟨N, eN⟩ : ∃ N, n * m = N := ⟨_, rfl⟩
    have HF := Lib.hid fun W (hW : Grew w W) => sflow_any v h n m N W (hv.grew hW) hg en em eN
    have hTl : (tgtsL h).length = N := by rw [tgtsL, tgtsU_len, en, em, eN]
    rw [en, em, eN] at hRun
    obtain ⟨ts, ets⟩ : ∃ ts, tgtsL h = ts := ⟨_, rfl⟩
    have HR : Hid (toldX phiB h = shapeL (toldU (phiB ts) N) m n) := Lib.hid (by unfold toldX; rw [if_pos hg, ets, en, em, eN])
    rw [ets] at HF hTl hRun
    have HRUN := Lib.hid hRun
    have hn5 := G.n5
    have hn1 := G.n1
    have hm5 := G.m5
    have hm1 := G.m1
    rw [en] at hn5 hn1
    rw [em] at hm5 hm1
    have hN1 : 1 ≤ N := by rw [← eN]; exact Nat.mul_pos hn1 hm1
    have hN25 : N ≤ 25 := by rw [← eN]; exact Nat.mul_le_mul hn5 hm5
    obtain ⟨a, b, o, c, rfl, ⟨hlc, hcb⟩, ha, HCR⟩ := hv.shape
    obtain rfl := ha (by omega)
    obtain ⟨u0, hcu0, hu0⟩ := HCR.out 0 (by omega)
    rw [Nat.add_zero] at hcu0
    obtain ⟨a0, b0, o0, c0, rfl, _, _, _⟩ := hu0.shape
    rw [em] at hcu0
    rw [en] at HK2 HF hlc ⊢
    have hn0 : (0 : Int) < (n : Int) := by omega
    have HNM : Hid (n ≤ 5 ∧ 1 ≤ m ∧ m ≤ 5 ∧ n * m = N ∧ ts.length = N) := Lib.hid ⟨hn5, hm1, hm5, eN, hTl⟩
    have HIN := Lib.hid fun v W (hi : IntsV W v ts) i (hi2 : i < N) => outlet_any v ts N i W hi hRun hi2
    obtain ⟨R, eR⟩ : ∃ R, toldX phiB h = R := ⟨_, rfl⟩
    rw [eR] at HR ⊢
    clear hv HK hg G ha HCR hu0 en em eN ets hTl eR hRun hm5 hn5
    go_enter Tryd.func22, Tryd.ntmps22
    go_wp2_with (fail)
    refine HK2.out.mono ?_
    rintro e w1 ⟨rfl, hG1⟩
    have HG1 := Lib.hid hG1
    have H0 := Lib.hid (hG1.cell hcu0)
    clear hG1 hcu0
    go_wp2_with (fail)
    refine (HF.out _ HG1.out).mono ?_
    rintro e w2 ⟨a2, c2, rfl, hO2, hg2⟩
    rw [HNM.out.2.2.2.2] at hO2 ⊢
    have H2 := Lib.hid (And.intro hO2.toV (HG1.out.trans hg2))
    have H0b := Lib.hid (hg2.cell H0.out)
    clear hO2 hg2 H0
    have H3 : Hid (IntsO 3 w2.heap.size (w2.alloc (.cells #[] 3)).heap.size (w2.alloc (.cells #[] 3)) (.slice (some ⟨w2.heap.size, 0, none⟩) 0 0) [] ∧ Grew w2 (w2.alloc (.cells #[] 3))) :=
      Lib.hid ⟨by simpa using IntsO.lit 3 w2.heap.size w2 [] #[] rfl (Nat.le_refl _) (by decide), (Grew.refl w2).alloc _⟩
    go_wp2
    go_loopw [4, 5] (fun sv iv wr => ∃ (k : Nat) (sa : Option Addr) (sc : Nat), iv = .int .i64 k ∧ k ≤ N ∧ sv = .slice sa k sc ∧ Hid (IntsO 3 w2.heap.size wr.heap.size wr (.slice sa k sc) (toldU (phiB ts) k) ∧ Grew w2 wr)) (fun _ iv _ => N - (intOf iv).toNat)
    case atStart => exact ⟨0, some ⟨w2.heap.size, 0, none⟩, 0, rfl, Nat.zero_le _, rfl, H3.out⟩
    case round =>
      obtain ⟨k, sa, sc, rfl, hk, rfl, HI⟩ := hrel
      by_cases hlt : k < N
      · have hki : (k : Int) < (N : Int) := by omega
        have HC := Lib.hid (HIN.out _ wr (H2.out.1.grew HI.out.2) k hlt)
        go_wp2_with (fail)
        refine HC.out.mono ?_
        rintro e w5 ⟨rfl, rfl⟩
        go_wp2_with (at_builtin; refine wpList_append_int rfl (.tmp 18) (.tmp 22) 27 rfl Tryd.underlying27 Tryd.infoI rfl rfl rfl HI.out.1 (by rw [toldU_len]; omega) HI.out.2.size ?_; intro g7 c7 w7 hO7 hW7 hS7; rw [toldU_len] at hO7 ⊢)
        have HN2 : Hid (IntsO 3 w2.heap.size w7.heap.size w7 (.slice (some ⟨g7, 0, none⟩) (k + 1) c7) (toldU (phiB ts) (k + 1)) ∧ Grew w2 w7) := Lib.hid ⟨by rw [toldU_succ]; exact hO7, Within.grew HI.out.2 hW7 (Nat.le_refl _)⟩
        clear hO7 hW7 hS7
        go_wp2
        go_roundw
        case rel => exact ⟨k + 1, some ⟨g7, 0, none⟩, c7, by go_num, by omega, rfl, HN2.out⟩
        case measure => simp [intOf]; omega
      · obtain rfl : k = N := by omega
        obtain ⟨g7, c7', e7, _⟩ := HI.out.1.pos (by rw [toldU_len]; omega)
        simp only [Value.slice.injEq] at e7
        obtain ⟨rfl, -, rfl⟩ := e7
        have hcu := HI.out.2.cell H0b.out
        have HSH := Lib.hid (shaped_own HI.out.1 (by rw [toldU_len, HNM.out.2.2.2.1]) HNM.out.1 HNM.out.2.1 HNM.out.2.2.1)
        go_wp2_with (fail)
        refine HSH.out.mono ?_
        rintro e w6 ⟨v6, rfl, hO6, hg6⟩
        obtain ⟨a6, c6, rfl⟩ := hO6.sh
        have H6 := Lib.hid (And.intro hO6 hg6)
        clear hO6 hg6
        go_wp2
        go_ret
        rw [HR.out]
        exact ⟨_, rfl, H6.out.1.wide (Nat.le_trans H2.out.2.size HI.out.2.size) (Nat.le_refl _), H2.out.2.trans (HI.out.2.trans H6.out.2)⟩

set_option maxRecDepth 100000 in
set_option maxHeartbeats 4000000 in
theorem SLongestOf_any (v : Value) (h : List (List Int)) (w : World) (hv : RowsV w v h) :
    Calls Tryd.prog 25 #[v] w fun e w' => e = .returned (.int .i64 (longX h)) ∧ Grew w w' := by
  have HK := sValidGrid_any v h w hv
  cases hg : vGrid h with
  | false =>
    rw [hg] at HK
    have HK2 := Lib.hid HK
    rw [longX_no hg]
    obtain ⟨a, b, o, c, rfl, _, _, _⟩ := hv.shape
    clear hv HK hg
    go_enter Tryd.func25, Tryd.ntmps25
    go_wp2_with (fail)
    refine HK2.out.mono ?_
    rintro e w1 ⟨rfl, hG⟩
    have HG := Lib.hid hG
    clear hG
    go_wp2
    go_ret
    exact ⟨rfl, HG.out⟩
  | true =>
    rw [hg] at HK
    have HK2 := Lib.hid HK
    have G := Grid.of hg
    have hRun := tgts_run hg
    obtain ⟨n, en⟩ : ∃ n, h.length = n := ⟨_, rfl⟩
    obtain ⟨m, em⟩ : ∃ m, (h.getD 0 []).length = m := ⟨_, rfl⟩
    obtain ⟨N, eN⟩ : ∃ N, n * m = N := ⟨_, rfl⟩
    have HF := Lib.hid fun W (hW : Grew w W) => sflow_any v h n m N W (hv.grew hW) hg en em eN
    have hTl : (tgtsL h).length = N := by rw [tgtsL, tgtsU_len, en, em, eN]
    rw [en, em, eN] at hRun
    obtain ⟨ts, ets⟩ : ∃ ts, tgtsL h = ts := ⟨_, rfl⟩
    have HR : Hid (longX h = mostL (phiL ts) N) := Lib.hid (by unfold longX; rw [if_pos hg, ets, en, em, eN])
    rw [ets] at HF hTl hRun
    have HRUN := Lib.hid hRun
    have hn5 := G.n5
    have hn1 := G.n1
    have hm5 := G.m5
    have hm1 := G.m1
    rw [en] at hn5 hn1
    rw [em] at hm5 hm1
    have hN1 : 1 ≤ N := by rw [← eN]; exact Nat.mul_pos hn1 hm1
    have hN25 : N ≤ 25 := by rw [← eN]; exact Nat.mul_le_mul hn5 hm5
    obtain ⟨a, b, o, c, rfl, ⟨hlc, hcb⟩, ha, HCR⟩ := hv.shape
    obtain rfl := ha (by omega)
    obtain ⟨u0, hcu0, hu0⟩ := HCR.out 0 (by omega)
    rw [Nat.add_zero] at hcu0
    obtain ⟨a0, b0, o0, c0, rfl, _, _, _⟩ := hu0.shape
    rw [em] at hcu0
    rw [en] at HK2 HF hlc ⊢
    have hn0 : (0 : Int) < (n : Int) := by omega
    have HNM : Hid (n ≤ 5 ∧ 1 ≤ m ∧ m ≤ 5 ∧ n * m = N ∧ ts.length = N) := Lib.hid ⟨hn5, hm1, hm5, eN, hTl⟩
    have HIN := Lib.hid fun v W (hi : IntsV W v ts) i (hi2 : i < N) => steps_any v ts N i W hi hRun hi2 hN25
    have HB := Lib.hid fun i (hi : i < N) => And.intro (len_nn ts i) (len_le hRun hi)
    obtain ⟨R, eR⟩ : ∃ R, longX h = R := ⟨_, rfl⟩
    rw [eR] at HR ⊢
    clear hv HK hg G ha HCR hu0 en em eN ets hTl eR hRun hm5 hn5
    go_enter Tryd.func25, Tryd.ntmps25
    go_wp2_with (fail)
    refine HK2.out.mono ?_
    rintro e w1 ⟨rfl, hG1⟩
    have HG1 := Lib.hid hG1
    clear hG1 hcu0
    go_wp2_with (fail)
    refine (HF.out _ HG1.out).mono ?_
    rintro e w2 ⟨a2, c2, rfl, hO2, hg2⟩
    rw [HNM.out.2.2.2.2] at hO2 ⊢
    have H2 := Lib.hid (And.intro hO2.toV (HG1.out.trans hg2))
    clear hO2 hg2
    go_wp2
    go_loopw [4, 5] (fun sv iv wr => ∃ (k : Nat) (S : Int), iv = .int .i64 k ∧ k ≤ N ∧ sv = .int .i64 S ∧ 0 ≤ S ∧ S ≤ 25 ∧ Hid (S = mostL (phiL ts) k ∧ wr = w2)) (fun _ iv _ => N - (intOf iv).toNat)
    case atStart => exact ⟨0, 0, rfl, Nat.zero_le _, rfl, by decide, by decide, rfl, rfl⟩
    case round =>
      obtain ⟨k, S, rfl, hk, rfl, hS0, hS1, HI⟩ := hrel
      obtain ⟨hS, rfl⟩ := HI.out
      have HSS := Lib.hid hS
      clear hS HI
      by_cases hlt : k < N
      · have hki : (k : Int) < (N : Int) := by omega
        have hc := HIN.out _ wr H2.out.1 k hlt
        have hb := HB.out k hlt
        obtain ⟨y, ey⟩ : ∃ y, lenL ts k = y := ⟨_, rfl⟩
        rw [ey] at hc hb
        have HC := Lib.hid hc
        have HN2 : Hid (max S y = mostL (phiL ts) (k + 1)) := Lib.hid (by rw [mostL, ← HSS.out]; unfold phiL; rw [ey])
        clear hc ey
        go_wp2_with (fail)
        refine HC.out.mono ?_
        rintro e w5 ⟨rfl, rfl⟩
        go_wp2
        go_roundw
        case rel => exact ⟨k + 1, max S y, by go_num, by omega, rfl, by omega, by omega, HN2.out, trivial⟩
        case measure => simp [intOf]; omega
      · obtain rfl : k = N := by omega
        go_wp2
        go_ret
        exact ⟨ret_int (by rw [HR.out, HSS.out]), H2.out.2⟩
end Go.Proofs.YtekhjjcgkmnmlaaDoor
