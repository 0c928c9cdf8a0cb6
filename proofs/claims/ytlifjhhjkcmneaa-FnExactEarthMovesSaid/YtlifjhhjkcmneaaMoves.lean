/- The contracts of slices.IndexFunc, impl.EarthMoves. -/
import Derived.Test.YtlifjhhjkcmneaaEarthC
import Derived.Shelf.Abstract
import Derived.Says
namespace Go.Proofs.Ytlifjhhjkcmneaa
open Go.RowKit

/-- The place of the first number of which B holds, -1 if there is none. -/
def idxX (B : Int → Bool) (xs : List Int) : Int := if xs.findIdx B < xs.length then (xs.findIdx B : Int) else -1
set_option maxRecDepth 100000 in
set_option maxHeartbeats 1000000 in
theorem indexFunc_any (v : Value) (xs : List Int) (B : Int → Bool) (fk : Nat) (lb : Array Value) (eg : ∀ (args : Array Value) (w : World), (callFunc fk args).run Try.prog w = .ok (.enter fk args) w) (w : World) (hv : IntsV w v xs)
    (hF : ∀ (x : Int) (W : World), Calls Try.prog fk (#[.int .i64 x] ++ lb) W fun e w' => e = .returned (.bool (B x)) ∧ w' = W) :
    Calls Try.prog 80 #[v, .func (.func fk) #[] lb] w fun e w' => e = .returned (.int .i64 (idxX B xs)) ∧ w' = w := by
  have HF := Lib.hid hF
  obtain ⟨a, b, o, c, rfl, ⟨hlc, hcb⟩, ha, HC⟩ := hv.shape
  have HA := Lib.hid ha
  clear hv hF ha
  go_enter Try.func80, Try.ntmps80
  go_wp2
  go_loopw [8] (fun i wr => ∃ s : Nat, s ≤ xs.length ∧ i = .int .i64 (s : Int) ∧ Hid (s ≤ xs.findIdx B ∧ wr = w)) (fun i _ => xs.length - (intOf i).toNat)
  case atStart => exact ⟨0, Nat.zero_le _, rfl, Nat.zero_le _, rfl⟩
  case round =>
    obtain ⟨s, hs, rfl, HX⟩ := hrel
    by_cases hsl : s < xs.length
    · obtain rfl := HA.out (by omega)
      have hsi : (s : Int) < (xs.length : Int) := by omega
      have hc := HC.out s hsl
      rw [← HX.out.2] at hc
      obtain ⟨x, ex⟩ : ∃ x, xs.getD s 0 = x := ⟨_, rfl⟩
      rw [ex] at hc
      have HS := Lib.hid (HF.out x wr)
      have hx : xs[s] = x := by simpa [hsl] using ex
      cases hb : B x with
      | true =>
        have HE : Hid ((s : Int) = idxX B xs) := by
          have h1 : xs.findIdx B = s := by
            have h2 := HX.out.1
            by_cases h3 : s < xs.findIdx B
            · have := List.not_of_lt_findIdx h3
              rw [hx, hb] at this
              exact absurd this (by simp)
            · omega
          show (s : Int) = idxX B xs
          unfold idxX
          rw [h1, if_pos hsl]
        have HB := Lib.hid hb
        clear ex hx hb
        go_wp2_with (fail)
        refine HS.out.mono ?_
        rw [HB.out]
        rintro e w1 ⟨rfl, rfl⟩
        go_wp2
        go_ret
        exact ⟨ret_int HE.out, HX.out.2⟩
      | false =>
        have HE : Hid (s + 1 ≤ xs.findIdx B) := by
          show s + 1 ≤ xs.findIdx B
          have h2 := HX.out.1
          by_cases h3 : xs.findIdx B = s
          · have := List.findIdx_getElem (w := by rw [h3]; exact hsl) (p := B)
            simp only [h3, hx, hb] at this
            exact absurd this (by simp)
          · omega
        have HB := Lib.hid hb
        clear ex hx hb
        go_wp2_with (fail)
        refine HS.out.mono ?_
        rw [HB.out]
        rintro e w1 ⟨rfl, rfl⟩
        go_wp2
        go_roundw
        case rel => exact ⟨s + 1, by omega, by go_num, HE.out, HX.out.2⟩
        case measure => simp [intOf]; omega
    · have HE : Hid (-1 = idxX B xs) := by
        show -1 = idxX B xs
        unfold idxX
        rw [if_neg (by have := HX.out.1; omega)]
      go_wp2
      go_ret
      exact ⟨ret_int HE.out, HX.out.2⟩
def movesX (p q : List Int) : List (List Int) := if mvOk p q = true then movesL 9 (surL p q) else []

set_option maxRecDepth 100000 in
theorem posClo_any (x : Int) (W : World) : Calls Try.prog 81 (#[.int .i64 x] ++ #[]) W fun e w' => e = .returned (.bool (decide (0 < x))) ∧ w' = W := by
  show Calls Try.prog 81 #[.int .i64 x] W _
  go_enter Try.func81, Try.ntmps81
  go_wp2
  go_ret
  exact ⟨rfl, rfl⟩
set_option maxRecDepth 100000 in
theorem negClo_any (x : Int) (W : World) : Calls Try.prog 82 (#[.int .i64 x] ++ #[]) W fun e w' => e = .returned (.bool (decide (x < 0))) ∧ w' = W := by
  show Calls Try.prog 82 #[.int .i64 x] W _
  go_enter Try.func82, Try.ntmps82
  go_wp2
  go_ret
  exact ⟨rfl, rfl⟩

theorem MovesTo.len9 {s0 s : List Int} {ms : List (List Int)} (h : MovesTo s0 s ms) : ms.length ≤ 9 := by have := h.nz; have := h.n9; omega

set_option maxRecDepth 100000 in
set_option maxHeartbeats 4000000 in
theorem EarthMoves_any (v u : Value) (p q : List Int) (w : World) (hv : IntsV w v p) (hu : IntsV w u q) :
    Calls Try.prog 38 #[v, u] w (NewRows w (movesX p q)) := by
  have HV := Lib.hid (canMove_any v u p q w hv hu)
  have HVU := Lib.hid (And.intro hv hu)
  obtain ⟨a, b, o, c, rfl, _, _, _⟩ := hv.shape
  obtain ⟨a2, b2, o2, c2, rfl, _, _, _⟩ := hu.shape
  clear hv hu
  unfold movesX
  cases hp : mvOk p q with
  | false =>
    have HP := Lib.hid hp
    clear hp
    go_enter Try.func38, Try.ntmps38
    go_wp2_with (fail)
    refine HV.out.mono ?_
    rw [HP.out]
    rintro e w1 ⟨rfl, hq⟩
    have HQ := Lib.hid (quiet_grew hq)
    clear hq
    go_wp2
    go_ret
    exact ⟨_, rfl, RowsO.nil _ _ _ _ _, HQ.out⟩
  | true =>
    have HP := Lib.hid hp
    have HS := Lib.hid (sur_of hp)
    obtain ⟨hpp, hqq, hl, _⟩ := mvOk_iff.1 hp
    obtain ⟨h1, h9⟩ := prof_len hpp
    have HO := Lib.hid (fun W (hW : Grew w W) => surplusOf_any _ _ p q W (HVU.out.1.grew hW) (HVU.out.2.grew hW) hpp hqq hl)
    obtain ⟨s0, es⟩ : ∃ s, surL p q = s := ⟨_, rfl⟩
    have hsl : s0.length = p.length := by rw [← es]; exact surL_len p q
    rw [es] at HS HO ⊢
    rw [← hsl] at h1 h9 HV HO HVU ⊢
    obtain ⟨N, eN⟩ : ∃ N, s0.length = N := ⟨_, rfl⟩
    have HN := Lib.hid eN
    rw [eN] at h1 h9 HV HO HVU ⊢
    obtain ⟨M, eM⟩ : ∃ M, q.length = M := ⟨_, rfl⟩
    rw [eM] at HV HO HVU ⊢
    clear hp hpp hqq hl hsl es eN eM
    go_enter Try.func38, Try.ntmps38
    go_wp2_with (fail)
    refine HV.out.mono ?_
    rw [HP.out]
    rintro e w1 ⟨rfl, hq⟩
    have HQ := Lib.hid (quiet_grew hq)
    clear hq
    go_wp2_with (fail)
    refine (HO.out w1 HQ.out).mono ?_
    rintro e w2 ⟨g, c3, rfl, hO, hg⟩
    rw [HN.out] at hO ⊢
    have hgb := hO.blk
    have hsz1 := HQ.out.size
    have H0 : Hid (MovesTo s0 s0 [] ∧ IntsO 3 w.heap.size w2.heap.size w2 (.slice (some ⟨g, 0, none⟩) N c3) s0 ∧ RowsO 23 3 w2.heap.size w2.heap.size w2 (.slice none 0 0) [] ∧ Grew w w2 ∧ w2.heap.size ≤ w2.heap.size) :=
      ⟨.start HS.out (by have := HN.out; omega), hO.wide hsz1 (Nat.le_refl _), RowsO.nil _ _ _ _ _, HQ.out.trans hg, Nat.le_refl _⟩
    have hwg : w.heap.size ≤ g := by omega
    have hg2 : g < w2.heap.size := hgb.2
    clear hO hg HO HV hgb
    go_wp2
    go_loopg [6] (nz s0) (fun gk v wr => ∃ (s : List Int) (ms : List (List Int)) (a : Option Addr) (c : Nat), v = .slice a (List.length ms) c ∧ List.length ms ≤ 9 ∧ Hid (nz s ≤ gk ∧ MovesTo s0 s ms ∧ IntsO 3 w.heap.size w2.heap.size wr (.slice (some ⟨g, 0, none⟩) N c3) s ∧ RowsO 23 3 w2.heap.size wr.heap.size wr v ms ∧ Grew w wr ∧ w2.heap.size ≤ wr.heap.size))
    case atStart => exact ⟨s0, [], none, 0, rfl, by simp, Nat.le_refl _, H0.out⟩
    case round =>
      obtain ⟨s, ms, ma, mc, rfl, hm9, HI⟩ := hrel
      clear H0
      have hNs : s.length = N := by rw [HI.out.2.1.len]; exact HN.out
      have HIP := Lib.hid (indexFunc_any _ s (fun x => decide (0 < x)) 81 #[] (fun _ _ => rfl) wr HI.out.2.2.1.toV posClo_any)
      have HIN := Lib.hid (indexFunc_any _ s (fun x => decide (x < 0)) 82 #[] (fun _ _ => rfl) wr HI.out.2.2.1.toV negClo_any)
      by_cases hpos : posAt s < s.length
      · have hneg := HI.out.2.1.sur.neg hpos
        have hP0 := (posAt_is hpos).1
        have hN0 := (negAt_is hneg).1
        have hne : posAt s ≠ negAt s := fun e => by rw [e] at hP0; omega
        obtain ⟨b1, b2, b3, b4⟩ := moveN_bd HI.out.2.1.sur hpos
        have hbp := HI.out.2.1.sur.bd _ hpos
        have hbn := HI.out.2.1.sur.bd _ hneg
        have hstep := HI.out.2.1.step hpos
        have hnz := nz_moved HI.out.2.1.sur hpos
        obtain ⟨hcp, hfp⟩ := HI.out.2.2.1.at rfl hpos
        obtain ⟨hcn, hfn⟩ := HI.out.2.2.1.at rfl hneg
        have eip : idxX (fun x => decide (0 < x)) s = (posAt s : Int) := by unfold idxX; exact if_pos hpos
        have ein : idxX (fun x => decide (x < 0)) s = (negAt s : Int) := by unfold idxX; exact if_pos hneg
        rw [eip] at HIP
        rw [ein] at HIN
        have HMD : Hid ((s.set (posAt s) (s.getD (posAt s) 0 - moveN s)).set (negAt s) (s.getD (negAt s) 0 + moveN s) = moved s) := rfl
        have emin : moveN s = min (s.getD (posAt s) 0) (- s.getD (negAt s) 0) := rfl
        simp only [at0] at b3 b4 hbp hbn
        obtain ⟨A, eA⟩ : ∃ A, posAt s = A := ⟨_, rfl⟩
        obtain ⟨B, eB⟩ : ∃ B, negAt s = B := ⟨_, rfl⟩
        rw [eA] at hP0 hne b3 hbp hstep hcp hfp HIP HMD emin hpos
        rw [eB] at hN0 hne b4 hbn hstep hcn hfn HIN HMD emin hneg
        obtain ⟨x, ex⟩ : ∃ x, s.getD A 0 = x := ⟨_, rfl⟩
        obtain ⟨y, ey⟩ : ∃ y, s.getD B 0 = y := ⟨_, rfl⟩
        rw [ex] at hP0 b3 hbp hcp HMD emin
        rw [ey] at hN0 b4 hbn hcn HMD emin
        obtain ⟨E, eE⟩ : ∃ E, moveN s = E := ⟨_, rfl⟩
        rw [eE] at b1 b2 b3 b4 hstep HMD emin
        have HST := Lib.hid (And.intro hstep hnz)
        have hAN : A < N := by omega
        have hBN : B < N := by omega
        have w1 : IntKind.i64.wrap (-y) = -y := wrap_small' _ (by omega) (by omega)
        have w3 : IntKind.i64.wrap (x - E) = x - E := wrap_small' _ (by omega) (by omega)
        have w4 : IntKind.i64.wrap (y + E) = y + E := wrap_small' _ (by omega) (by omega)
        have r1 : (A : Int) < N := by omega
        have r2 : (0 : Int) ≤ A := by omega
        have r3 : (B : Int) < N := by omega
        have r4 : (0 : Int) ≤ B := by omega
        have HMN := Lib.hid emin
        have HNS := Lib.hid hNs
        have hsz2 := HI.out.2.2.2.2.2
        clear eip ein eA eB ex ey eE hstep hnz emin hNs hpos hneg
        go_wp2_with (fail)
        refine HIP.out.mono ?_
        rintro e w4 ⟨rfl, rfl⟩
        go_wp2_with (fail)
        refine HIN.out.mono ?_
        rintro e w5 ⟨rfl, rfl⟩
        go_wp2
        go_quiet (fail)
        rw [← HMN.out]
        obtain ⟨W3, hW3⟩ : ∃ W3, w5.drewN nq = W3 := ⟨_, rfl⟩
        have hg3 : Grew w5 W3 := by rw [← hW3]; exact (Grew.refl _).drewN _
        have hcp3 := hg3.cell hcp
        have hcn3 := hg3.cell hcn
        have hfp3 : W3.frozen? ⟨g, A, none⟩ = false := by rw [← hW3]; exact hfp
        have hfn3 : W3.frozen? ⟨g, B, none⟩ = false := by rw [← hW3]; exact hfn
        rw [hW3]
        have hsz3 := hg3.size
        have hwi : Within g (g + 1) W3 ((W3.setCell ⟨g, A, none⟩ (.int .i64 (x - E))).setCell ⟨g, B, none⟩ (.int .i64 (y + E))) :=
          ((Within.refl _ _ _).setCell (p := ⟨g, A, none⟩) (Nat.le_refl _) (Nat.lt_succ_self _) _).setCell (p := ⟨g, B, none⟩) (Nat.le_refl _) (Nat.lt_succ_self _) _
        have hszs : ((W3.setCell ⟨g, A, none⟩ (.int .i64 (x - E))).setCell ⟨g, B, none⟩ (.int .i64 (y + E))).heap.size = W3.heap.size := by simp [World.setCell]
        have H5 : Hid (IntsO 3 w.heap.size w2.heap.size ((W3.setCell ⟨g, A, none⟩ (.int .i64 (x - E))).setCell ⟨g, B, none⟩ (.int .i64 (y + E))) (.slice (some ⟨g, 0, none⟩) N c3) (moved s) ∧
            RowsO 23 3 w2.heap.size ((W3.setCell ⟨g, A, none⟩ (.int .i64 (x - E))).setCell ⟨g, B, none⟩ (.int .i64 (y + E))).heap.size ((W3.setCell ⟨g, A, none⟩ (.int .i64 (x - E))).setCell ⟨g, B, none⟩ (.int .i64 (y + E))) (.slice ma ms.length mc) ms ∧
            Grew w ((W3.setCell ⟨g, A, none⟩ (.int .i64 (x - E))).setCell ⟨g, B, none⟩ (.int .i64 (y + E)))) :=
          ⟨by rw [← HMD.out]; exact ((HI.out.2.2.1.grew hg3).set rfl A (x - E)).set rfl B (y + E), by rw [hszs]; exact ((HI.out.2.2.2.1.grew hg3).within hwi (.inr (by omega))).wide (Nat.le_refl _) hsz3, Within.grew (HI.out.2.2.2.2.1.trans hg3) hwi hwg⟩
        have H6 : Hid (IntsO 3 ((W3.setCell ⟨g, A, none⟩ (.int .i64 (x - E))).setCell ⟨g, B, none⟩ (.int .i64 (y + E))).heap.size (((W3.setCell ⟨g, A, none⟩ (.int .i64 (x - E))).setCell ⟨g, B, none⟩ (.int .i64 (y + E))).heap.size + 1)
            (((W3.setCell ⟨g, A, none⟩ (.int .i64 (x - E))).setCell ⟨g, B, none⟩ (.int .i64 (y + E))).alloc (.cells #[.int .i64 A, .int .i64 B, .int .i64 E] 3)) (.slice (some ⟨W3.heap.size, 0, none⟩) 3 3) [(A : Int), (B : Int), E]) :=
          by
          have := IntsO.lit 3 ((W3.setCell ⟨g, A, none⟩ (.int .i64 (x - E))).setCell ⟨g, B, none⟩ (.int .i64 (y + E))).heap.size ((W3.setCell ⟨g, A, none⟩ (.int .i64 (x - E))).setCell ⟨g, B, none⟩ (.int .i64 (y + E))) [(A : Int), (B : Int), E] #[.int .i64 A, .int .i64 B, .int .i64 E] rfl (Nat.le_refl _) (by simp [maxLen])
          rw [hszs] at this ⊢
          exact this
        have HSZ : Hid (((W3.setCell ⟨g, A, none⟩ (.int .i64 (x - E))).setCell ⟨g, B, none⟩ (.int .i64 (y + E))).heap.size = W3.heap.size ∧ w2.heap.size ≤ W3.heap.size) := ⟨hszs, by omega⟩
        clear hW3 hg3 hcp hcn hfp hfn hwi hszs
        go_wp2_with (at_builtin; go_loud (refine wpList_append_row rfl (.tmp 48) (.tmp 53) 42 rfl (by decide) Try.underlying42 Try.infoIs rfl rfl (by simp [World.setCell]) (H5.out.2.1.grew ((Grew.refl _).alloc _)) H6.out (by omega) (by have := HSZ.out; simp; omega) (by have := HSZ.out; omega) ?_; intro g6 c6 w6 hO6 hW6 hS6))
        have HF : Hid (RowsO 23 3 w2.heap.size w6.heap.size w6 (.slice (some ⟨g6, 0, none⟩) (ms.length + 1) c6) (ms ++ [[(A : Int), (B : Int), E]]) ∧ IntsO 3 w.heap.size w2.heap.size w6 (.slice (some ⟨g, 0, none⟩) N c3) (moved s) ∧ Grew w w6 ∧ w2.heap.size ≤ w6.heap.size) :=
          ⟨hO6, (H5.out.1.grew ((Grew.refl _).alloc _)).within hW6 (.inl (Nat.le_refl _)), Within.grew (H5.out.2.2.trans ((Grew.refl _).alloc _)) hW6 (by omega), by have := HSZ.out; have := hS6; simp at this; omega⟩
        clear hO6 hW6 hS6
        go_wp2
        go_roundg (gk - 1)
        case measure => have := HST.out.2; have := HI.out.1; omega
        case rel => exact ⟨moved s, ms ++ [[(A : Int), (B : Int), E]], some ⟨g6, 0, none⟩, c6, by simp, by have := HST.out.1.len9; simpa using this, by have := HST.out.2; have := HI.out.1; omega, HST.out.1, HF.out.2.1, HF.out.1, HF.out.2.2⟩
      · have hmm := HI.out.2.1.ends hpos
        have eip : idxX (fun x => decide (0 < x)) s = -1 := by unfold idxX; exact if_neg hpos
        rw [eip] at HIP
        rw [← HN.out] at hNs
        have HMM := Lib.hid (And.intro hmm hNs)
        clear hmm hNs eip hpos
        go_wp2_with (fail)
        refine HIP.out.mono ?_
        rintro e w4 ⟨rfl, rfl⟩
        go_wp2_with (fail)
        refine HIN.out.mono ?_
        rintro e w5 ⟨rfl, rfl⟩
        go_wp2
        go_ret
        refine ⟨_, rfl, ?_, HI.out.2.2.2.2.1⟩
        have := HI.out.2.2.2.1
        rw [← HMM.out.1]
        exact this.wide (by omega) (Nat.le_refl _)
end Go.Proofs.Ytlifjhhjkcmneaa
