/- The contract of spec.EarthMoves. -/
import Derived.Test.YtlifjhhjkcmneaaMoves
import Derived.Test.YtlifjhhjkcmneaaStepAppend
namespace Go.Proofs.Ytlifjhhjkcmneaa
open Go.RowKit

/-- The first places with too much and too little among those behind j, -1 if there is none. -/
def lastly (B : Int → Bool) (s : List Int) : Nat → Int
  | 0 => -1
  | d + 1 => if B (s.getD (s.length - 1 - d) 0) = true then ((s.length - 1 - d : Nat) : Int) else lastly B s d
theorem lastly_first (B : Int → Bool) (s : List Int) : ∀ d, d ≤ s.length → (lastly B s d = -1 ∧ ∀ i, s.length - d ≤ i → i < s.length → B (s.getD i 0) = false) ∨ (∃ i, s.length - d ≤ i ∧ i < s.length ∧ lastly B s d = (i : Int) ∧ B (s.getD i 0) = true ∧ ∀ j, s.length - d ≤ j → j < i → B (s.getD j 0) = false)
  | 0, _ => .inl ⟨rfl, fun i h1 h2 => by omega⟩
  | d + 1, h => by
    rw [lastly]
    cases hb : B (s.getD (s.length - 1 - d) 0) with
    | true => exact .inr ⟨s.length - 1 - d, by omega, by omega, by simp, hb, fun j h1 h2 => by omega⟩
    | false =>
      rw [if_neg (by simp)]
      rcases lastly_first B s d (by omega) with ⟨e, hall⟩ | ⟨i, h1, h2, e, h3, h4⟩
      · refine .inl ⟨e, fun i h1 h2 => ?_⟩
        by_cases e2 : i = s.length - 1 - d
        · rw [e2]; exact hb
        · exact hall i (by omega) h2
      · refine .inr ⟨i, by omega, h2, e, h3, fun j h5 h6 => ?_⟩
        by_cases e2 : j = s.length - 1 - d
        · rw [e2]; exact hb
        · exact h4 j (by omega) h6
theorem lastly_all (B : Int → Bool) (s : List Int) : lastly B s s.length = idxX B s := by
  unfold idxX
  rcases lastly_first B s s.length (Nat.le_refl _) with ⟨e, hall⟩ | ⟨i, _, h2, e, h3, h4⟩
  · rw [e, if_neg]
    intro h
    have h1 := List.findIdx_getElem (w := h) (p := B)
    have h2 := hall (s.findIdx B) (by omega) h
    simp [h] at h2
    rw [h2] at h1
    exact absurd h1 (by simp)
  · have hf : s.findIdx B = i := by
      rcases Nat.lt_trichotomy (s.findIdx B) i with h | h | h
      · have h1 := List.findIdx_getElem (w := Nat.lt_trans h h2) (p := B)
        have h5 := h4 (s.findIdx B) (by omega) h
        have hl := Nat.lt_trans h h2
        simp [hl] at h5
        rw [h5] at h1
        exact absurd h1 (by simp)
      · exact h
      · have h1 := List.not_of_lt_findIdx h
        simp [h2] at h3
        rw [h3] at h1
        exact absurd h1 (by simp)
    rw [hf, if_pos h2, e]

theorem surL_take (p q : List Int) (k : Nat) (h : k < p.length) : (surL p q).take k ++ [p.getD k 0 - q.getD k 0] = (surL p q).take (k + 1) := by
  have hk : k < (surL p q).length := by rw [surL_len]; exact h
  rw [List.take_succ_eq_append_getElem hk]
  congr 2
  have := surL_at p q k h
  simp only [List.getD_eq_getElem?_getD, List.getElem?_eq_getElem hk, Option.getD_some] at this
  simp only [List.getD_eq_getElem?_getD]
  exact this.symm

set_option maxRecDepth 100000 in
set_option maxHeartbeats 4000000 in
theorem SEarthMoves_any (v u : Value) (p q : List Int) (w : World) (hv : IntsV w v p) (hu : IntsV w u q) :
    Calls Try.prog 42 #[v, u] w (NewRows w (movesX p q)) := by
  have HV := Lib.hid (validMove_any v u p q w hv hu)
  obtain ⟨a, b, o, c, rfl, ⟨hlc, hcb⟩, ha, HCC⟩ := hv.shape
  obtain ⟨a2, b2, o2, c2, rfl, ⟨hlc2, hcb2⟩, ha2, HCC2⟩ := hu.shape
  clear hv hu
  unfold movesX
  cases hp : mvOk p q with
  | false =>
    have HP := Lib.hid hp
    clear hp ha ha2
    go_enter Try.func42, Try.ntmps42
    go_wp2_with (fail)
    refine HV.out.mono ?_
    rw [HP.out]
    rintro e w1 ⟨rfl, rfl⟩
    go_wp2
    go_ret
    exact ⟨_, rfl, RowsO.nil _ _ _ _ _, Grew.refl _⟩
  | true =>
    have HP := Lib.hid hp
    have HS := Lib.hid (sur_of hp)
    obtain ⟨hpp, hqq, hl, _⟩ := mvOk_iff.1 hp
    obtain ⟨h1, h9⟩ := prof_len hpp
    obtain rfl := ha h1
    obtain rfl := ha2 (by omega)
    have HB := Lib.hid (And.intro hpp hqq)
    have HQL := Lib.hid hl
    rw [← hl] at HV HCC2 ⊢
    clear hp hpp hqq hl ha ha2
    go_enter Try.func42, Try.ntmps42
    go_wp2_with (fail)
    refine HV.out.mono ?_
    rw [HP.out]
    rintro e w1 ⟨rfl, rfl⟩
    go_wp2_with (fail)
    have H0 : Hid (IntsO 3 w.heap.size (w.heap.size + 1) (w.alloc (.cells #[] 3)) (.slice (some ⟨w.heap.size, 0, none⟩) 0 0) ((surL p q).take 0) ∧ Grew w (w.alloc (.cells #[] 3)) ∧ w.heap.size ≤ w.heap.size) :=
      ⟨by have := IntsO.lit 3 w.heap.size w [] #[] rfl (Nat.le_refl _) (by decide); simpa using this, (Grew.refl _).alloc _, Nat.le_refl _⟩
    go_loopw [5, 6] (fun v i wr => ∃ (k g c' : Nat), v = .slice (some ⟨g, 0, none⟩) k c' ∧ i = .int .i64 ((k : Nat) : Int) ∧ k ≤ p.length ∧ Hid (IntsO 3 g (g + 1) wr v ((surL p q).take k) ∧ Grew w wr ∧ w.heap.size ≤ g)) (fun _ i _ => p.length - (intOf i).toNat)
    case atStart => exact ⟨0, _, _, rfl, rfl, Nat.zero_le _, H0.out⟩
    case round =>
      obtain ⟨k, g, c', rfl, rfl, hk, HI⟩ := hrel
      clear H0
      by_cases hlt : k < p.length
      · have hc1 := HI.out.2.1.cell (HCC.out k hlt)
        have hc2 := HI.out.2.1.cell (HCC2.out k hlt)
        have hx := prof_bd HB.out.1 k hlt
        have hy := prof_bd HB.out.2 k (by rw [← HQL.out]; exact hlt)
        have hst := surL_take p q k hlt
        obtain ⟨x, ex⟩ : ∃ x, p.getD k 0 = x := ⟨_, rfl⟩
        obtain ⟨y, ey⟩ : ∃ y, q.getD k 0 = y := ⟨_, rfl⟩
        rw [ex] at hc1 hx hst
        rw [ey] at hc2 hy hst
        have HST := Lib.hid hst
        have HLN : Hid (((surL p q).take k).length = k) := by show _ = _; simp [surL_len]; omega
        have hb1 := World.block_lt_of_cell? _ _ (HCC.out k hlt)
        have hb2 := World.block_lt_of_cell? _ _ (HCC2.out k hlt)
        have hgw := HI.out.2.2
        have hS0 : wr.cell? ⟨b, o + k, none⟩ = some (.int .i64 x) ∧ wr.cell? ⟨b2, o2 + k, none⟩ = some (.int .i64 y) := ⟨hc1, hc2⟩
        have HSA : Hid (∀ O : Obj, (wr.drew.alloc O).cell? ⟨b, o + k, none⟩ = some (.int .i64 x) ∧ (wr.drew.alloc O).cell? ⟨b2, o2 + k, none⟩ = some (.int .i64 y)) := fun O => ⟨(((Grew.refl wr).drew).alloc O).cell hc1, (((Grew.refl wr).drew).alloc O).cell hc2⟩
        have HWX : Hid (IntKind.i64.wrap (x - y) = x - y) := Lib.hid (wrap_small' _ (by omega) (by omega))
        have r1 : (k : Int) < p.length := by omega
        clear ex ey hst
        simp only [] at hb1 hb2
        go_wp2_with (fail)
        go_region_held3 (fun W => W.cell? ⟨b, o + k, none⟩ = some (.int .i64 x) ∧ W.cell? ⟨b2, o2 + k, none⟩ = some (.int .i64 y))
          (first
            | exact hS0
            | assumption
            | exact HSA.out _
            | exact h5c)
          (first
            | (refine step_append_int (w := wr.drew) rfl (.tmp 23) (.tmp 33) 23 rfl Try.underlying23 Try.infoI (by simp [Act.eval]) (by simp [Act.eval]) rfl (HI.out.1.grew ((Grew.refl wr).drew)) (by rw [HLN.out]; omega) HLN.out.symm ?_; rw [HLN.out]; intro g5 c5 w5 hO5 hW5 hat5 hlt5; have h5c := And.intro (hW5.cell (((Grew.refl wr).drew).cell hc1) (.inl (by show b < g; omega))) (hW5.cell (((Grew.refl wr).drew).cell hc2) (.inl (by show b2 < g; omega)))))
        rw [HWX.out, HST.out] at hO5
        have HN : Hid (IntsO 3 g5 (g5 + 1) w5 (.slice (some ⟨g5, 0, none⟩) (k + 1) c5) ((surL p q).take (k + 1)) ∧ Grew w w5 ∧ w.heap.size ≤ g5) :=
          ⟨hO5, Within.grew (HI.out.2.1.drew) hW5 hgw, by
            have h := HI.out.2.1.size
            have e : wr.drew.heap.size = wr.heap.size := rfl
            rcases hat5 with h5 | h5
            · omega
            · omega⟩
        clear hO5 hW5 hat5 hlt5 h5c hS0 HI
        go_wp2
        go_roundw
        case rel => exact ⟨k + 1, g5, c5, rfl, by go_num, by omega, HN.out⟩
        case measure => simp [intOf]; omega
      · obtain rfl : k = p.length := by omega
        have hsl := surL_len p q
        have hO := HI.out.1
        have hS := HS.out
        rw [List.take_of_length_le (by rw [hsl]; exact Nat.le_refl _)] at hO
        obtain ⟨s0, es⟩ : ∃ s0, surL p q = s0 := ⟨_, rfl⟩
        have HES := Lib.hid es
        rw [es] at hO hS hsl ⊢
        obtain ⟨N, eN⟩ : ∃ N, p.length = N := ⟨_, rfl⟩
        rw [eN] at hO hsl h1 h9 hlc ⊢
        have HN : Hid (s0.length = N) := hsl
        have hgb := hO.blkLt
        obtain ⟨w2, hw2⟩ : ∃ w2 : World, w2 = wr.alloc (.cells #[] 23) := ⟨_, rfl⟩
        have hs2 : w2.heap.size = wr.heap.size + 1 := by rw [hw2]; simp
        obtain ⟨c3, ec3⟩ : ∃ c3, c' = c3 := ⟨_, rfl⟩
        subst ec3
        have hwg := HI.out.2.2
        have H0 : Hid (MovesTo s0 s0 [] ∧ IntsO 3 w.heap.size wr.heap.size (wr.alloc (.cells #[] 23)) (.slice (some ⟨g, 0, none⟩) N c') s0 ∧ RowsO 23 3 wr.heap.size (wr.alloc (.cells #[] 23)).heap.size (wr.alloc (.cells #[] 23)) (.slice (some ⟨wr.heap.size, 0, none⟩) 0 0) [] ∧ Grew w (wr.alloc (.cells #[] 23)) ∧ wr.heap.size ≤ (wr.alloc (.cells #[] 23)).heap.size) :=
          ⟨.start hS (by omega), (hO.grew ((Grew.refl _).alloc _)).wide hwg (by omega), (RowsO.lit0 23 3 wr.heap.size wr (Nat.le_refl _)).wide (Nat.le_refl _) (by simp), HI.out.2.1.alloc _, by simp⟩
        have HWZ : Hid (w.heap.size ≤ wr.heap.size) := HI.out.2.1.size
        obtain ⟨wz, hwz⟩ : ∃ wz : World, wr = wz := ⟨_, rfl⟩
        rw [hwz] at H0 HWZ hgb ⊢
        clear hO hS hsl es eN hlt hw2 hs2 HV
        go_wp2_with (fail)
        go_loopg [7] (nz s0) (fun gk v wr => ∃ (s : List Int) (ms : List (List Int)) (a : Option Addr) (c : Nat), v = .slice a (List.length ms) c ∧ List.length ms ≤ 9 ∧ Hid (nz s ≤ gk ∧ MovesTo s0 s ms ∧ IntsO 3 w.heap.size wz.heap.size wr (.slice (some ⟨g, 0, none⟩) N c') s ∧ RowsO 23 3 wz.heap.size wr.heap.size wr v ms ∧ Grew w wr ∧ wz.heap.size ≤ wr.heap.size))
        case atStart => exact ⟨s0, [], _, _, rfl, by simp, Nat.le_refl _, H0.out⟩
        case round =>
          obtain ⟨s, ms, ma, mc, rfl, hm9, HI⟩ := hrel
          clear H0
          have hNs : s.length = N := by rw [HI.out.2.1.len]; exact HN.out
          have HNS := Lib.hid hNs
          have hla := lastly_all (fun x => decide (0 < x)) s
          have hlb := lastly_all (fun x => decide (x < 0)) s
          rw [hNs] at hla hlb
          have HLA := Lib.hid (And.intro hla hlb)
          obtain ⟨gn, rfl⟩ : ∃ gn : Nat, gn = gk := ⟨_, rfl⟩
          clear hla hlb hNs
          go_wp2
          go_loop [8, 9, 10] (fun f t i => ∃ (d : Nat) (j : Int), d ≤ N ∧ i = .int .i64 j ∧ j = (N : Int) - 1 - d ∧ f = .int .i64 (lastly (fun x => decide (0 < x)) s d) ∧ t = .int .i64 (lastly (fun x => decide (x < 0)) s d)) (fun _ _ i => (intOf i + 1).toNat)
          case atStart => exact ⟨0, (N : Int) - 1, Nat.zero_le _, by go_num, by omega, rfl, rfl⟩
          case round =>
            obtain ⟨d, j, hd, rfl, hj, rfl, rfl⟩ := hrel
            have HJ := Lib.hid hj
            by_cases hlt : d < N
            · obtain ⟨n, rfl⟩ := Int.eq_ofNat_of_zero_le (show 0 ≤ j by omega)
              have hn : n < N := by omega
              have hnd : s.length - 1 - d = n := by have := HNS.out; omega
              have hc := (HI.out.2.2.1.at rfl (i := n) (by rw [HNS.out]; exact hn)).1
              have hA : lastly (fun x => decide (0 < x)) s (d + 1) = if decide (0 < s.getD n 0) = true then (n : Int) else lastly (fun x => decide (0 < x)) s d := by rw [lastly, hnd]
              have hB : lastly (fun x => decide (x < 0)) s (d + 1) = if decide (s.getD n 0 < 0) = true then (n : Int) else lastly (fun x => decide (x < 0)) s d := by rw [lastly, hnd]
              obtain ⟨x, ex⟩ : ∃ x, s.getD n 0 = x := ⟨_, rfl⟩
              rw [ex] at hc hA hB
              have r1 : (n : Int) < N := by omega
              have r2 : (0 : Int) ≤ n := by omega
              have HAB := Lib.hid (And.intro hA hB)
              clear ex hnd hj hA hB
              by_cases hx : 0 < x
              · have hx2 : ¬ x < 0 := by omega
                have hab := HAB.out
                rw [if_pos (by simpa using hx), if_neg (by simpa using hx2)] at hab
                have HAB2 := Lib.hid hab
                clear hab HAB
                go_wp2
                go_round
                case rel => exact ⟨d + 1, (n : Int) - 1, by omega, by go_num, by have := HJ.out; omega, by rw [HAB2.out.1], by rw [HAB2.out.2]⟩
                case measure => simp [intOf]
              · by_cases hx2 : x < 0
                · have hab := HAB.out
                  rw [if_neg (by simpa using hx), if_pos (by simpa using hx2)] at hab
                  have HAB2 := Lib.hid hab
                  clear hab HAB
                  go_wp2
                  go_round
                  case rel => exact ⟨d + 1, (n : Int) - 1, by omega, by go_num, by have := HJ.out; omega, by rw [HAB2.out.1], by rw [HAB2.out.2]⟩
                  case measure => simp [intOf]
                · have hab := HAB.out
                  rw [if_neg (by simpa using hx), if_neg (by simpa using hx2)] at hab
                  have HAB2 := Lib.hid hab
                  clear hab HAB
                  go_wp2
                  go_round
                  case rel => exact ⟨d + 1, (n : Int) - 1, by omega, by go_num, by have := HJ.out; omega, by rw [HAB2.out.1], by rw [HAB2.out.2]⟩
                  case measure => simp [intOf]
            · obtain rfl : N = d := by omega
              obtain rfl : j = -1 := by omega
              clear hj HJ
              rw [HLA.out.1, HLA.out.2]
              by_cases hpos : posAt s < s.length
              · skip
                have hneg := HI.out.2.1.sur.neg hpos
                have hP0 := (posAt_is hpos).1
                have hN0 := (negAt_is hneg).1
                have hne : posAt s ≠ negAt s := fun e => by rw [e] at hP0; omega
                obtain ⟨b1, b2, b3, b4⟩ := moveN_bd HI.out.2.1.sur hpos
                have hbp := HI.out.2.1.sur.bd _ hpos
                have hbn := HI.out.2.1.sur.bd _ hneg
                have hstep := HI.out.2.1.step hpos
                have hnz := nz_moved HI.out.2.1.sur hpos
                obtain ⟨hcp, hfp⟩ := HI.out.2.2.1.at rfl hpos
                obtain ⟨hcn, hfn⟩ := HI.out.2.2.1.at rfl hneg
                have eip : idxX (fun x => decide (0 < x)) s = (posAt s : Int) := by unfold idxX; exact if_pos hpos
                have ein : idxX (fun x => decide (x < 0)) s = (negAt s : Int) := by unfold idxX; exact if_pos hneg
                have HMD : Hid ((s.set (posAt s) (s.getD (posAt s) 0 - moveN s)).set (negAt s) (s.getD (negAt s) 0 + moveN s) = moved s) := rfl
                have emin : moveN s = min (s.getD (posAt s) 0) (- s.getD (negAt s) 0) := rfl
                simp only [at0] at b3 b4 hbp hbn
                obtain ⟨A, eA⟩ : ∃ A, posAt s = A := ⟨_, rfl⟩
                obtain ⟨B, eB⟩ : ∃ B, negAt s = B := ⟨_, rfl⟩
                rw [eA] at hP0 hne b3 hbp hstep hcp hfp eip HMD emin hpos
                rw [eB] at hN0 hne b4 hbn hstep hcn hfn ein HMD emin hneg
                obtain ⟨x, ex⟩ : ∃ x, s.getD A 0 = x := ⟨_, rfl⟩
                obtain ⟨y, ey⟩ : ∃ y, s.getD B 0 = y := ⟨_, rfl⟩
                rw [ex] at hP0 b3 hbp hcp HMD emin
                rw [ey] at hN0 b4 hbn hcn HMD emin
                obtain ⟨E, eE⟩ : ∃ E, moveN s = E := ⟨_, rfl⟩
                rw [eE] at b1 b2 b3 b4 hstep HMD emin
                have HST := Lib.hid (And.intro hstep hnz)
                have hAN : A < N := by have := HNS.out; omega
                have hBN : B < N := by have := HNS.out; omega
                have w1 : IntKind.i64.wrap (-y) = -y := wrap_small' _ (by omega) (by omega)
                have w3 : IntKind.i64.wrap (x - E) = x - E := wrap_small' _ (by omega) (by omega)
                have w4 : IntKind.i64.wrap (y + E) = y + E := wrap_small' _ (by omega) (by omega)
                have r1 : (A : Int) < N := by omega
                have r2 : (0 : Int) ≤ A := by omega
                have r3 : (B : Int) < N := by omega
                have r4 : (0 : Int) ≤ B := by omega
                have HMN := Lib.hid emin
                have hsz2 := HI.out.2.2.2.2.2
                clear eA eB ex ey eE hstep hnz emin hpos hneg
                rw [eip, ein]
                clear eip ein
                obtain ⟨w5, hw5⟩ : ∃ w5 : World, wr = w5 := ⟨_, rfl⟩
                rw [hw5] at HI hcp hfp hcn hfn hsz2 ⊢
                clear hw5
                go_wp2
                go_quiet (fail)
                rw [← HMN.out]
                obtain ⟨W3, hW3⟩ : ∃ W3, w5.drewN nq = W3 := ⟨_, rfl⟩
                have hg3 : Grew w5 W3 := by rw [← hW3]; exact (Grew.refl _).drewN _
                have hcp3 := hg3.cell hcp
                have hcn3 := hg3.cell hcn
                have hfp3 : W3.frozen? ⟨g, A, none⟩ = false := by rw [← hW3]; exact hfp
                have hfn3 : W3.frozen? ⟨g, B, none⟩ = false := by rw [← hW3]; exact hfn
                rw [hW3]
                have hsz3 := hg3.size
                have hwi : Within g (g + 1) W3 ((W3.setCell ⟨g, A, none⟩ (.int .i64 (x - E))).setCell ⟨g, B, none⟩ (.int .i64 (y + E))) :=
                  ((Within.refl _ _ _).setCell (p := ⟨g, A, none⟩) (Nat.le_refl _) (Nat.lt_succ_self _) _).setCell (p := ⟨g, B, none⟩) (Nat.le_refl _) (Nat.lt_succ_self _) _
                have hszs : ((W3.setCell ⟨g, A, none⟩ (.int .i64 (x - E))).setCell ⟨g, B, none⟩ (.int .i64 (y + E))).heap.size = W3.heap.size := by simp [World.setCell]
                have H5 : Hid (IntsO 3 w.heap.size wz.heap.size ((W3.setCell ⟨g, A, none⟩ (.int .i64 (x - E))).setCell ⟨g, B, none⟩ (.int .i64 (y + E))) (.slice (some ⟨g, 0, none⟩) N c') (moved s) ∧
                    RowsO 23 3 wz.heap.size ((W3.setCell ⟨g, A, none⟩ (.int .i64 (x - E))).setCell ⟨g, B, none⟩ (.int .i64 (y + E))).heap.size ((W3.setCell ⟨g, A, none⟩ (.int .i64 (x - E))).setCell ⟨g, B, none⟩ (.int .i64 (y + E))) (.slice ma ms.length mc) ms ∧
                    Grew w ((W3.setCell ⟨g, A, none⟩ (.int .i64 (x - E))).setCell ⟨g, B, none⟩ (.int .i64 (y + E)))) :=
                  ⟨by rw [← HMD.out]; exact ((HI.out.2.2.1.grew hg3).set rfl A (x - E)).set rfl B (y + E), by rw [hszs]; exact ((HI.out.2.2.2.1.grew hg3).within hwi (.inr (by omega))).wide (Nat.le_refl _) hsz3, Within.grew (HI.out.2.2.2.2.1.trans hg3) hwi hwg⟩
                have H6 : Hid (IntsO 3 ((W3.setCell ⟨g, A, none⟩ (.int .i64 (x - E))).setCell ⟨g, B, none⟩ (.int .i64 (y + E))).heap.size (((W3.setCell ⟨g, A, none⟩ (.int .i64 (x - E))).setCell ⟨g, B, none⟩ (.int .i64 (y + E))).heap.size + 1)
                    (((W3.setCell ⟨g, A, none⟩ (.int .i64 (x - E))).setCell ⟨g, B, none⟩ (.int .i64 (y + E))).alloc (.cells #[.int .i64 A, .int .i64 B, .int .i64 E] 3)) (.slice (some ⟨W3.heap.size, 0, none⟩) 3 3) [(A : Int), (B : Int), E]) :=
                  by
                  have := IntsO.lit 3 ((W3.setCell ⟨g, A, none⟩ (.int .i64 (x - E))).setCell ⟨g, B, none⟩ (.int .i64 (y + E))).heap.size ((W3.setCell ⟨g, A, none⟩ (.int .i64 (x - E))).setCell ⟨g, B, none⟩ (.int .i64 (y + E))) [(A : Int), (B : Int), E] #[.int .i64 A, .int .i64 B, .int .i64 E] rfl (Nat.le_refl _) (by simp [maxLen])
                  rw [hszs] at this ⊢
                  exact this
                have HSZ : Hid (((W3.setCell ⟨g, A, none⟩ (.int .i64 (x - E))).setCell ⟨g, B, none⟩ (.int .i64 (y + E))).heap.size = W3.heap.size ∧ wz.heap.size ≤ W3.heap.size) := ⟨hszs, by omega⟩
                clear hW3 hg3 hcp hcn hfp hfn hwi hszs
                go_wp2_with (at_builtin; go_loud (refine wpList_append_row rfl (.tmp 86) (.tmp 91) 42 rfl (by decide) Try.underlying42 Try.infoIs rfl rfl (by simp [World.setCell]) (H5.out.2.1.grew ((Grew.refl _).alloc _)) H6.out (by omega) (by have := HSZ.out; simp; omega) (by have := HSZ.out; omega) ?_; intro g6 c6 w6 hO6 hW6 hS6))
                have HF : Hid (RowsO 23 3 wz.heap.size w6.heap.size w6 (.slice (some ⟨g6, 0, none⟩) (ms.length + 1) c6) (ms ++ [[(A : Int), (B : Int), E]]) ∧ IntsO 3 w.heap.size wz.heap.size w6 (.slice (some ⟨g, 0, none⟩) N c') (moved s) ∧ Grew w w6 ∧ wz.heap.size ≤ w6.heap.size) :=
                  ⟨hO6, (H5.out.1.grew ((Grew.refl _).alloc _)).within hW6 (.inl (Nat.le_refl _)), Within.grew (H5.out.2.2.trans ((Grew.refl _).alloc _)) hW6 (by omega), by have := HSZ.out; have := hS6; simp at this; omega⟩
                clear hO6 hW6 hS6
                go_wp2
                go_roundg (gn - 1)
                case measure => have := HST.out.2; have := HI.out.1; omega
                case rel => exact ⟨moved s, ms ++ [[(A : Int), (B : Int), E]], some ⟨g6, 0, none⟩, c6, by simp, by have := HST.out.1.len9; simpa using this, by have := HST.out.2; have := HI.out.1; omega, HST.out.1, HF.out.2.1, HF.out.1, HF.out.2.2⟩
              · skip
                have hmm := HI.out.2.1.ends hpos
                have eip : idxX (fun x => decide (0 < x)) s = -1 := by unfold idxX; exact if_neg hpos
                rw [eip]
                have HMM := Lib.hid hmm
                clear hmm eip hpos
                go_wp2
                go_ret
                refine ⟨_, rfl, ?_, HI.out.2.2.2.2.1⟩
                have := HI.out.2.2.2.1
                rw [HES.out, ← HMM.out]
                exact this.wide (by have := HWZ.out; omega) (Nat.le_refl _)
end Go.Proofs.Ytlifjhhjkcmneaa
