/- The law FnSumIn returns true. -/
import Derived.Test.YtkeeonjbkfgeeaaSSumIn
import Derived.Test.YtkeeonjbkfgeeaaDraws11
import Derived.Test.YtkeeonjbkfgeeaaTotal
import Derived.Test.YtkeeonjbkfgeeaaFlipped
namespace Go.Proofs.Ytkeeonjbkfgeeaa
open Go.RowKit

theorem partS_split (h : List (List Int)) (t l k b r : Nat) (h1 : t ≤ k) (h2 : k ≤ b) : partS h t l k r + partS h k l b r = partS h t l b r := by
  have := sumTo_splitS (fun i => sumTo (fun j => cellS h (t + i) (l + j)) (r - l)) (k - t) (b - k)
  rw [show k - t + (b - k) = b - t by omega] at this
  unfold partS
  rw [this]
  congr 1
  refine sumTo_congr fun i _ => ?_
  rw [show t + (k - t + i) = k + i by omega]
theorem partS_next (h : List (List Int)) (t l k r : Nat) (h1 : t ≤ k) : partS h t l (k + 1) r = partS h t l k r + sumTo (fun j => cellS h k (l + j)) (r - l) := by
  rw [← partS_split h t l k (k + 1) r h1 (by omega)]
  congr 1
  unfold partS
  rw [show k + 1 - k = 1 by omega]
  simp [sumTo]
theorem partS_none (h : List (List Int)) (t l r : Nat) : partS h t l t r = 0 := by
  unfold partS
  rw [Nat.sub_self]
  rfl
theorem cellS_flip {h : List (List Int)} {m : Nat} (G : Grid h m) (i j : Nat) (hi : i < m) (hj : j < h.length) : cellS (flipL h) i j = cellS h j i := by
  unfold cellS
  rw [flipL_at (G.len 0 G.n1) i hi, getD_map' _ _ j [] 0 hj]
theorem partS_flip {h : List (List Int)} {m : Nat} (G : Grid h m) (t l b r : Nat) (hb : b ≤ h.length) (hr : r ≤ m) : partS (flipL h) l t r b = partS h t l b r := by
  unfold partS
  rw [sumTo_swap (fun i j => cellS h (t + i) (l + j))]
  refine sumTo_congr fun i hi => sumTo_congr fun j hj => ?_
  exact cellS_flip G _ _ (by omega) (by omega)
theorem sub_total (row : List Int) (l r : Nat) (hr : r ≤ row.length) : sumTo (fun j => ((row.drop l).take (r - l)).getD j 0) ((row.drop l).take (r - l)).length = sumTo (fun j => row.getD (l + j) 0) (r - l) := by
  have e : ((row.drop l).take (r - l)).length = r - l := by simp; omega
  rw [e]
  refine sumTo_congr fun j hj => ?_
  rw [cut_at row (r - l) l j hj]

theorem sub_ints {w : World} {b o n c : Nat} {p : List Int} (h : IntsV w (.slice (some ⟨b, o, none⟩) n c) p) (s e : Nat) (hs : s < e) (he : e ≤ p.length) : IntsV w (.slice (some ⟨b, o + s, none⟩) (e - s) (c - s)) ((p.drop s).take (e - s)) := by
  obtain ⟨a', b', o', c', e', ⟨h1, h2⟩, hc⟩ := h
  simp only [Value.slice.injEq] at e'
  obtain ⟨rfl, rfl, rfl⟩ := e'
  have hl : ((p.drop s).take (e - s)).length = e - s := by simp; omega
  refine ⟨some ⟨b, o + s, none⟩, b, o + s, c - s, by rw [hl], ⟨by omega, by omega⟩, fun i hi => ?_⟩
  rw [hl] at hi
  obtain ⟨e1, e2⟩ := hc (s + i) (by omega)
  simp only [Option.some.injEq, Addr.mk.injEq] at e1
  obtain ⟨rfl, rfl, _⟩ := e1
  rw [cut_at p (e - s) s i hi, Nat.add_assoc]
  exact ⟨rfl, e2⟩
set_option maxRecDepth 100000 in
set_option maxHeartbeats 8000000 in
theorem FnSumIn_any (v : Value) (bs : List Int) (w : World) (hv : NumsV .u8 w v bs) (hb : ∀ i, i < bs.length → 0 ≤ bs.getD i 0 ∧ bs.getD i 0 ≤ 255) :
    Calls Try.prog 4 #[v] w fun e w' => e = .returned (.bool true) ∧ Grew w w' := by
  have HD := Lib.hid (DrawSumIn_any v bs w hv hb)
  obtain ⟨a, b', o, c, rfl, ⟨hlc, hcb⟩, _, _⟩ := hv.shape
  clear hv hb
  by_cases hbig : 1048576 < bs.length
  · go_enter Try.func4, Try.ntmps4
    go_wp2
    go_ret
    exact ⟨rfl, Grew.refl _⟩
  · go_enter Try.func4, Try.ntmps4
    go_wp2_with (fail)
    refine HD.out.mono ?_
    rintro e w1 ⟨v1, H, t, l, b, r, rfl, hO, hd, ⟨⟨ht0, ht1⟩, ⟨hl0, hl1⟩, ⟨hb0, hb1⟩, hr0, hr1⟩, hg1⟩
    have HV := Lib.hid (And.intro hO.toV hg1)
    obtain ⟨a3, c3, rfl⟩ := hO.sh
    have HI : Hid (∀ (t l b r : Int) W, Grew w1 W → Calls Try.prog 19 #[.slice a3 H.length c3, .int .i64 t, .int .i64 l, .int .i64 b, .int .i64 r] W fun e w' => e = .returned (.int .i64 (sumX H t l b r)) ∧ Grew W w') := Lib.hid fun t l b r W hW => SumIn_any _ H t l b r W (HV.out.1.grew hW)
    have HSI : Hid (∀ W, Grew w1 W → Calls Try.prog 20 #[.slice a3 H.length c3, .int .i64 t, .int .i64 l, .int .i64 b, .int .i64 r] W fun e w' => e = .returned (.int .i64 (sumX H t l b r)) ∧ Grew W w') := Lib.hid fun W hW => SSumIn_any _ H t l b r W (HV.out.1.grew hW)
    have HM := Lib.hid (HI.out t l b r w1 (Grew.refl _))
    obtain ⟨M, eM⟩ : ∃ M, sumX H t l b r = M := ⟨_, rfl⟩
    rw [eM] at HM HSI
    have HEM := Lib.hid eM
    clear hO hd hg1 HD eM
    go_wp2_with (fail)
    refine HM.out.mono ?_
    rintro e w2 ⟨rfl, hg2⟩
    have HG2 := Lib.hid hg2
    clear hg2
    go_wp2_with (fail)
    refine (HSI.out _ HG2.out).mono ?_
    rintro e w3 ⟨rfl, hg3⟩
    have HG3 := Lib.hid (HG2.out.trans hg3)
    clear hg3
    have ebb : (M != M) = false := by simp
    have ebe : (M == M) = true := by simp
    by_cases hM : M < 0
    · go_wp2_with (fail)
      refine (HSI.out _ HG3.out).mono ?_
      rintro e w4 ⟨rfl, hg4⟩
      have HG4 := Lib.hid (HG3.out.trans hg4)
      clear hg4
      go_wp2
      go_ret
      exact ⟨rfl, HV.out.2.trans HG4.out⟩
    · have hvp : vPart H t l b r = true := by
        cases hx : vPart H t l b r with
        | true => rfl
        | false =>
          exfalso
          apply hM
          rw [← HEM.out]
          unfold sumX
          rw [hx]
          simp
      have hp' := hvp
      simp only [vPart, Bool.and_eq_true, spanB_iff] at hp'
      obtain ⟨⟨hg, _, htb, hbn⟩, _, hlr, hrm⟩ := hp'
      have G := Grid.of hg
      obtain ⟨m, em⟩ : ∃ m, (H.getD 0 []).length = m := ⟨_, rfl⟩
      obtain ⟨n, en⟩ : ∃ n, H.length = n := ⟨_, rfl⟩
      rw [em] at G hrm
      obtain ⟨tN, rfl⟩ := Int.eq_ofNat_of_zero_le ht0
      obtain ⟨bN, rfl⟩ := Int.eq_ofNat_of_zero_le hb0
      obtain ⟨lN, rfl⟩ := Int.eq_ofNat_of_zero_le hl0
      obtain ⟨rN, rfl⟩ := Int.eq_ofNat_of_zero_le hr0
      rw [en] at hbn
      have hn5 := G.n5
      have hn1 := G.n1
      have hm5 := G.m5
      have hsx : ∀ t l b r : Nat, t ≤ b → b ≤ n → l ≤ r → r ≤ m → sumX H t l b r = partS H t l b r := fun t l b r h1 h2 h3 h4 => by
        unfold sumX
        rw [if_pos (by simp only [vPart, Bool.and_eq_true, spanB_iff]; rw [em, en]; exact ⟨⟨hg, by omega, by omega, by omega⟩, by omega, by omega, by omega⟩)]
        simp
      have hMp : partS H tN lN bN rN = M := by rw [← HEM.out]; exact (hsx tN lN bN rN (by omega) (by omega) (by omega) (by omega)).symm
      have hfx : sumX (flipL H) lN tN rN bN = M := by
        have F := flip_grid G
        have hfl : (flipL H).length = m := flipL_len em
        unfold sumX
        rw [if_pos (by
          simp only [vPart, Bool.and_eq_true, spanB_iff]
          rw [hfl, F.len 0 (by rw [hfl]; exact G.m1), en]
          exact ⟨⟨F.to, by omega, by omega, by omega⟩, by omega, by omega, by omega⟩)]
        simp only [Int.toNat_natCast]
        rw [partS_flip G tN lN bN rN (by omega) (by omega)]
        exact hMp
      obtain ⟨mN, emd⟩ : ∃ mN, (tN + bN) / 2 = mN := ⟨_, rfl⟩
      have hm1 : tN ≤ mN := by omega
      have hm2 : mN ≤ bN := by omega
      have hq : ((tN : Int) + (bN : Int)) / 2 = (mN : Int) := by omega
      have hsp := partS_split H tN lN mN bN rN hm1 hm2
      have hpb1 := partS_bd G tN lN mN rN (by omega) (by omega)
      have hpb2 := partS_bd G mN lN bN rN (by omega) (by omega)
      have HA : Hid (∀ W, Grew w1 W → Calls Try.prog 19 #[.slice a3 n c3, .int .i64 tN, .int .i64 lN, .int .i64 (((tN : Int) + (bN : Int)) / 2), .int .i64 rN] W fun e w' => e = .returned (.int .i64 (partS H tN lN mN rN)) ∧ Grew W w') := Lib.hid fun W hW => by
        rw [hq]
        have := HI.out tN lN mN rN W hW
        rw [hsx tN lN mN rN (by omega) (by omega) (by omega) (by omega), en] at this
        exact this
      have HB : Hid (∀ W, Grew w1 W → Calls Try.prog 19 #[.slice a3 n c3, .int .i64 (((tN : Int) + (bN : Int)) / 2), .int .i64 lN, .int .i64 bN, .int .i64 rN] W fun e w' => e = .returned (.int .i64 (partS H mN lN bN rN)) ∧ Grew W w') := Lib.hid fun W hW => by
        rw [hq]
        have := HI.out mN lN bN rN W hW
        rw [hsx mN lN bN rN (by omega) (by omega) (by omega) (by omega), en] at this
        exact this
      have HFP : Hid (∀ W, Grew w1 W → Calls Try.prog 21 #[.slice a3 n c3] W (NewRows W (flipL H))) := Lib.hid fun W hW => by
        have := flipped_any _ H W (HV.out.1.grew hW) hg
        rw [en] at this
        exact this
      have HFS : Hid (∀ v W, RowsV W v (flipL H) → Calls Try.prog 19 #[v, .int .i64 lN, .int .i64 tN, .int .i64 rN, .int .i64 bN] W fun e w' => e = .returned (.int .i64 M) ∧ Grew W w') := Lib.hid fun v W hv => by
        have := SumIn_any v (flipL H) lN tN rN bN W hv
        rw [hfx] at this
        exact this
      have HRW : Hid (∀ i W, i < n → Grew w1 W → ∃ bH oH g o c', a3 = some ⟨bH, oH, none⟩ ∧ W.cell? ⟨bH, oH + i, none⟩ = some (.slice (some ⟨g, o, none⟩) m c') ∧ m ≤ c' ∧ c' ≤ 9223372036854775807 ∧ IntsV W (.slice (some ⟨g, o, none⟩) m c') (H.getD i [])) := Lib.hid fun i W hi hW => by
        obtain ⟨a', b', o', c', e', _, ha', HC'⟩ := (HV.out.1.grew hW).shape
        obtain ⟨u, hc, hu⟩ := HC'.out i (by omega)
        have hl : (H.getD i []).length = m := G.len i (by omega)
        obtain ⟨ax, bx, ox, cx, e2, ⟨h1, h2⟩, hax, _⟩ := hu.shape
        rw [hl] at e2 h1 hax
        have := hax G.m1
        subst this
        subst e2
        simp only [Value.slice.injEq] at e'
        exact ⟨b', o', bx, ox, cx, by rw [e'.1]; exact ha' (by omega), hc, h1, h2, hu⟩
      have HTT : Hid (∀ i v W, i < n → IntsV W v (((H.getD i []).drop lN).take (rN - lN)) → Calls Try.prog 16 #[v] W fun e w' => e = .returned (.int .i64 (sumTo (fun j => cellS H i (lN + j)) (rN - lN))) ∧ W = w') := Lib.hid fun i v W hi hv => by
        have hl : (H.getD i []).length = m := G.len i (by omega)
        have := totalOf_any v _ W hv (by simp; omega) (fun j hj => by
          simp only [List.length_take, List.length_drop] at hj
          rw [cut_at _ _ _ _ (by omega)]
          have := G.num i (by omega) (lN + j) (by omega)
          omega)
        rw [sub_total _ _ _ (by omega)] at this
        exact this
      have HPN := Lib.hid (fun k (hk : tN ≤ k) => partS_next H tN lN k rN hk)
      have HPB : Hid (∀ k, k ≤ bN → 0 ≤ partS H tN lN k rN ∧ partS H tN lN k rN ≤ 300) := Lib.hid fun k hk => partS_bd G tN lN k rN (by omega) (by omega)
      have HP0 := Lib.hid (partS_none H tN lN rN)
      have HRL : Hid (∀ i, i < n → (H.getD i []).length = m) := Lib.hid fun i hi => G.len i (by omega)
      have HMP := Lib.hid hMp
      obtain ⟨pA, ePA⟩ : ∃ p, partS H tN lN mN rN = p := ⟨_, rfl⟩
      obtain ⟨pB, ePB⟩ : ∃ p, partS H mN lN bN rN = p := ⟨_, rfl⟩
      rw [ePA] at HA hsp hpb1
      rw [ePB] at HB hsp hpb2
      have hsum : pA + pB = M := by omega
      have hab : IntKind.i64.wrap (pA + pB) = M := by rw [hsum]; exact IntWalk.i64_in _ (by omega)
      have HWW := Lib.hid (And.intro hab hq)
      have hbn' : bN ≤ n := by omega
      have htb' : tN ≤ bN := by omega
      have hlr' : lN ≤ rN := by omega
      have hrm' : rN ≤ m := by omega
      rw [en]
      clear hvp hg G em en hsx hMp hfx emd hsp ePA ePB hsum hab HM HSI HI HEM ht0 hl0 hb0 hr0 htb hbn hlr hrm
      clear hq
      go_wp2
      go_loopw [10, 11] (fun s i wr => ∃ (k : Nat) (S : Int), tN ≤ k ∧ k ≤ bN ∧ i = .int .i64 k ∧ s = .int .i64 S ∧ Hid (S = partS H tN lN k rN) ∧ Hid (Grew w1 wr)) (fun _ i _ => bN - (intOf i).toNat)
      case atStart => exact ⟨tN, 0, Nat.le_refl _, by omega, rfl, rfl, HP0.out.symm, HG3.out⟩
      case round =>
        obtain ⟨k, S, hk1, hk2, rfl, rfl, HS, HJ⟩ := hrel
        by_cases hlt : k < bN
        · obtain ⟨bH, oH, g, o2, c2, rfl, hck, hmc, hc2b, hiv⟩ := HRW.out k wr (by omega) HJ.out
          have hkn : (k : Int) < n := by omega
          have hkn' : k < n := by omega
          have hki : (k : Int) < bN := by omega
          have hS := HPB.out k hk2
          rw [← HS.out] at hS
          have hT := HPB.out (k + 1) hlt
          have hnx := HPN.out k hk1
          obtain ⟨X, eX⟩ : ∃ X, sumTo (fun j => cellS H k (lN + j)) (rN - lN) = X := ⟨_, rfl⟩
          have htot : ∀ v, IntsV wr v (((H.getD k []).drop lN).take (rN - lN)) → Calls Try.prog 16 #[v] wr fun e w' => e = .returned (.int .i64 X) ∧ wr = w' := fun v hv => by
            have := HTT.out k v wr (by omega) hv
            rw [eX] at this
            exact this
          have hlm := HRL.out k hkn'
          have HNX : Hid (S + X = partS H tN lN (k + 1) rN) := Lib.hid (by rw [hnx, eX, HS.out])
          have hSX : IntKind.i64.wrap (S + X) = S + X := by
            have := HNX.out
            exact IntWalk.i64_in _ (by omega)
          by_cases hcl : c2 = lN
          · have e1 : rN = lN := by omega
            have HT1 : Hid (Calls Try.prog 16 #[.slice (some ⟨g, o2, none⟩) 0 0] wr fun e w' => e = .returned (.int .i64 X) ∧ wr = w') := Lib.hid (htot _ (by rw [e1, Nat.sub_self, List.take_zero]; exact NumsV.nil _ _ _ _ (by omega)))
            subst e1
            subst hcl
            clear hnx eX htot hlm hT
            go_wp2_with (fail)
            refine HT1.out.mono ?_
            rintro e w5 ⟨rfl, rfl⟩
            go_wp2
            clear hSX
            go_roundw
            case rel => exact ⟨k + 1, S + X, by omega, by omega, by go_num, rfl, HNX.out, HJ.out⟩
            case measure => simp [intOf]; omega
          · have HT1 : Hid (Calls Try.prog 16 #[.slice (some ⟨g, o2 + lN, none⟩) (rN - lN) (c2 - lN)] wr fun e w' => e = .returned (.int .i64 X) ∧ wr = w') := Lib.hid (htot _ (by
              by_cases hll : lN < rN
              · exact sub_ints hiv lN rN hll (by omega)
              · have e0 : rN - lN = 0 := by omega
                rw [e0, List.take_zero]
                exact NumsV.nil _ _ _ _ (by omega)))
            have r1 : (rN : Int) ≤ c2 := by omega
            have r2 : (lN : Int) ≤ c2 := by omega
            have r3 : (lN : Int) ≤ rN := by omega
            have r4 : (rN : Int) ≤ m := by omega
            clear hnx eX htot hlm hT
            go_wp2_with (fail)
            refine HT1.out.mono ?_
            rintro e w5 ⟨rfl, rfl⟩
            go_wp2
            clear hSX
            go_roundw
            case rel => exact ⟨k + 1, S + X, by omega, by omega, by go_num, rfl, HNX.out, HJ.out⟩
            case measure => simp [intOf]; omega
        · obtain rfl : k = bN := by omega
          have hSM : S = M := by rw [HS.out]; exact HMP.out
          subst hSM
          have hab := HWW.out.1
          have hss : (S == S) = true := by simp
          go_wp2_with (fail)
          (with_reducible refine (HA.out _ HJ.out).mono ?_)
          rintro e w5 ⟨rfl, hg5⟩
          have HG5 := Lib.hid (HJ.out.trans hg5)
          clear hg5
          go_wp2_with (fail)
          (with_reducible refine (HB.out _ HG5.out).mono ?_)
          rintro e w6 ⟨rfl, hg6⟩
          have HG6 := Lib.hid (HG5.out.trans hg6)
          clear hg6
          go_wp2_with (fail)
          refine (HFP.out _ HG6.out).mono ?_
          rintro e w7 ⟨v7, rfl, hO7, hg7⟩
          have H7 := Lib.hid (And.intro hO7.toV (HG6.out.trans hg7))
          have HF7 := Lib.hid (HFS.out _ _ hO7.toV)
          obtain ⟨a7, c7, rfl⟩ := hO7.sh
          clear hO7 hg7
          go_wp2_with (fail)
          refine HF7.out.mono ?_
          rintro e w8 ⟨rfl, hg8⟩
          have HG8 := Lib.hid (H7.out.2.trans hg8)
          clear hg8
          go_wp2
          go_ret
          exact ⟨ret_bool (by simp), HV.out.2.trans HG8.out⟩
end Go.Proofs.Ytkeeonjbkfgeeaa
