/- The law FnPassBetween returns true. -/
import Derived.Test.YtkhgcfchaogccaaDoorPass
import Derived.Test.YtkhgcfchaogccaaDoorSPass
import Derived.Test.YtkhgcfchaogccaaDoorDraws3
import Derived.Test.YtkhgcfchaogccaaDoorRowOf
import Derived.Lib.MinMax
namespace Go.Proofs.YtkhgcfchaogccaaDoor
open Go.RowKit

theorem grid_small3 {h : List (List Int)} {m : Nat} (G : Grid h m) : h.length ≤ 1000 ∧ ∀ r, r < h.length → 1 ≤ (h.getD r []).length ∧ (h.getD r []).length ≤ 1000 :=
  ⟨by have := G.n5; omega, fun r hr => by have := G.len r hr; have := G.m1; have := G.m5; omega⟩

set_option maxRecDepth 100000 in
set_option maxHeartbeats 8000000 in
theorem FnPassBetween_any (v : Value) (bs : List Int) (w : World) (hv : NumsV .u8 w v bs) (hb : ∀ i, i < bs.length → 0 ≤ bs.getD i 0 ∧ bs.getD i 0 ≤ 255) (hS : Steps w) :
    Calls Tryd.prog 8 #[v] w fun e w' => e = .returned (.bool true) ∧ Grew w w' := by
  have HD := Lib.hid (DrawPassBetween_any v bs w hv hb)
  have HS := Lib.hid hS
  obtain ⟨a, b, o, c, rfl, ⟨hlc, hcb⟩, _, _⟩ := hv.shape
  clear hv hb hS
  by_cases hbig : 1048576 < bs.length
  · go_enter Tryd.func8, Tryd.ntmps8
    go_wp2
    go_ret
    exact ⟨rfl, Grew.refl _⟩
  · go_enter Tryd.func8, Tryd.ntmps8
    go_wp2_with (fail)
    refine HD.out.mono ?_
    rintro e w1 ⟨v1, H, i, k, rfl, hO, hd, hg1⟩
    have HV := Lib.hid (And.intro hO.toV hg1)
    obtain ⟨a1, c1, rfl⟩ := hO.sh
    obtain ⟨M, eM⟩ : ∃ M, passL H i k = M := ⟨_, rfl⟩
    have HM := Lib.hid eM
    have ebb : (M != M) = false := by simp
    clear hO hd hg1 HD
    go_wp2_with (fail)
    refine (PassBetween_any _ H i k _ HV.out.1 (HS.out.grew HV.out.2)).mono ?_
    rw [eM]
    rintro e w2 ⟨rfl, hg2⟩
    have H2 := Lib.hid (And.intro (HV.out.1.grew hg2) (HV.out.2.trans hg2))
    clear hg2
    go_wp2_with (fail)
    refine (SPassBetween_any _ H i k _ H2.out.1).mono ?_
    rw [eM]
    rintro e w3 ⟨rfl, hg3⟩
    have H3 := Lib.hid (And.intro (H2.out.1.grew hg3) (H2.out.2.trans hg3))
    clear hg3 H2 HV eM
    cases hc : vCell H i && vCell H k with
    | false =>
      have eM0 : M = -1 := by rw [← HM.out, passL_no hc]
      subst eM0
      clear hc
      go_wp2_with (fail)
      refine (SPassBetween_any _ H i k _ H3.out.1).mono ?_
      rw [HM.out]
      rintro e w5 ⟨rfl, hg5⟩
      have H5 := Lib.hid (H3.out.2.trans hg5)
      clear hg5
      go_wp2
      go_ret
      exact ⟨rfl, H5.out⟩
    | true =>
      obtain ⟨hci, hck⟩ := (Bool.and_eq_true _ _ ▸ hc : _ ∧ _)
      obtain ⟨hvg, h0, hI, _⟩ := vCell_yes hci
      obtain ⟨_, k0, hK, _⟩ := vCell_yes hck
      obtain ⟨I, rfl⟩ := Int.eq_ofNat_of_zero_le h0
      obtain ⟨K, rfl⟩ := Int.eq_ofNat_of_zero_le k0
      rw [Int.toNat_natCast] at hI hK
      have G := Grid.of hvg
      obtain ⟨n, en⟩ : ∃ n, H.length = n := ⟨_, rfl⟩
      obtain ⟨m, em⟩ : ∃ m, (H.getD 0 []).length = m := ⟨_, rfl⟩
      obtain ⟨N, eN⟩ : ∃ N, n * m = N := ⟨_, rfl⟩
      have hn5 := G.n5
      have hm5 := G.m5
      have hgs := grid_small3 G
      rw [en] at hn5 hI hK
      rw [em] at hm5 hI hK
      rw [eN] at hI hK
      have hN25 : N ≤ 25 := by rw [← eN]; exact Nat.mul_le_mul hn5 hm5
      have hpn : ∀ i, i < n * m → 0 ≤ H.flatten.getD i 0 ∧ H.flatten.getD i 0 ≤ 12 := fun i hi => grid_num G i (by rw [en, em]; exact hi)
      have hpl := flat_grid_len G
      rw [en, em, eN] at hpl
      have hvc : ∀ x : Nat, x < N → vCell H (x : Int) = true := fun x hx => by
        rw [vCell, hvg, Bool.true_and, Bool.and_eq_true, decide_eq_true_eq, decide_eq_true_eq]
        have : ((n * m : Nat) : Int) = (n : Int) * m := by simp
        rw [en, em]
        omega
      have HPA : Hid (∀ (x y : Nat) W, Grew w3 W → x < N → y < N → Calls Tryd.prog 21 #[.slice a1 H.length c1, .int .i64 x, .int .i64 y] W fun e w' => e = .returned (.int .i64 (passN n m H.flatten x y)) ∧ Grew W w') := Lib.hid fun x y W hW hx hy => by
        have := PassBetween_any _ H (x : Int) (y : Int) W (H3.out.1.grew hW) (HS.out.grew (H3.out.2.trans hW))
        rwa [passL_yes hvg en em (hvc x hx) (hvc y hy)] at this
      have HRH := Lib.hid fun W (hW : Grew w3 W) => rowOf_any _ H W (H3.out.1.grew hW) hgs.1 hgs.2
      have hMp : M = passN n m H.flatten I K := by rw [← HM.out, passL_yes hvg en em hci hck]
      have HF : Hid (passN n m H.flatten K I = M ∧ H.flatten.getD I 0 ≤ M ∧ H.flatten.getD K 0 ≤ M ∧ (I = K → M = H.flatten.getD I 0) ∧ (∀ x, x < N → M ≤ max (passN n m H.flatten I x) (passN n m H.flatten x K))) := by
        rw [hMp]
        refine Lib.hid ⟨passN_symm hn5 hm5 hpn (by omega) (by omega), (passN_ge hn5 hm5 hpn (by omega) (by omega)).1, (passN_ge hn5 hm5 hpn (by omega) (by omega)).2, fun e => ?_, fun x hx => passN_tri hn5 hm5 hpn (by omega) (by omega) (by omega)⟩
        rw [← e]
        exact passN_self hn5 hm5 hpn (by omega)
      have hM0 : ¬ M < 0 := by have := (passN_top hn5 hm5 hpn (i := I) (k := K) (by omega) (by omega)).1; omega
      obtain ⟨p, ep⟩ : ∃ p, H.flatten = p := ⟨_, rfl⟩
      rw [ep] at HPA HRH HF hpl
      have HPL := Lib.hid hpl
      have hIi : (I : Int) < (N : Int) := by omega
      have hKi : (K : Int) < (N : Int) := by omega
      clear hc hci hck hvg h0 k0 G en em eN hn5 hm5 hgs hpn hpl hvc hMp ep HM
      go_wp2_with (fail)
      refine (HRH.out _ (Grew.refl _)).mono ?_
      rintro e w4 ⟨g4, c4, rfl, hO4, hg4⟩
      rw [HPL.out] at hO4 ⊢
      have hcI := (hO4.at rfl (i := I) (by rw [HPL.out]; exact hI)).1
      have hcK := (hO4.at rfl (i := K) (by rw [HPL.out]; exact hK)).1
      obtain ⟨x, ex⟩ : ∃ x, p.getD I 0 = x := ⟨_, rfl⟩
      obtain ⟨y, ey⟩ : ∃ y, p.getD K 0 = y := ⟨_, rfl⟩
      have hf := HF.out
      rw [ex, ey] at hf
      rw [ex] at hcI
      rw [ey] at hcK
      have hMx := hf.2.1
      have hMy := hf.2.2.1
      have HF2 := Lib.hid (And.intro hf.1 hf.2.2.2)
      have HG4 : Hid (Grew w3 w4) := Lib.hid hg4
      have HCI := Lib.hid (And.intro hcI hcK)
      clear hO4 hg4 hf HF hcI hcK ex ey
      go_wp2
      go_loopw [8] (fun i wr => ∃ t : Nat, t ≤ N ∧ i = .int .i64 (t : Int) ∧ Hid (Grew w4 wr)) (fun i _ => N - (intOf i).toNat)
      case atStart => exact ⟨0, Nat.zero_le _, rfl, Grew.refl _⟩
      case round =>
        obtain ⟨t, ht, rfl, HG⟩ := hrel
        by_cases hlt : t < N
        · have H1 := Lib.hid (HPA.out I t wr (HG4.out.trans HG.out) hI hlt)
          have H2 := Lib.hid fun W (hW : Grew wr W) => HPA.out t K W (HG4.out.trans (HG.out.trans hW)) hlt hK
          have hmx := HF2.out.2.2 t hlt
          obtain ⟨z1, ez1⟩ : ∃ z1, passN n m p I t = z1 := ⟨_, rfl⟩
          obtain ⟨z2, ez2⟩ : ∃ z2, passN n m p t K = z2 := ⟨_, rfl⟩
          rw [ez1] at H1 hmx
          rw [ez2] at H2 hmx
          have hti : (t : Int) < (N : Int) := by omega
          have hnl : ¬ max z1 z2 < M := by omega
          clear ez1 ez2
          go_wp2_with (fail)
          refine H1.out.mono ?_
          rintro e w5 ⟨rfl, hg5⟩
          have HG5 := Lib.hid hg5
          clear hg5
          go_wp2_with (fail)
          refine (H2.out _ HG5.out).mono ?_
          rintro e w6 ⟨rfl, hg6⟩
          have HG6 : Hid (Grew w4 w6) := Lib.hid (HG.out.trans (HG5.out.trans hg6))
          clear hg6
          go_wp2
          go_roundw
          case rel => exact ⟨t + 1, by omega, by go_num, HG6.out⟩
          case measure => simp [intOf]; omega
        · obtain rfl : t = N := by omega
          have hcI := HG.out.cell HCI.out.1
          have hcK := HG.out.cell HCI.out.2
          have HP := Lib.hid (HPA.out K I wr.drew (HG4.out.trans HG.out.drew) hK hI)
          have hPM := HF2.out.1
          rw [hPM] at HP
          have HGF := Lib.hid (H3.out.2.trans (HG4.out.trans HG.out.drew))
          have eb : (M == M) = true := by simp
          have hmm : max x y ≤ M := by omega
          have d1 : decide (max x y ≤ M) = true := decide_eq_true hmm
          have HSS : Hid (∀ W W' : World, (W.cell? ⟨g4, I, none⟩ = some (.int .i64 x) ∧ W.cell? ⟨g4, K, none⟩ = some (.int .i64 y)) → Grew W W' → (W'.cell? ⟨g4, I, none⟩ = some (.int .i64 x) ∧ W'.cell? ⟨g4, K, none⟩ = some (.int .i64 y))) := Lib.hid fun W W' q g => ⟨g.cell q.1, g.cell q.2⟩
          by_cases hIK : I = K
          · subst hIK
            have hMx2 := HF2.out.2.1 rfl
            have ebx : (M == x) = true := by rw [hMx2]; simp
            have eb3 : ((I : Int) != (I : Int)) = false := by simp
            clear HG HF2 hPM
            go_wp2_with (fail)
            go_region_held3 (fun W => W.cell? ⟨g4, I, none⟩ = some (.int .i64 x) ∧ W.cell? ⟨g4, I, none⟩ = some (.int .i64 y))
              (first
                | exact ⟨hcI, hcK⟩
                | assumption
                | exact HSS.out _ _ (by assumption) hgw)
              (first
                | (go_at_call 21; refine HP.out.mono ?_; rintro e w10 ⟨rfl, hgw⟩))
            have HN := Lib.hid (HGF.out.trans hgw)
            clear hgw
            go_wp2
            go_ret
            exact ⟨ret_bool (by simp), HN.out⟩
          · have eb3 : ((I : Int) != (K : Int)) = true := by
              rw [bne_iff_ne]; omega
            clear HG HF2 hPM
            go_wp2_with (fail)
            refine wp_region_noPanic ?_
            refine wp_region_held_drew (S := fun W => W.cell? ⟨g4, I, none⟩ = some (.int .i64 x) ∧ W.cell? ⟨g4, K, none⟩ = some (.int .i64 y)) (by kernel_rfl) (by exact ⟨hcI, hcK⟩) (fun hHeld => ?_)
            refine wpAnyH_take (i := 0) (oi := { dst := some 57, op := Op.move (Operand.tmp 3), type := 23, pos := _, after := #[], guard := none }) (v := ?_) rfl (by kernel_rfl) (by kernel_rfl) (by kernel_rfl) (fun _ _ _ h => h) (Or.inl ⟨by rfl, ?hy⟩) (by assumption) ?_
            case hy => (intro w hSw; (try dsimp only at hSw); go_simp; try with_reducible rfl)
            try simp only [Act.put, List.setIfInBounds_toArray, List.set_cons_zero, List.set_cons_succ]
            refine wpAnyH_take (i := 1) (oi := { dst := some 58, op := Op.move (Operand.tmp 5), type := 3, pos := _, after := #[], guard := none }) (v := ?_) rfl (by kernel_rfl) (by kernel_rfl) (by kernel_rfl) (fun _ _ _ h => h) (Or.inl ⟨by rfl, ?hy⟩) (by assumption) ?_
            case hy => (intro w hSw; (try dsimp only at hSw); go_simp; try with_reducible rfl)
            try simp only [Act.put, List.setIfInBounds_toArray, List.set_cons_zero, List.set_cons_succ]
            refine wpAnyH_take (i := 2) (oi := { dst := some 59, op := Op.move (Operand.tmp 4), type := 3, pos := _, after := #[], guard := none }) (v := ?_) rfl (by kernel_rfl) (by kernel_rfl) (by kernel_rfl) (fun _ _ _ h => h) (Or.inl ⟨by rfl, ?hy⟩) (by assumption) ?_
            case hy => (intro w hSw; (try dsimp only at hSw); go_simp; try with_reducible rfl)
            try simp only [Act.put, List.setIfInBounds_toArray, List.set_cons_zero, List.set_cons_succ]
            refine wpAnyH_take (i := 4) (oi := { dst := some 61, op := Op.move (Operand.tmp 6), type := 3, pos := _, after := #[], guard := none }) (v := ?_) rfl (by kernel_rfl) (by kernel_rfl) (by kernel_rfl) (fun _ _ _ h => h) (Or.inl ⟨by rfl, ?hy⟩) (by assumption) ?_
            case hy => (intro w hSw; (try dsimp only at hSw); go_simp; try with_reducible rfl)
            try simp only [Act.put, List.setIfInBounds_toArray, List.set_cons_zero, List.set_cons_succ]
            refine wpAnyH_ready (rs := [3]) (by kernel_rfl) (by simp) ?_
            refine AllReadyH.cons (i := 3) (o := { dst := some 60, op := Op.call { callee := Callee.value (Operand.func 21), args := #[Operand.tmp 57, Operand.tmp 58, Operand.tmp 59], argTypes := #[23, 3, 3] }, type := 3, pos := _, after := #[{ on := 0, ground := Ground.data }, { on := 1, ground := Ground.data }, { on := 2, ground := Ground.data }], guard := none }) rfl (fun K hK => ?_) AllReadyH.nil
            go_simp
            go_at_call 21
            refine HP.out.mono ?_
            rintro e w10 ⟨rfl, hgw⟩
            refine hK.out _ _ (HSS.out _ _ (by assumption) hgw) (fun hHeld => ?_)
            clear hK K
            try simp only [Act.put, List.setIfInBounds_toArray, List.set_cons_zero, List.set_cons_succ]
            refine wpAnyH_take (i := 5) (oi := { dst := some 62, op := Op.binOp BinOp.eql 3 (Operand.tmp 60) (Operand.tmp 61) 3, type := 4, pos := _, after := #[{ on := 3, ground := Ground.data }, { on := 4, ground := Ground.data }], guard := none }) (v := ?_) rfl (by kernel_rfl) (by kernel_rfl) (by kernel_rfl) (fun _ _ _ h => h) (Or.inl ⟨by rfl, ?hy⟩) (by assumption) ?_
            case hy => (intro w hSw; (try dsimp only at hSw); go_simp; try with_reducible rfl)
            try simp only [Act.put, List.setIfInBounds_toArray, List.set_cons_zero, List.set_cons_succ]
            refine wpAnyH_take (i := 6) (oi := { dst := some 63, op := Op.move (Operand.tmp 62), type := 4, pos := _, after := #[{ on := 5, ground := Ground.data }, { on := 3, ground := Ground.chain }], guard := none }) (v := ?_) rfl (by kernel_rfl) (by kernel_rfl) (by kernel_rfl) (fun _ _ _ h => h) (Or.inl ⟨by rfl, ?hy⟩) (by assumption) ?_
            case hy => (intro w hSw; (try dsimp only at hSw); go_simp; try with_reducible rfl)
            try simp only [Act.put, List.setIfInBounds_toArray, List.set_cons_zero, List.set_cons_succ]
            refine wpAnyH_take (i := 7) (oi := { dst := some 64, op := Op.move (Operand.tmp 6), type := 3, pos := _, after := #[{ on := 6, ground := Ground.guard }], guard := some (6, true) }) (v := ?_) rfl (by kernel_rfl) (by kernel_rfl) (by kernel_rfl) (fun _ _ _ h => h) (Or.inl ⟨by rfl, ?hy⟩) (by assumption) ?_
            case hy => (intro w hSw; (try dsimp only at hSw); go_simp; try with_reducible rfl)
            try simp only [Act.put, List.setIfInBounds_toArray, List.set_cons_zero, List.set_cons_succ]
            refine wpAnyH_take (i := 8) (oi := { dst := some 65, op := Op.move (Operand.tmp 7), type := 28, pos := _, after := #[{ on := 6, ground := Ground.guard }], guard := some (6, true) }) (v := ?_) rfl (by kernel_rfl) (by kernel_rfl) (by kernel_rfl) (fun _ _ _ h => h) (Or.inl ⟨by rfl, ?hy⟩) (by assumption) ?_
            case hy => (intro w hSw; (try dsimp only at hSw); go_simp; try with_reducible rfl)
            try simp only [Act.put, List.setIfInBounds_toArray, List.set_cons_zero, List.set_cons_succ]
            refine wpAnyH_take (i := 9) (oi := { dst := some 66, op := Op.move (Operand.tmp 4), type := 3, pos := _, after := #[{ on := 6, ground := Ground.guard }], guard := some (6, true) }) (v := ?_) rfl (by kernel_rfl) (by kernel_rfl) (by kernel_rfl) (fun _ _ _ h => h) (Or.inl ⟨by rfl, ?hy⟩) (by assumption) ?_
            case hy => (intro w hSw; (try dsimp only at hSw); go_simp; try with_reducible rfl)
            try simp only [Act.put, List.setIfInBounds_toArray, List.set_cons_zero, List.set_cons_succ]
            refine wpAnyH_take (i := 10) (oi := { dst := some 67, op := Op.indexAddr 28 (Operand.tmp 65) (Operand.tmp 66), type := 0, pos := _, after := #[{ on := 8, ground := Ground.data }, { on := 9, ground := Ground.data }, { on := 6, ground := Ground.guard }], guard := some (6, true) }) (v := ?_) rfl (by kernel_rfl) (by kernel_rfl) (by kernel_rfl) (fun _ _ _ h => h) (Or.inl ⟨by rfl, ?hy⟩) (by assumption) ?_
            case hy => (intro w hSw; (try dsimp only at hSw); go_simp; try with_reducible rfl)
            try simp only [Act.put, List.setIfInBounds_toArray, List.set_cons_zero, List.set_cons_succ]
            refine wpAnyH_take (i := 11) (oi := { dst := some 68, op := Op.load 3 (Operand.tmp 67), type := 3, pos := _, after := #[{ on := 10, ground := Ground.data }, { on := 6, ground := Ground.guard }], guard := some (6, true) }) (v := ?_) rfl (by kernel_rfl) (by kernel_rfl) (by kernel_rfl) (fun _ _ _ h => h) (Or.inl ⟨by rfl, ?hy⟩) (by assumption) ?_
            case hy => (intro w hSw; (try dsimp only at hSw); go_simp; try with_reducible rfl)
            try simp only [Act.put, List.setIfInBounds_toArray, List.set_cons_zero, List.set_cons_succ]
            refine wpAnyH_take (i := 12) (oi := { dst := some 69, op := Op.move (Operand.tmp 7), type := 28, pos := _, after := #[{ on := 6, ground := Ground.guard }], guard := some (6, true) }) (v := ?_) rfl (by kernel_rfl) (by kernel_rfl) (by kernel_rfl) (fun _ _ _ h => h) (Or.inl ⟨by rfl, ?hy⟩) (by assumption) ?_
            case hy => (intro w hSw; (try dsimp only at hSw); go_simp; try with_reducible rfl)
            try simp only [Act.put, List.setIfInBounds_toArray, List.set_cons_zero, List.set_cons_succ]
            refine wpAnyH_take (i := 13) (oi := { dst := some 70, op := Op.move (Operand.tmp 5), type := 3, pos := _, after := #[{ on := 6, ground := Ground.guard }], guard := some (6, true) }) (v := ?_) rfl (by kernel_rfl) (by kernel_rfl) (by kernel_rfl) (fun _ _ _ h => h) (Or.inl ⟨by rfl, ?hy⟩) (by assumption) ?_
            case hy => (intro w hSw; (try dsimp only at hSw); go_simp; try with_reducible rfl)
            try simp only [Act.put, List.setIfInBounds_toArray, List.set_cons_zero, List.set_cons_succ]
            refine wpAnyH_take (i := 14) (oi := { dst := some 71, op := Op.indexAddr 28 (Operand.tmp 69) (Operand.tmp 70), type := 0, pos := _, after := #[{ on := 12, ground := Ground.data }, { on := 13, ground := Ground.data }, { on := 6, ground := Ground.guard }], guard := some (6, true) }) (v := ?_) rfl (by kernel_rfl) (by kernel_rfl) (by kernel_rfl) (fun _ _ _ h => h) (Or.inl ⟨by rfl, ?hy⟩) (by assumption) ?_
            case hy => (intro w hSw; (try dsimp only at hSw); go_simp; try with_reducible rfl)
            try simp only [Act.put, List.setIfInBounds_toArray, List.set_cons_zero, List.set_cons_succ]
            refine wpAnyH_take (i := 15) (oi := { dst := some 72, op := Op.load 3 (Operand.tmp 71), type := 3, pos := _, after := #[{ on := 14, ground := Ground.data }, { on := 6, ground := Ground.guard }], guard := some (6, true) }) (v := ?_) rfl (by kernel_rfl) (by kernel_rfl) (by kernel_rfl) (fun _ _ _ h => h) (Or.inl ⟨by rfl, ?hy⟩) (by assumption) ?_
            case hy => (intro w hSw; (try dsimp only at hSw); go_simp; try with_reducible rfl)
            try simp only [Act.put, List.setIfInBounds_toArray, List.set_cons_zero, List.set_cons_succ]
            refine wpAnyH_ready (rs := [16]) (by kernel_rfl) (by simp) ?_
            refine AllReadyH.cons (i := 16) (o := { dst := some 73, op := Op.call { callee := Callee.builtin Builtin.max, args := #[Operand.tmp 68, Operand.tmp 72], argTypes := #[3, 3] }, type := 3, pos := _, after := #[{ on := 11, ground := Ground.data }, { on := 15, ground := Ground.data }, { on := 6, ground := Ground.guard }], guard := some (6, true) }) rfl (fun K hK => ?_) AllReadyH.nil
            go_simp
            refine hK.out _ _ (by assumption) (fun hHeld => ?_)
            clear hK K
            try simp only [Act.put, List.setIfInBounds_toArray, List.set_cons_zero, List.set_cons_succ]
            refine wpAnyH_take (i := 17) (oi := { dst := some 74, op := Op.binOp BinOp.geq 3 (Operand.tmp 64) (Operand.tmp 73) 3, type := 4, pos := _, after := #[{ on := 7, ground := Ground.data }, { on := 16, ground := Ground.data }, { on := 6, ground := Ground.guard }], guard := some (6, true) }) (v := ?_) rfl (by kernel_rfl) (by kernel_rfl) (by kernel_rfl) (fun _ _ _ h => h) (Or.inl ⟨by rfl, ?hy⟩) (by assumption) ?_
            case hy => (intro w hSw; (try dsimp only at hSw); go_simp; try with_reducible rfl)
            try simp only [Act.put, List.setIfInBounds_toArray, List.set_cons_zero, List.set_cons_succ]
            refine wpAnyH_take (i := 18) (oi := { dst := some 75, op := Op.pick (Operand.tmp 63) (Operand.tmp 74) (Operand.const (Value.bool false)), type := 4, pos := _, after := #[{ on := 6, ground := Ground.data }, { on := 17, ground := Ground.data }], guard := none }) (v := ?_) rfl (by kernel_rfl) (by kernel_rfl) (by kernel_rfl) (fun _ _ _ h => h) (Or.inl ⟨by rfl, ?hy⟩) (by assumption) ?_
            case hy => (intro w hSw; (try dsimp only at hSw); go_simp; try with_reducible rfl)
            try simp only [Act.put, List.setIfInBounds_toArray, List.set_cons_zero, List.set_cons_succ]
            refine wpAnyH_take (i := 19) (oi := { dst := some 76, op := Op.move (Operand.tmp 75), type := 4, pos := _, after := #[{ on := 18, ground := Ground.data }, { on := 6, ground := Ground.chain }], guard := none }) (v := ?_) rfl (by kernel_rfl) (by kernel_rfl) (by kernel_rfl) (fun _ _ _ h => h) (Or.inl ⟨by rfl, ?hy⟩) (by assumption) ?_
            case hy => (intro w hSw; (try dsimp only at hSw); go_simp; try with_reducible rfl)
            try simp only [Act.put, List.setIfInBounds_toArray, List.set_cons_zero, List.set_cons_succ]
            refine wpAnyH_take (i := 20) (oi := { dst := some 77, op := Op.move (Operand.tmp 4), type := 3, pos := _, after := #[{ on := 19, ground := Ground.guard }], guard := some (19, true) }) (v := ?_) rfl (by kernel_rfl) (by kernel_rfl) (by kernel_rfl) (fun _ _ _ h => h) (Or.inl ⟨by rfl, ?hy⟩) (by assumption) ?_
            case hy => (intro w hSw; (try dsimp only at hSw); go_simp; try with_reducible rfl)
            try simp only [Act.put, List.setIfInBounds_toArray, List.set_cons_zero, List.set_cons_succ]
            refine wpAnyH_take (i := 21) (oi := { dst := some 78, op := Op.move (Operand.tmp 5), type := 3, pos := _, after := #[{ on := 19, ground := Ground.guard }], guard := some (19, true) }) (v := ?_) rfl (by kernel_rfl) (by kernel_rfl) (by kernel_rfl) (fun _ _ _ h => h) (Or.inl ⟨by rfl, ?hy⟩) (by assumption) ?_
            case hy => (intro w hSw; (try dsimp only at hSw); go_simp; try with_reducible rfl)
            try simp only [Act.put, List.setIfInBounds_toArray, List.set_cons_zero, List.set_cons_succ]
            refine wpAnyH_take (i := 22) (oi := { dst := some 79, op := Op.binOp BinOp.neq 3 (Operand.tmp 77) (Operand.tmp 78) 3, type := 4, pos := _, after := #[{ on := 20, ground := Ground.data }, { on := 21, ground := Ground.data }, { on := 19, ground := Ground.guard }], guard := some (19, true) }) (v := ?_) rfl (by kernel_rfl) (by kernel_rfl) (by kernel_rfl) (fun _ _ _ h => h) (Or.inl ⟨by rfl, ?hy⟩) (by assumption) ?_
            case hy => (intro w hSw; (try dsimp only at hSw); go_simp; try with_reducible rfl)
            try simp only [Act.put, List.setIfInBounds_toArray, List.set_cons_zero, List.set_cons_succ]
            refine wpAnyH_take (i := 23) (oi := { dst := some 80, op := Op.move (Operand.tmp 79), type := 4, pos := _, after := #[{ on := 22, ground := Ground.data }, { on := 19, ground := Ground.chain }, { on := 19, ground := Ground.guard }], guard := some (19, true) }) (v := ?_) rfl (by kernel_rfl) (by kernel_rfl) (by kernel_rfl) (fun _ _ _ h => h) (Or.inl ⟨by rfl, ?hy⟩) (by assumption) ?_
            case hy => (intro w hSw; (try dsimp only at hSw); go_simp; try with_reducible rfl)
            try simp only [Act.put, List.setIfInBounds_toArray, List.set_cons_zero, List.set_cons_succ]
            refine wpAnyH_take (i := 24) (oi := { dst := some 81, op := Op.move (Operand.tmp 6), type := 3, pos := _, after := #[{ on := 23, ground := Ground.guard }], guard := some (23, false) }) (v := undef) rfl (by kernel_rfl) (by kernel_rfl) (by kernel_rfl) (fun _ _ _ h => h) (Or.inr ⟨by rfl, rfl⟩) (by assumption) ?_
            try simp only [Act.put, List.setIfInBounds_toArray, List.set_cons_zero, List.set_cons_succ]
            refine wpAnyH_take (i := 25) (oi := { dst := some 82, op := Op.move (Operand.tmp 7), type := 28, pos := _, after := #[{ on := 23, ground := Ground.guard }], guard := some (23, false) }) (v := undef) rfl (by kernel_rfl) (by kernel_rfl) (by kernel_rfl) (fun _ _ _ h => h) (Or.inr ⟨by rfl, rfl⟩) (by assumption) ?_
            try simp only [Act.put, List.setIfInBounds_toArray, List.set_cons_zero, List.set_cons_succ]
            refine wpAnyH_take (i := 26) (oi := { dst := some 83, op := Op.move (Operand.tmp 4), type := 3, pos := _, after := #[{ on := 23, ground := Ground.guard }], guard := some (23, false) }) (v := undef) rfl (by kernel_rfl) (by kernel_rfl) (by kernel_rfl) (fun _ _ _ h => h) (Or.inr ⟨by rfl, rfl⟩) (by assumption) ?_
            try simp only [Act.put, List.setIfInBounds_toArray, List.set_cons_zero, List.set_cons_succ]
            refine wpAnyH_take (i := 27) (oi := { dst := some 84, op := Op.indexAddr 28 (Operand.tmp 82) (Operand.tmp 83), type := 0, pos := _, after := #[{ on := 25, ground := Ground.data }, { on := 26, ground := Ground.data }, { on := 23, ground := Ground.guard }], guard := some (23, false) }) (v := undef) rfl (by kernel_rfl) (by kernel_rfl) (by kernel_rfl) (fun _ _ _ h => h) (Or.inr ⟨by rfl, rfl⟩) (by assumption) ?_
            try simp only [Act.put, List.setIfInBounds_toArray, List.set_cons_zero, List.set_cons_succ]
            refine wpAnyH_take (i := 28) (oi := { dst := some 85, op := Op.load 3 (Operand.tmp 84), type := 3, pos := _, after := #[{ on := 27, ground := Ground.data }, { on := 23, ground := Ground.guard }], guard := some (23, false) }) (v := undef) rfl (by kernel_rfl) (by kernel_rfl) (by kernel_rfl) (fun _ _ _ h => h) (Or.inr ⟨by rfl, rfl⟩) (by assumption) ?_
            try simp only [Act.put, List.setIfInBounds_toArray, List.set_cons_zero, List.set_cons_succ]
            refine wpAnyH_take (i := 29) (oi := { dst := some 86, op := Op.binOp BinOp.eql 3 (Operand.tmp 81) (Operand.tmp 85) 3, type := 4, pos := _, after := #[{ on := 24, ground := Ground.data }, { on := 28, ground := Ground.data }, { on := 23, ground := Ground.guard }], guard := some (23, false) }) (v := undef) rfl (by kernel_rfl) (by kernel_rfl) (by kernel_rfl) (fun _ _ _ h => h) (Or.inr ⟨by rfl, rfl⟩) (by assumption) ?_
            try simp only [Act.put, List.setIfInBounds_toArray, List.set_cons_zero, List.set_cons_succ]
            refine wpAnyH_take (i := 30) (oi := { dst := some 87, op := Op.pick (Operand.tmp 80) (Operand.const (Value.bool true)) (Operand.tmp 86), type := 4, pos := _, after := #[{ on := 23, ground := Ground.data }, { on := 29, ground := Ground.data }, { on := 19, ground := Ground.guard }], guard := some (19, true) }) (v := ?_) rfl (by kernel_rfl) (by kernel_rfl) (by kernel_rfl) (fun _ _ _ h => h) (Or.inl ⟨by rfl, ?hy⟩) (by assumption) ?_
            case hy => (intro w hSw; (try dsimp only at hSw); go_simp; try with_reducible rfl)
            try simp only [Act.put, List.setIfInBounds_toArray, List.set_cons_zero, List.set_cons_succ]
            refine wpAnyH_take (i := 31) (oi := { dst := some 88, op := Op.pick (Operand.tmp 76) (Operand.tmp 87) (Operand.const (Value.bool false)), type := 4, pos := _, after := #[{ on := 19, ground := Ground.data }, { on := 30, ground := Ground.data }], guard := none }) (v := ?_) rfl (by kernel_rfl) (by kernel_rfl) (by kernel_rfl) (fun _ _ _ h => h) (Or.inl ⟨by rfl, ?hy⟩) (by assumption) ?_
            case hy => (intro w hSw; (try dsimp only at hSw); go_simp; try with_reducible rfl)
            try simp only [Act.put, List.setIfInBounds_toArray, List.set_cons_zero, List.set_cons_succ]
            refine wpAnyH_take (i := 32) (oi := { dst := some 2, op := Op.assign (Operand.tmp 88), type := 4, pos := _, after := #[{ on := 31, ground := Ground.data }, { on := 23, ground := Ground.chain }, { on := 0, ground := Ground.phase }, { on := 1, ground := Ground.phase }, { on := 2, ground := Ground.phase }, { on := 3, ground := Ground.phase }, { on := 4, ground := Ground.phase }, { on := 5, ground := Ground.phase }, { on := 6, ground := Ground.phase }, { on := 7, ground := Ground.phase }, { on := 8, ground := Ground.phase }, { on := 9, ground := Ground.phase }, { on := 10, ground := Ground.phase }, { on := 11, ground := Ground.phase }, { on := 12, ground := Ground.phase }, { on := 13, ground := Ground.phase }, { on := 14, ground := Ground.phase }, { on := 15, ground := Ground.phase }, { on := 16, ground := Ground.phase }, { on := 17, ground := Ground.phase }, { on := 18, ground := Ground.phase }, { on := 19, ground := Ground.phase }, { on := 20, ground := Ground.phase }, { on := 21, ground := Ground.phase }, { on := 22, ground := Ground.phase }, { on := 23, ground := Ground.phase }, { on := 24, ground := Ground.phase }, { on := 25, ground := Ground.phase }, { on := 26, ground := Ground.phase }, { on := 27, ground := Ground.phase }, { on := 28, ground := Ground.phase }, { on := 29, ground := Ground.phase }, { on := 30, ground := Ground.phase }, { on := 31, ground := Ground.phase }], guard := none }) (v := ?_) rfl (by kernel_rfl) (by kernel_rfl) (by kernel_rfl) (fun _ _ _ h => h) (Or.inl ⟨by rfl, ?hy⟩) (by assumption) ?_
            case hy => (intro w hSw; (try dsimp only at hSw); go_simp; try with_reducible rfl)
            try simp only [Act.put, List.setIfInBounds_toArray, List.set_cons_zero, List.set_cons_succ]
            refine wpAnyH_done (by kernel_rfl) ?_ _
            refine NoPanic.normal ?_
            all_goals
              have HN := Lib.hid (HGF.out.trans hgw)
              clear hgw
              go_wp2
              go_ret
              exact ⟨ret_bool (by simp), HN.out⟩
end Go.Proofs.YtkhgcfchaogccaaDoor
