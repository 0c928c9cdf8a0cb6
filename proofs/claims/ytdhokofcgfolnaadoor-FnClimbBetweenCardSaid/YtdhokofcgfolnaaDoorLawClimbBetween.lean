/- The law FnClimbBetween returns true. -/
import Derived.Test.YtdhokofcgfolnaaDoorWayLaw
import Derived.Test.YtdhokofcgfolnaaDoorSClimbB
import Derived.Test.YtdhokofcgfolnaaDoorDraws4
import Derived.Test.YtdhokofcgfolnaaDoorRowOf
import Derived.Test.YtdhokofcgfolnaaDoorHeldMono
namespace Go.Proofs.YtdhokofcgfolnaaDoor
open Go.RowKit

theorem grid_small4 {h : List (List Int)} {m : Nat} (G : Grid h m) : h.length ≤ 1000 ∧ ∀ r, r < h.length → 1 ≤ (h.getD r []).length ∧ (h.getD r []).length ≤ 1000 :=
  ⟨by have := G.n5; omega, fun r hr => by have := G.len r hr; have := G.m1; have := G.m5; omega⟩

set_option maxRecDepth 100000 in
set_option maxHeartbeats 8000000 in
theorem FnClimbBetween_any (v : Value) (bs : List Int) (w : World) (hv : NumsV .u8 w v bs) (hb : ∀ i, i < bs.length → 0 ≤ bs.getD i 0 ∧ bs.getD i 0 ≤ 255) (hS : Steps w) :
    Calls Tryd.prog 3 #[v] w fun e w' => e = .returned (.bool true) ∧ Grew w w' := by
  have HD := Lib.hid (DrawClimbBetween_any v bs w hv hb)
  have HS := Lib.hid hS
  obtain ⟨a, b, o, c, rfl, ⟨hlc, hcb⟩, _, _⟩ := hv.shape
  clear hv hb hS
  by_cases hbig : 1048576 < bs.length
  · go_enter Tryd.func3, Tryd.ntmps3
    go_wp2
    go_ret
    exact ⟨rfl, Grew.refl _⟩
  · go_enter Tryd.func3, Tryd.ntmps3
    go_wp2_with (fail)
    refine HD.out.mono ?_
    rintro e w1 ⟨v1, H, i, k, rfl, hO, hd, hg1⟩
    have HV := Lib.hid (And.intro hO.toV hg1)
    obtain ⟨a1, c1, rfl⟩ := hO.sh
    obtain ⟨M, eM⟩ : ∃ M, wayV upF H i k = M := ⟨_, rfl⟩
    have HM := Lib.hid eM
    have ebb : (M != M) = false := by simp
    clear hO hd hg1 HD
    go_wp2_with (fail)
    refine (ClimbBetween_any _ H i k _ HV.out.1 (HS.out.grew HV.out.2)).mono ?_
    rw [eM]
    rintro e w2 ⟨rfl, hg2⟩
    have H2 := Lib.hid (And.intro (HV.out.1.grew hg2) (HV.out.2.trans hg2))
    clear hg2
    go_wp2_with (fail)
    refine (SClimbBetween_any _ H i k _ H2.out.1).mono ?_
    rw [eM]
    rintro e w3 ⟨rfl, hg3⟩
    have H3 := Lib.hid (And.intro (H2.out.1.grew hg3) (H2.out.2.trans hg3))
    clear hg3 H2 HV eM
    cases hc : vCell H i && vCell H k with
    | false =>
      have eM0 : M = -1 := by rw [← HM.out, wayV_no hc]
      subst eM0
      clear hc
      go_wp2_with (fail)
      refine (SClimbBetween_any _ H i k _ H3.out.1).mono ?_
      rw [HM.out]
      rintro e w5 ⟨rfl, hg5⟩
      have H5 := Lib.hid (H3.out.2.trans hg5)
      clear hg5
      go_wp2
      go_ret
      exact ⟨rfl, H5.out⟩
    | true =>
      obtain ⟨hci, hck⟩ := (Bool.and_eq_true _ _ ▸ hc : _ ∧ _)
      obtain ⟨hvg, h0, hI, _⟩ := vCell_yes hci
      obtain ⟨_, k0, hK, _⟩ := vCell_yes hck
      obtain ⟨I, rfl⟩ := Int.eq_ofNat_of_zero_le h0
      obtain ⟨K, rfl⟩ := Int.eq_ofNat_of_zero_le k0
      rw [Int.toNat_natCast] at hI hK
      have G := Grid.of hvg
      obtain ⟨n, en⟩ : ∃ n, H.length = n := ⟨_, rfl⟩
      obtain ⟨m, em⟩ : ∃ m, (H.getD 0 []).length = m := ⟨_, rfl⟩
      obtain ⟨N, eN⟩ : ∃ N, n * m = N := ⟨_, rfl⟩
      have hn5 := G.n5
      have hm5 := G.m5
      have hgs := grid_small4 G
      rw [en] at hn5 hI hK
      rw [em] at hm5 hI hK
      rw [eN] at hI hK
      have hN25 : N ≤ 25 := by rw [← eN]; exact Nat.mul_le_mul hn5 hm5
      have hpn : ∀ i, i < n * m → 0 ≤ H.flatten.getD i 0 ∧ H.flatten.getD i 0 ≤ 12 := fun i hi => grid_num G i (by rw [en, em]; exact hi)
      have hpl := flat_grid_len G
      rw [en, em, eN] at hpl
      have hvc : ∀ x : Nat, x < N → vCell H (x : Int) = true := fun x hx => by
        rw [vCell, hvg, Bool.true_and, Bool.and_eq_true, decide_eq_true_eq, decide_eq_true_eq]
        have : ((n * m : Nat) : Int) = (n : Int) * m := by simp
        rw [en, em]
        omega
      have HPA : Hid (∀ (x y : Nat) W, Grew w3 W → x < N → y < N → Calls Tryd.prog 16 #[.slice a1 H.length c1, .int .i64 x, .int .i64 y] W fun e w' => e = .returned (.int .i64 (climbN n m H.flatten x y)) ∧ Grew W w') := Lib.hid fun x y W hW hx hy => by
        have := ClimbBetween_any _ H (x : Int) (y : Int) W (H3.out.1.grew hW) (HS.out.grew (H3.out.2.trans hW))
        rw [wayV_yes en em eN (hvc x hx) (hvc y hy)] at this
        rwa [climbN, eN]
      have HRH := Lib.hid fun W (hW : Grew w3 W) => rowOf_any _ H W (H3.out.1.grew hW) hgs.1 hgs.2
      have hMp : M = climbN n m H.flatten I K := by rw [← HM.out, wayV_yes en em eN hci hck, climbN, eN]
      have HF : Hid (climbN n m H.flatten K I = M - (H.flatten.getD K 0 - H.flatten.getD I 0) ∧ climbN n m H.flatten I I = 0 ∧ ∀ x, x < N → M ≤ climbN n m H.flatten I x + climbN n m H.flatten x K) := by
        rw [hMp]
        exact Lib.hid ⟨climbN_back hn5 hm5 hpn (by omega) (by omega), climbN_self hn5 hm5 hpn (by omega), fun x hx => climbN_tri hn5 hm5 hpn (by omega) (by omega) (by omega)⟩
      have HUP : Hid (∀ x y, x < N → y < N → 0 ≤ climbN n m H.flatten x y ∧ climbN n m H.flatten x y ≤ 300) := Lib.hid fun x y hx hy => ⟨(climbN_walk hn5 hm5 hpn (by omega) (by omega)).1, climbN_up hn5 hm5 hpn (by omega)⟩
      have hM0 : ¬ M < 0 := by have := (HUP.out I K hI hK).1; omega
      have hM1 : M ≤ 300 := by have := (HUP.out I K hI hK).2; omega
      have HPB : Hid (∀ i, i < N → 0 ≤ H.flatten.getD i 0 ∧ H.flatten.getD i 0 ≤ 12) := Lib.hid fun i hi => hpn i (by omega)
      obtain ⟨p, ep⟩ : ∃ p, H.flatten = p := ⟨_, rfl⟩
      rw [ep] at HPA HRH HF hpl HUP HPB
      have HPL := Lib.hid hpl
      have hIi : (I : Int) < (N : Int) := by omega
      have hKi : (K : Int) < (N : Int) := by omega
      clear hc hci hck hvg h0 k0 G en em eN hn5 hm5 hgs hpn hpl hvc hMp ep HM
      go_wp2_with (fail)
      refine (HRH.out _ (Grew.refl _)).mono ?_
      rintro e w4 ⟨g4, c4, rfl, hO4, hg4⟩
      rw [HPL.out] at hO4 ⊢
      have hcI := (hO4.at rfl (i := I) (by rw [HPL.out]; exact hI)).1
      have hcK := (hO4.at rfl (i := K) (by rw [HPL.out]; exact hK)).1
      have hxb := HPB.out I hI
      have hyb := HPB.out K hK
      have HTRI := Lib.hid HF.out.2.2
      have hKI := HF.out.1
      have HII0 := Lib.hid HF.out.2.1
      obtain ⟨x, ex⟩ : ∃ x, p.getD I 0 = x := ⟨_, rfl⟩
      obtain ⟨y, ey⟩ : ∃ y, p.getD K 0 = y := ⟨_, rfl⟩
      rw [ex] at hcI hxb hKI
      rw [ey] at hcK hyb hKI
      have HKI0 := Lib.hid hKI
      obtain ⟨hx0, hx1⟩ := hxb
      obtain ⟨hy0, hy1⟩ := hyb
      have HG4 : Hid (Grew w3 w4) := Lib.hid hg4
      have HCI := Lib.hid (And.intro hcI hcK)
      clear hO4 hg4 HF hcI hcK ex ey hKI
      go_wp2
      go_loopw [8] (fun i wr => ∃ t : Nat, t ≤ N + 2 ∧ i = .int .i64 (t : Int) ∧ Hid (Grew w4 wr)) (fun i _ => N + 3 - (intOf i).toNat)
      case atStart => exact ⟨0, by omega, rfl, Grew.refl _⟩
      case round =>
        obtain ⟨t, ht, rfl, HG⟩ := hrel
        by_cases hlt : t < N
        · have H1 := Lib.hid (HPA.out I t wr (HG4.out.trans HG.out) hI hlt)
          have H2 := Lib.hid fun W (hW : Grew wr W) => HPA.out t K W (HG4.out.trans (HG.out.trans hW)) hlt hK
          have hmx := HTRI.out t hlt
          have hz1 := HUP.out I t hI hlt
          have hz2 := HUP.out t K hlt hK
          obtain ⟨z1, ez1⟩ : ∃ z1, climbN n m p I t = z1 := ⟨_, rfl⟩
          obtain ⟨z2, ez2⟩ : ∃ z2, climbN n m p t K = z2 := ⟨_, rfl⟩
          rw [ez1] at H1 hmx hz1
          rw [ez2] at H2 hmx hz2
          obtain ⟨z10, z11⟩ := hz1
          obtain ⟨z20, z21⟩ := hz2
          have hti : (t : Int) < (N : Int) := by omega
          have hnl : ¬ z1 + z2 < M := by omega
          clear ez1 ez2
          go_wp2_with (fail)
          refine H1.out.mono ?_
          rintro e w5 ⟨rfl, hg5⟩
          have HG5 := Lib.hid hg5
          clear hg5
          go_wp2_with (fail)
          refine (H2.out _ HG5.out).mono ?_
          rintro e w6 ⟨rfl, hg6⟩
          have HG6 : Hid (Grew w4 w6) := Lib.hid (HG.out.trans (HG5.out.trans hg6))
          clear hg6
          go_wp2
          go_roundw
          case rel => exact ⟨t + 3, by omega, by go_num, HG6.out⟩
          case measure => simp [intOf]; omega
        · have hti : ¬ (t : Int) < (N : Int) := by omega
          have hcI := HG.out.cell HCI.out.1
          have hcK := HG.out.cell HCI.out.2
          have HKI := Lib.hid fun W (hW : Grew w4 W) => HPA.out K I W (HG4.out.trans hW) hK hI
          have HII := Lib.hid fun W (hW : Grew w4 W) => HPA.out I I W (HG4.out.trans hW) hI hI
          simp only [HII0.out] at HII
          have hzb := HUP.out K I hK hI
          have hzz := HKI0.out
          obtain ⟨z, ez⟩ : ∃ z, climbN n m p K I = z := ⟨_, rfl⟩
          simp only [ez] at HKI
          rw [ez] at hzb hzz
          obtain ⟨hz0, hz1⟩ := hzb
          have HEB : Hid (M - z = y - x) := Lib.hid (by omega)
          clear ez hzz
          go_wp2_with (fail)
          refine wp_region_noPanic ?_
          refine wp_region_held_drew (S := fun W => W.cell? ⟨g4, K, none⟩ = some (.int .i64 y) ∧ W.cell? ⟨g4, I, none⟩ = some (.int .i64 x) ∧ Grew w4 W) (by kernel_rfl) (by exact ⟨(Grew.drew (Grew.refl wr)).cell hcK, (Grew.drew (Grew.refl wr)).cell hcI, HG.out.drew⟩) (fun hHeld => ?_)
          refine wpAnyH_take (i := 0) (oi := { dst := some 57, op := Op.move (Operand.tmp 6), type := 3, pos := _, after := #[], guard := none }) (v := ?_) rfl (by kernel_rfl) (by kernel_rfl) (by kernel_rfl) (fun _ _ _ h => h) (Or.inl ⟨by rfl, ?hy⟩) (by assumption) ?_
          case hy => (intro w hSw; (try dsimp only at hSw); go_simp; try with_reducible rfl)
          try simp only [Act.put, List.setIfInBounds_toArray, List.set_cons_zero, List.set_cons_succ]
          refine wpAnyH_take (i := 1) (oi := { dst := some 58, op := Op.move (Operand.tmp 3), type := 23, pos := _, after := #[], guard := none }) (v := ?_) rfl (by kernel_rfl) (by kernel_rfl) (by kernel_rfl) (fun _ _ _ h => h) (Or.inl ⟨by rfl, ?hy⟩) (by assumption) ?_
          case hy => (intro w hSw; (try dsimp only at hSw); go_simp; try with_reducible rfl)
          try simp only [Act.put, List.setIfInBounds_toArray, List.set_cons_zero, List.set_cons_succ]
          refine wpAnyH_take (i := 2) (oi := { dst := some 59, op := Op.move (Operand.tmp 5), type := 3, pos := _, after := #[], guard := none }) (v := ?_) rfl (by kernel_rfl) (by kernel_rfl) (by kernel_rfl) (fun _ _ _ h => h) (Or.inl ⟨by rfl, ?hy⟩) (by assumption) ?_
          case hy => (intro w hSw; (try dsimp only at hSw); go_simp; try with_reducible rfl)
          try simp only [Act.put, List.setIfInBounds_toArray, List.set_cons_zero, List.set_cons_succ]
          refine wpAnyH_take (i := 3) (oi := { dst := some 60, op := Op.move (Operand.tmp 4), type := 3, pos := _, after := #[], guard := none }) (v := ?_) rfl (by kernel_rfl) (by kernel_rfl) (by kernel_rfl) (fun _ _ _ h => h) (Or.inl ⟨by rfl, ?hy⟩) (by assumption) ?_
          case hy => (intro w hSw; (try dsimp only at hSw); go_simp; try with_reducible rfl)
          try simp only [Act.put, List.setIfInBounds_toArray, List.set_cons_zero, List.set_cons_succ]
          refine wpAnyH_take (i := 6) (oi := { dst := some 63, op := Op.move (Operand.tmp 7), type := 27, pos := _, after := #[], guard := none }) (v := ?_) rfl (by kernel_rfl) (by kernel_rfl) (by kernel_rfl) (fun _ _ _ h => h) (Or.inl ⟨by rfl, ?hy⟩) (by assumption) ?_
          case hy => (intro w hSw; (try dsimp only at hSw); go_simp; try with_reducible rfl)
          try simp only [Act.put, List.setIfInBounds_toArray, List.set_cons_zero, List.set_cons_succ]
          refine wpAnyH_take (i := 7) (oi := { dst := some 64, op := Op.move (Operand.tmp 5), type := 3, pos := _, after := #[], guard := none }) (v := ?_) rfl (by kernel_rfl) (by kernel_rfl) (by kernel_rfl) (fun _ _ _ h => h) (Or.inl ⟨by rfl, ?hy⟩) (by assumption) ?_
          case hy => (intro w hSw; (try dsimp only at hSw); go_simp; try with_reducible rfl)
          try simp only [Act.put, List.setIfInBounds_toArray, List.set_cons_zero, List.set_cons_succ]
          refine wpAnyH_take (i := 8) (oi := { dst := some 65, op := Op.indexAddr 27 (Operand.tmp 63) (Operand.tmp 64), type := 0, pos := _, after := #[{ on := 6, ground := Ground.data }, { on := 7, ground := Ground.data }], guard := none }) (v := ?_) rfl (by kernel_rfl) (by kernel_rfl) (by kernel_rfl) (fun _ _ _ h => h) (Or.inl ⟨by rfl, ?hy⟩) (by assumption) ?_
          case hy => (intro w hSw; (try dsimp only at hSw); go_simp; try with_reducible rfl)
          try simp only [Act.put, List.setIfInBounds_toArray, List.set_cons_zero, List.set_cons_succ]
          refine wpAnyH_take (i := 9) (oi := { dst := some 66, op := Op.load 3 (Operand.tmp 65), type := 3, pos := _, after := #[{ on := 8, ground := Ground.data }], guard := none }) (v := ?_) rfl (by kernel_rfl) (by kernel_rfl) (by kernel_rfl) (fun _ _ _ h => h) (Or.inl ⟨by rfl, ?hy⟩) (by assumption) ?_
          case hy => (intro w hSw; (try dsimp only at hSw); go_simp; try with_reducible rfl)
          try simp only [Act.put, List.setIfInBounds_toArray, List.set_cons_zero, List.set_cons_succ]
          refine wpAnyH_take (i := 10) (oi := { dst := some 67, op := Op.move (Operand.tmp 7), type := 27, pos := _, after := #[], guard := none }) (v := ?_) rfl (by kernel_rfl) (by kernel_rfl) (by kernel_rfl) (fun _ _ _ h => h) (Or.inl ⟨by rfl, ?hy⟩) (by assumption) ?_
          case hy => (intro w hSw; (try dsimp only at hSw); go_simp; try with_reducible rfl)
          try simp only [Act.put, List.setIfInBounds_toArray, List.set_cons_zero, List.set_cons_succ]
          refine wpAnyH_take (i := 11) (oi := { dst := some 68, op := Op.move (Operand.tmp 4), type := 3, pos := _, after := #[], guard := none }) (v := ?_) rfl (by kernel_rfl) (by kernel_rfl) (by kernel_rfl) (fun _ _ _ h => h) (Or.inl ⟨by rfl, ?hy⟩) (by assumption) ?_
          case hy => (intro w hSw; (try dsimp only at hSw); go_simp; try with_reducible rfl)
          try simp only [Act.put, List.setIfInBounds_toArray, List.set_cons_zero, List.set_cons_succ]
          refine wpAnyH_take (i := 12) (oi := { dst := some 69, op := Op.indexAddr 27 (Operand.tmp 67) (Operand.tmp 68), type := 0, pos := _, after := #[{ on := 10, ground := Ground.data }, { on := 11, ground := Ground.data }], guard := none }) (v := ?_) rfl (by kernel_rfl) (by kernel_rfl) (by kernel_rfl) (fun _ _ _ h => h) (Or.inl ⟨by rfl, ?hy⟩) (by assumption) ?_
          case hy => (intro w hSw; (try dsimp only at hSw); go_simp; try with_reducible rfl)
          try simp only [Act.put, List.setIfInBounds_toArray, List.set_cons_zero, List.set_cons_succ]
          refine wpAnyH_take (i := 13) (oi := { dst := some 70, op := Op.load 3 (Operand.tmp 69), type := 3, pos := _, after := #[{ on := 12, ground := Ground.data }], guard := none }) (v := ?_) rfl (by kernel_rfl) (by kernel_rfl) (by kernel_rfl) (fun _ _ _ h => h) (Or.inl ⟨by rfl, ?hy⟩) (by assumption) ?_
          case hy => (intro w hSw; (try dsimp only at hSw); go_simp; try with_reducible rfl)
          try simp only [Act.put, List.setIfInBounds_toArray, List.set_cons_zero, List.set_cons_succ]
          refine wpAnyH_take (i := 14) (oi := { dst := some 71, op := Op.binOp BinOp.sub 3 (Operand.tmp 66) (Operand.tmp 70) 3, type := 3, pos := _, after := #[{ on := 9, ground := Ground.data }, { on := 13, ground := Ground.data }], guard := none }) (v := ?_) rfl (by kernel_rfl) (by kernel_rfl) (by kernel_rfl) (fun _ _ _ h => h) (Or.inl ⟨by rfl, ?hy⟩) (by assumption) ?_
          case hy => (intro w hSw; (try dsimp only at hSw); go_simp; try with_reducible rfl)
          try simp only [Act.put, List.setIfInBounds_toArray, List.set_cons_zero, List.set_cons_succ]
          refine wpAnyH_ready (rs := [4]) (by kernel_rfl) (by simp) ?_
          refine AllReadyH.cons (i := 4) (o := { dst := some 61, op := Op.call { callee := Callee.value (Operand.func 16), args := #[Operand.tmp 58, Operand.tmp 59, Operand.tmp 60], argTypes := #[23, 3, 3] }, type := 3, pos := _, after := #[{ on := 1, ground := Ground.data }, { on := 2, ground := Ground.data }, { on := 3, ground := Ground.data }], guard := none }) rfl (fun KK hKK => ?_) AllReadyH.nil
          go_simp
          go_at_call 16
          (with_reducible refine (HKI.out _ hHeld.2.2).mono ?_)
          rintro e w10 ⟨rfl, hg10⟩
          have HGw10 := Lib.hid hg10
          clear hg10
          refine hKK.out _ _ (by exact ⟨HGw10.out.cell hHeld.1, HGw10.out.cell hHeld.2.1, hHeld.2.2.trans HGw10.out⟩) (fun hHeld => ?_)
          clear hKK KK
          try simp only [Act.put, List.setIfInBounds_toArray, List.set_cons_zero, List.set_cons_succ]
          refine wpAnyH_take (i := 5) (oi := { dst := some 62, op := Op.binOp BinOp.sub 3 (Operand.tmp 57) (Operand.tmp 61) 3, type := 3, pos := _, after := #[{ on := 0, ground := Ground.data }, { on := 4, ground := Ground.data }], guard := none }) (v := ?_) rfl (by kernel_rfl) (by kernel_rfl) (by kernel_rfl) (fun _ _ _ h => h) (Or.inl ⟨by rfl, ?hy⟩) (by assumption) ?_
          case hy => (intro w hSw; (try dsimp only at hSw); go_simp; try with_reducible rfl)
          try simp only [Act.put, List.setIfInBounds_toArray, List.set_cons_zero, List.set_cons_succ]
          refine wpAnyH_take (i := 15) (oi := { dst := some 72, op := Op.binOp BinOp.eql 3 (Operand.tmp 62) (Operand.tmp 71) 3, type := 4, pos := _, after := #[{ on := 5, ground := Ground.data }, { on := 14, ground := Ground.data }], guard := none }) (v := .bool true) rfl (by kernel_rfl) (by kernel_rfl) (by kernel_rfl) (fun _ _ _ h => h) (Or.inl ⟨by rfl, ?hy⟩) (by assumption) ?_
          case hy => (intro w hSw; (try dsimp only at hSw); go_simp <;> (try with_reducible rfl) <;> (try simp [HEB.out]))
          try simp only [Act.put, List.setIfInBounds_toArray, List.set_cons_zero, List.set_cons_succ]
          refine wpAnyH_take (i := 16) (oi := { dst := some 73, op := Op.move (Operand.tmp 72), type := 4, pos := _, after := #[{ on := 15, ground := Ground.data }, { on := 4, ground := Ground.chain }], guard := none }) (v := ?_) rfl (by kernel_rfl) (by kernel_rfl) (by kernel_rfl) (fun _ _ _ h => h) (Or.inl ⟨by rfl, ?hy⟩) (by assumption) ?_
          case hy => (intro w hSw; (try dsimp only at hSw); go_simp; try with_reducible rfl)
          try simp only [Act.put, List.setIfInBounds_toArray, List.set_cons_zero, List.set_cons_succ]
          refine wpAnyH_take (i := 17) (oi := { dst := some 74, op := Op.move (Operand.tmp 3), type := 23, pos := _, after := #[{ on := 16, ground := Ground.guard }], guard := some (16, true) }) (v := ?_) rfl (by kernel_rfl) (by kernel_rfl) (by kernel_rfl) (fun _ _ _ h => h) (Or.inl ⟨by rfl, ?hy⟩) (by assumption) ?_
          case hy => (intro w hSw; (try dsimp only at hSw); go_simp; try with_reducible rfl)
          try simp only [Act.put, List.setIfInBounds_toArray, List.set_cons_zero, List.set_cons_succ]
          refine wpAnyH_take (i := 18) (oi := { dst := some 75, op := Op.move (Operand.tmp 4), type := 3, pos := _, after := #[{ on := 16, ground := Ground.guard }], guard := some (16, true) }) (v := ?_) rfl (by kernel_rfl) (by kernel_rfl) (by kernel_rfl) (fun _ _ _ h => h) (Or.inl ⟨by rfl, ?hy⟩) (by assumption) ?_
          case hy => (intro w hSw; (try dsimp only at hSw); go_simp; try with_reducible rfl)
          try simp only [Act.put, List.setIfInBounds_toArray, List.set_cons_zero, List.set_cons_succ]
          refine wpAnyH_take (i := 19) (oi := { dst := some 76, op := Op.move (Operand.tmp 4), type := 3, pos := _, after := #[{ on := 16, ground := Ground.guard }], guard := some (16, true) }) (v := ?_) rfl (by kernel_rfl) (by kernel_rfl) (by kernel_rfl) (fun _ _ _ h => h) (Or.inl ⟨by rfl, ?hy⟩) (by assumption) ?_
          case hy => (intro w hSw; (try dsimp only at hSw); go_simp; try with_reducible rfl)
          try simp only [Act.put, List.setIfInBounds_toArray, List.set_cons_zero, List.set_cons_succ]
          refine wpAnyH_ready (rs := [20]) (by kernel_rfl) (by simp) ?_
          refine AllReadyH.cons (i := 20) (o := { dst := some 77, op := Op.call { callee := Callee.value (Operand.func 16), args := #[Operand.tmp 74, Operand.tmp 75, Operand.tmp 76], argTypes := #[23, 3, 3] }, type := 3, pos := _, after := #[{ on := 17, ground := Ground.data }, { on := 18, ground := Ground.data }, { on := 19, ground := Ground.data }, { on := 16, ground := Ground.chain }, { on := 16, ground := Ground.guard }], guard := some (16, true) }) rfl (fun KK hKK => ?_) AllReadyH.nil
          go_simp
          go_at_call 16
          (with_reducible refine (HII.out _ hHeld.2.2).mono ?_)
          rintro e w11 ⟨rfl, hg10⟩
          have HGw11 := Lib.hid hg10
          clear hg10
          refine hKK.out _ _ (by exact ⟨HGw11.out.cell hHeld.1, HGw11.out.cell hHeld.2.1, hHeld.2.2.trans HGw11.out⟩) (fun hHeld => ?_)
          clear hKK KK
          try simp only [Act.put, List.setIfInBounds_toArray, List.set_cons_zero, List.set_cons_succ]
          refine wpAnyH_take (i := 21) (oi := { dst := some 78, op := Op.binOp BinOp.eql 3 (Operand.tmp 77) (Operand.const (Value.int IntKind.i64 0)) 3, type := 4, pos := _, after := #[{ on := 20, ground := Ground.data }, { on := 16, ground := Ground.guard }], guard := some (16, true) }) (v := ?_) rfl (by kernel_rfl) (by kernel_rfl) (by kernel_rfl) (fun _ _ _ h => h) (Or.inl ⟨by rfl, ?hy⟩) (by assumption) ?_
          case hy => (intro w hSw; (try dsimp only at hSw); go_simp; try with_reducible rfl)
          try simp only [Act.put, List.setIfInBounds_toArray, List.set_cons_zero, List.set_cons_succ]
          refine wpAnyH_take (i := 22) (oi := { dst := some 79, op := Op.pick (Operand.tmp 73) (Operand.tmp 78) (Operand.const (Value.bool false)), type := 4, pos := _, after := #[{ on := 16, ground := Ground.data }, { on := 21, ground := Ground.data }], guard := none }) (v := ?_) rfl (by kernel_rfl) (by kernel_rfl) (by kernel_rfl) (fun _ _ _ h => h) (Or.inl ⟨by rfl, ?hy⟩) (by assumption) ?_
          case hy => (intro w hSw; (try dsimp only at hSw); go_simp; try with_reducible rfl)
          try simp only [Act.put, List.setIfInBounds_toArray, List.set_cons_zero, List.set_cons_succ]
          refine wpAnyH_take (i := 23) (oi := { dst := some 2, op := Op.assign (Operand.tmp 79), type := 4, pos := _, after := #[{ on := 22, ground := Ground.data }, { on := 20, ground := Ground.chain }, { on := 0, ground := Ground.phase }, { on := 1, ground := Ground.phase }, { on := 2, ground := Ground.phase }, { on := 3, ground := Ground.phase }, { on := 4, ground := Ground.phase }, { on := 5, ground := Ground.phase }, { on := 6, ground := Ground.phase }, { on := 7, ground := Ground.phase }, { on := 8, ground := Ground.phase }, { on := 9, ground := Ground.phase }, { on := 10, ground := Ground.phase }, { on := 11, ground := Ground.phase }, { on := 12, ground := Ground.phase }, { on := 13, ground := Ground.phase }, { on := 14, ground := Ground.phase }, { on := 15, ground := Ground.phase }, { on := 16, ground := Ground.phase }, { on := 17, ground := Ground.phase }, { on := 18, ground := Ground.phase }, { on := 19, ground := Ground.phase }, { on := 20, ground := Ground.phase }, { on := 21, ground := Ground.phase }, { on := 22, ground := Ground.phase }], guard := none }) (v := ?_) rfl (by kernel_rfl) (by kernel_rfl) (by kernel_rfl) (fun _ _ _ h => h) (Or.inl ⟨by rfl, ?hy⟩) (by assumption) ?_
          case hy => (intro w hSw; (try dsimp only at hSw); go_simp; try with_reducible rfl)
          try simp only [Act.put, List.setIfInBounds_toArray, List.set_cons_zero, List.set_cons_succ]
          refine wpAnyH_done (by kernel_rfl) ?_ _
          refine NoPanic.normal ?_
          have HN : Hid (Grew w w11) := Lib.hid (H3.out.2.trans (HG4.out.trans hHeld.2.2))
          clear hHeld
          go_wp2
          go_ret
          exact ⟨ret_bool (by simp), HN.out⟩
end Go.Proofs.YtdhokofcgfolnaaDoor
