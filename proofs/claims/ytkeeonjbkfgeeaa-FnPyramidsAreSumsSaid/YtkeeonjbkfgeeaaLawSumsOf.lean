/- The law FnSumsOf returns true. -/
import Derived.Test.YtkeeonjbkfgeeaaSSumsOf
import Derived.Test.YtkeeonjbkfgeeaaSumLs
import Derived.Test.YtkeeonjbkfgeeaaDraws
import Derived.Test.YtkeeonjbkfgeeaaEqualRows
import Derived.Test.YtkeeonjbkfgeeaaTotal
import Derived.Test.YtkeeonjbkfgeeaaHeldMono
namespace Go.Proofs.Ytkeeonjbkfgeeaa
open Go.RowKit

theorem drawn_rows {H : List (List Int)} (hd : Drawn H) : H.length ≤ 1000 ∧ ∀ r, r < H.length → 1 ≤ (H.getD r []).length ∧ (H.getD r []).length ≤ 1000 :=
  ⟨by have := hd.1; omega, fun r hr => ⟨hd.2.2 r hr, by have := (hd.2.1 r hr).1; omega⟩⟩
set_option maxRecDepth 100000 in
set_option maxHeartbeats 8000000 in
theorem FnSumsOf_any (v : Value) (bs : List Int) (w : World) (hv : NumsV .u8 w v bs) (hb : ∀ i, i < bs.length → 0 ≤ bs.getD i 0 ∧ bs.getD i 0 ≤ 255) :
    Calls Try.prog 3 #[v] w fun e w' => e = .returned (.bool true) ∧ Grew w w' := by
  have HD := Lib.hid (DrawSumsOf_any v bs w hv hb)
  obtain ⟨a, b, o, c, rfl, ⟨hlc, hcb⟩, _, _⟩ := hv.shape
  clear hv hb
  by_cases hbig : 1048576 < bs.length
  · go_enter Try.func3, Try.ntmps3
    go_wp2
    go_ret
    exact ⟨rfl, Grew.refl _⟩
  · go_enter Try.func3, Try.ntmps3
    go_wp2_with (fail)
    refine HD.out.mono ?_
    rintro e w1 ⟨v1, H, rfl, hO, hd, hg1⟩
    have HDD := Lib.hid (drawn_rows hd)
    have HV := Lib.hid (And.intro hO.toV hg1)
    obtain ⟨a3, c3, rfl⟩ := hO.sh
    obtain ⟨R, eR⟩ : ∃ R, sumsX H = R := ⟨_, rfl⟩
    have HR := Lib.hid eR
    clear hO hd hg1 HD eR
    go_wp2_with (fail)
    refine (SumsOf_any _ H _ HV.out.1).mono ?_
    rw [HR.out]
    rintro e w2 ⟨v2, rfl, hO2, hg2⟩
    have H2 := Lib.hid (And.intro hO2 hg2)
    obtain ⟨a2, c2, rfl⟩ := hO2.sh
    clear hO2 hg2
    go_wp2_with (fail)
    refine (SSumsOf_any _ H _ (HV.out.1.grew H2.out.2)).mono ?_
    rw [HR.out]
    rintro e w3 ⟨v3, rfl, hO3, hg3⟩
    have H3 := Lib.hid (And.intro hO3.toV hg3)
    have H23 := Lib.hid (H2.out.1.grew hg3)
    obtain ⟨a4, c4, rfl⟩ := hO3.sh
    clear hO3 hg3
    go_wp2_with (fail)
    refine (equalRows_any _ _ R R _ H23.out.toV H3.out.1).mono ?_
    rw [decide_eq_true (rfl : R = R)]
    rintro e w4 ⟨rfl, hq⟩
    have HG4 := Lib.hid (quiet_grew hq)
    have H24 := Lib.hid (H23.out.grew (quiet_grew hq))
    clear hq
    by_cases hS : R.length = 0
    · have hS' : ((R.length : Int) == 0) = true := by simp [hS]
      clear hS
      go_wp2_with (fail)
      refine (SSumsOf_any _ H _ (HV.out.1.grew (H2.out.2.trans (H3.out.2.trans HG4.out)))).mono ?_
      rw [HR.out]
      rintro e w5 ⟨v5, rfl, hO5, hg5⟩
      have H5 := Lib.hid (And.intro hO5.toV hg5)
      have H25 := Lib.hid (H24.out.grew hg5)
      obtain ⟨a5, c5, rfl⟩ := hO5.sh
      clear hO5 hg5
      go_wp2_with (fail)
      refine (equalRows_any _ _ R R _ H25.out.toV H5.out.1).mono ?_
      rw [decide_eq_true (rfl : R = R)]
      rintro e w6 ⟨rfl, hq⟩
      have HG6 := Lib.hid (H5.out.2.trans (quiet_grew hq))
      clear hq
      go_wp2
      go_ret
      exact ⟨rfl, HV.out.2.trans (H2.out.2.trans (H3.out.2.trans (HG4.out.trans HG6.out)))⟩
    · have hvg : vGrid H = true := by
        cases hx : vGrid H with
        | true => rfl
        | false =>
          exfalso
          apply hS
          rw [← HR.out]
          unfold sumsX
          rw [hx]
          rfl
      have G := Grid.of hvg
      obtain ⟨m, em⟩ : ∃ m, (H.getD 0 []).length = m := ⟨_, rfl⟩
      obtain ⟨n, en⟩ : ∃ n, H.length = n := ⟨_, rfl⟩
      rw [em] at G
      have hRe : R = sumsL H m := by
        rw [← HR.out]
        unfold sumsX
        rw [if_pos hvg, em]
      have hRl : R.length = n + 1 := by rw [hRe, ← en]; exact tabR_len _ _ _
      have hRr : ∀ r, r ≤ n → (R.getD r []).length = m + 1 := fun r hr => by rw [hRe]; exact tabR_rowlen _ _ _ _ (by omega)
      have hRc : ∀ r j, r ≤ n → j ≤ m → (R.getD r []).getD j 0 = preS H r j := fun r j hr hj => by rw [hRe]; exact tabR_at _ _ _ _ _ (by omega) (by omega)
      have hn1 := G.n1
      have hn5 := G.n5
      have hm1 := G.m1
      have hm5 := G.m5
      have hS' : ((R.length : Int) == 0) = false := beq_eq_false_iff_ne.2 (by omega)
      have HROW : Hid (∀ r, r ≤ n → ∃ gO cO g d, Value.slice a2 R.length c2 = .slice (some ⟨gO, 0, none⟩) R.length cO ∧ ∀ W, Grew w4 W → W.cell? ⟨gO, r, none⟩ = some (.slice (some ⟨g, 0, none⟩) (m + 1) d) ∧ ∀ j, j ≤ m → W.cell? ⟨g, j, none⟩ = some (.int .i64 (preS H r j))) := Lib.hid fun r hr => by
        obtain ⟨gO, cO, eO, _⟩ := H24.out.pos (by omega)
        obtain ⟨u, hc, hu⟩ := H24.out.at eO (i := r) (by omega)
        obtain ⟨g, d, rfl, _, _, _, _⟩ := hu.pos (by rw [hRr r hr]; omega)
        refine ⟨gO, cO, g, d, eO, fun W hW => ⟨?_, fun j hj => ?_⟩⟩
        · rw [hRr r hr] at hc; exact hW.cell hc
        · have := hW.cell (hu.at rfl (i := j) (by rw [hRr r hr]; omega)).1
          rwa [hRc r j hr hj] at this
      have hlsum : lsum H.flatten = preS H n m := by rw [← en]; exact lsum_flatten H m G.len
      have hfl : H.flatten.length = n * m ∧ n * m ≤ 25 := by
        have e : ∀ (X : List (List Int)), (∀ r, r < X.length → (X.getD r []).length = m) → X.flatten.length = X.length * m := fun X => by
          induction X with
          | nil => intro _; simp
          | cons x xs ih =>
            intro hl
            have h0 := hl 0 (by simp)
            have h0' : x.length = m := by simpa using h0
            rw [List.flatten_cons, List.length_append, ih (fun r hr => by have := hl (r + 1) (by simpa using hr); simpa using this), List.length_cons, Nat.succ_mul, h0']
            omega
        exact ⟨by rw [e H G.len, en], Nat.mul_le_mul (show n ≤ 5 by omega) hm5⟩
      have hfb : ∀ i, i < H.flatten.length → -1000 ≤ H.flatten.getD i 0 ∧ H.flatten.getD i 0 ≤ 1000 := fun i hi => by
        have hm : H.flatten.getD i 0 ∈ H.flatten := by
          rw [List.getD_eq_getElem?_getD, List.getElem?_eq_getElem hi]
          exact List.getElem_mem hi
        obtain ⟨row, hrow, hx⟩ := List.mem_flatten.1 hm
        obtain ⟨r, hr, rfl⟩ := List.getElem_of_mem hrow
        obtain ⟨j, hj, ej⟩ := List.getElem_of_mem hx
        have hrl := G.len r hr
        have := G.num r hr j (by rw [← hrl]; simpa [hr] using hj)
        have e2 : (H.getD r []).getD j 0 = H.flatten.getD i 0 := by rw [← ej]; simp [hr, hj]
        omega
      obtain ⟨T, eT⟩ : ∃ T, preS H n m = T := ⟨_, rfl⟩
      rw [eT] at hlsum
      have HTF : Hid (∀ (v : Value) (W : World), IntsV W v H.flatten → Calls Try.prog 16 #[v] W fun e w' => e = .returned (.int .i64 T) ∧ W = w') := Lib.hid fun v W hv => by
        have := totalOf_any v _ W hv (by omega) hfb
        rw [show sumTo (fun i => H.flatten.getD i 0) H.flatten.length = T from hlsum] at this
        exact this
      have HRO : Hid (∀ W, Grew w4 W → Calls Try.prog 17 #[.slice a3 H.length c3] W (FlatPost W H.flatten)) := Lib.hid fun W hW => rowOf_any _ H W (HV.out.1.grew (H2.out.2.trans (H3.out.2.trans (HG4.out.trans hW)))) HDD.out.1 HDD.out.2
      obtain ⟨FL, eFL⟩ : ∃ FL, H.flatten = FL := ⟨_, rfl⟩
      rw [eFL] at HTF HRO
      obtain ⟨gO, cO, g0, d0, eO, hk0⟩ := HROW.out 0 (by omega)
      obtain ⟨gO', cO', gn, dn, eO', hkn⟩ := HROW.out n (Nat.le_refl _)
      rw [eO] at eO'
      simp only [Value.slice.injEq, Option.some.injEq, Addr.mk.injEq, and_true, true_and] at eO eO'
      obtain ⟨rfl, rfl⟩ := eO'
      obtain ⟨rfl, rfl⟩ := eO
      have HT0 : Hid (∀ W, Grew w4 W → Calls Try.prog 16 #[.slice (some ⟨g0, 0, none⟩) (m + 1) d0] W fun e w' => e = .returned (.int .i64 0) ∧ W = w') := Lib.hid fun W hW => by
        obtain ⟨u, hc, hu⟩ := H24.out.at rfl (i := 0) (by omega)
        have hz : R.getD 0 [] = List.replicate (m + 1) 0 := by
          apply List.ext_getElem
          · rw [hRr 0 (by omega), List.length_replicate]
          · intro j h1 h2
            have := hRc 0 j (by omega) (by rw [hRr 0 (by omega)] at h1; omega)
            rw [preS_row] at this
            rw [List.getElem_replicate]
            rw [← this, List.getD_eq_getElem?_getD (l := R.getD 0 []), List.getElem?_eq_getElem h1]; rfl
        have hu' : u = .slice (some ⟨g0, 0, none⟩) (m + 1) d0 := by
          have := (hk0 w4 (Grew.refl _)).1
          rw [hc] at this
          exact Option.some.inj this
        rw [hz, hu'] at hu
        have := totalOf_any _ _ W (hu.grew hW).toV (by rw [List.length_replicate]; omega) (fun i hi => by rw [List.length_replicate] at hi; simp [hi])
        rw [show sumTo (fun i => (List.replicate (m + 1) (0 : Int)).getD i 0) (List.replicate (m + 1) (0 : Int)).length = 0 from lsum_zero (m + 1)] at this
        exact this
      have hkn' := hkn w4 (Grew.refl _)
      have hk0' := hk0 w4 (Grew.refl _)
      obtain ⟨bH, oH, aR, cR, hcH, eH⟩ : ∃ bH oH aR cR, w4.cell? ⟨bH, oH, none⟩ = some (.slice aR m cR) ∧ a3 = some ⟨bH, oH, none⟩ := by
        obtain ⟨a', b', o', c', e', _, ha', HC'⟩ := (HV.out.1.grew (H2.out.2.trans (H3.out.2.trans HG4.out))).shape
        obtain ⟨u, hc, hu⟩ := HC'.out 0 (by omega)
        obtain ⟨ax, bx, ox, cx, rfl, _, _, _⟩ := hu.shape
        rw [em] at hc
        simp only [Value.slice.injEq, true_and] at e'
        exact ⟨b', o', ax, cx, by simpa using hc, by rw [e'.1]; exact ha' (by omega)⟩
      subst eH
      obtain ⟨m1, em1⟩ : ∃ m1, m + 1 = m1 := ⟨_, rfl⟩
      have hTv := hkn'.2 m (Nat.le_refl _)
      rw [eT] at hTv
      have HS0 : Hid (∀ W, Grew w4 W → (W.cell? ⟨gO, 0, none⟩ = some (.slice (some ⟨g0, 0, none⟩) m1 d0) ∧ W.cell? ⟨gO, n, none⟩ = some (.slice (some ⟨gn, 0, none⟩) m1 dn) ∧ W.cell? ⟨gn, m, none⟩ = some (.int .i64 T) ∧ W.cell? ⟨bH, oH, none⟩ = some (.slice aR m cR)) ∧ Grew w4 W) := by
        rw [← em1]
        exact Lib.hid fun W hW => ⟨⟨hW.cell hk0'.1, hW.cell hkn'.1, hW.cell hTv, hW.cell hcH⟩, hW⟩
      rw [em1] at HT0
      have HRR : Hid (∀ r, r ≤ n → ∃ g d, ∀ W, Grew w4 W → W.cell? ⟨gO, r, none⟩ = some (.slice (some ⟨g, 0, none⟩) m1 d) ∧ W.cell? ⟨g, 0, none⟩ = some (.int .i64 0)) := Lib.hid fun r hr => by
        obtain ⟨gX, cX, g, d, eX, hk⟩ := HROW.out r hr
        simp only [Value.slice.injEq, Option.some.injEq, Addr.mk.injEq, and_true, true_and] at eX
        obtain ⟨rfl, rfl⟩ := eX
        refine ⟨g, d, fun W hW => ?_⟩
        have := hk W hW
        rw [em1] at this
        have h0 := this.2 0 (Nat.zero_le _)
        rw [preS_col] at h0
        exact ⟨this.1, h0⟩
      obtain ⟨n1, en1⟩ : ∃ n1, R.length = n1 := ⟨_, rfl⟩
      have hx1 : ((m1 : Int) != (m : Int) + 1) = false := by simp; omega
      have hx2 : ((n1 : Int) == (n : Int) + 1) = true := by simp; omega
      have hi0 : (0 : Int) < n1 := by omega
      have hin : (n : Int) < n1 := by omega
      have hn1' : 0 < n1 := by omega
      have hnn1 : n < n1 := by omega
      have hmm1 : (m : Int) < m1 := by omega
      have hmm1' : m < m1 := by omega
      have hm10 : (0 : Int) < m1 := by omega
      have hm10' : 0 < m1 := by omega
      have hn0i : (0 : Int) < n := by omega
      have hn0n : 0 < n := by omega
      have hnn6 : n1 ≤ 6 := by omega
      have HNN := Lib.hid (fun r (hr : r < n1) => (by omega : r ≤ n))
      have wn : IntKind.i64.wrap ((n : Int) + 1) = (n1 : Int) := by rw [IntWalk.i64_in _ (by omega)]; omega
      rw [en1] at hS'
      rw [en] at HRO
      rw [en1, en]
      clear hS hvg G hRe hRl hRr hRc hlsum hfl hfb eT eFL HROW hk0 hkn hkn' hk0' hcH em em1 en en1 hTv HR
      go_wp2
      go_loopw [5] (fun i wr => ∃ k : Nat, k ≤ n1 ∧ i = .int .i64 k ∧ Hid (Grew w4 wr)) (fun i _ => n1 - (intOf i).toNat)
      case atStart => exact ⟨0, Nat.zero_le _, rfl, Grew.refl _⟩
      case round =>
        obtain ⟨k, hk, rfl, HJJ⟩ := hrel
        by_cases hlt : k < n1
        · obtain ⟨g, d, hgd⟩ := HRR.out k (HNN.out k hlt)
          have hc1 := (hgd wr HJJ.out).1
          have hc2 := (hgd wr HJJ.out).2
          have hc3 := (HS0.out wr HJJ.out).1.2.2.2
          have hki : (k : Int) < n1 := by omega
          clear hgd
          go_wp2
          go_quiet (fail)
          have HGN := Lib.hid (HJJ.out.drewN nq)
          go_wp2
          go_roundw
          case rel => exact ⟨k + 1, by omega, by go_num, HGN.out⟩
          case measure => simp [intOf]; omega
        · have HS4 := Lib.hid (HS0.out _ HJJ.out.drew)
          have hk' : ¬ (k : Int) < n1 := by omega
          go_wp2
          refine wp_region_noPanic ?_
          refine wp_region_held_drew (S := fun W => (W.cell? ⟨gO, 0, none⟩ = some (.slice (some ⟨g0, 0, none⟩) m1 d0) ∧ W.cell? ⟨gO, n, none⟩ = some (.slice (some ⟨gn, 0, none⟩) m1 dn) ∧ W.cell? ⟨gn, m, none⟩ = some (.int .i64 T) ∧ W.cell? ⟨bH, oH, none⟩ = some (.slice aR m cR)) ∧ Grew w4 W) (by kernel_rfl) (by exact HS4.out) (fun hHeld => ?_)
          refine wpAnyH_take (i := 0) (oi := { dst := some 53, op := Op.move (Operand.tmp 4), type := 23, pos := _, after := #[], guard := none }) (v := ?_) rfl (by kernel_rfl) (by kernel_rfl) (by kernel_rfl) (fun _ _ _ h => h) (Or.inl ⟨by rfl, ?hy⟩) (by assumption) ?_
          case hy => (intro w hSw; (try dsimp only at hSw); go_simp; try with_reducible rfl)
          try simp only [Act.put, List.setIfInBounds_toArray, List.set_cons_zero, List.set_cons_succ]
          refine wpAnyH_take (i := 1) (oi := { dst := some 54, op := Op.indexAddr 23 (Operand.tmp 53) (Operand.const (Value.int IntKind.i64 0)), type := 0, pos := _, after := #[{ on := 0, ground := Ground.data }], guard := none }) (v := ?_) rfl (by kernel_rfl) (by kernel_rfl) (by kernel_rfl) (fun _ _ _ h => h) (Or.inl ⟨by rfl, ?hy⟩) (by assumption) ?_
          case hy => (intro w hSw; (try dsimp only at hSw); go_simp; try with_reducible rfl)
          try simp only [Act.put, List.setIfInBounds_toArray, List.set_cons_zero, List.set_cons_succ]
          refine wpAnyH_take (i := 2) (oi := { dst := some 55, op := Op.load 27 (Operand.tmp 54), type := 27, pos := _, after := #[{ on := 1, ground := Ground.data }], guard := none }) (v := ?_) rfl (by kernel_rfl) (by kernel_rfl) (by kernel_rfl) (fun _ _ _ h => h) (Or.inl ⟨by rfl, ?hy⟩) (by assumption) ?_
          case hy => (intro w hSw; (try dsimp only at hSw); go_simp; try with_reducible rfl)
          try simp only [Act.put, List.setIfInBounds_toArray, List.set_cons_zero, List.set_cons_succ]
          refine wpAnyH_ready (rs := [3]) (by kernel_rfl) (by simp) ?_
          refine AllReadyH.cons (i := 3) (o := { dst := some 56, op := Op.call { callee := Callee.value (Operand.func 16), args := #[Operand.tmp 55], argTypes := #[27] }, type := 3, pos := _, after := #[{ on := 2, ground := Ground.data }], guard := none }) rfl (fun KK hKK => ?_) (AllReadyH.nil)
          go_simp
          go_at_call 16
          (with_reducible refine (HT0.out _ hHeld.2).mono ?_)
          rintro e w10 ⟨rfl, rfl⟩
          refine hKK.out _ _ (by exact hHeld) (fun hHeld => ?_)
          clear hKK KK
          try simp only [Act.put, List.setIfInBounds_toArray, List.set_cons_zero, List.set_cons_succ]
          refine wpAnyH_take (i := 4) (oi := { dst := some 57, op := Op.binOp BinOp.eql 3 (Operand.tmp 56) (Operand.const (Value.int IntKind.i64 0)) 3, type := 4, pos := _, after := #[{ on := 3, ground := Ground.data }], guard := none }) (v := ?_) rfl (by kernel_rfl) (by kernel_rfl) (by kernel_rfl) (fun _ _ _ h => h) (Or.inl ⟨by rfl, ?hy⟩) (by assumption) ?_
          case hy => (intro w hSw; (try dsimp only at hSw); go_simp; try with_reducible rfl)
          try simp only [Act.put, List.setIfInBounds_toArray, List.set_cons_zero, List.set_cons_succ]
          refine wpAnyH_take (i := 5) (oi := { dst := some 58, op := Op.move (Operand.tmp 57), type := 4, pos := _, after := #[{ on := 4, ground := Ground.data }, { on := 3, ground := Ground.chain }], guard := none }) (v := .bool true) rfl (by kernel_rfl) (by kernel_rfl) (by kernel_rfl) (fun _ _ _ h => h) (Or.inl ⟨by rfl, ?hy⟩) (by assumption) ?_
          case hy => (intro w hSw; (try dsimp only at hSw); go_simp <;> (try with_reducible rfl) <;> (try simp [*]))
          try simp only [Act.put, List.setIfInBounds_toArray, List.set_cons_zero, List.set_cons_succ]
          refine wpAnyH_take (i := 6) (oi := { dst := some 59, op := Op.move (Operand.tmp 4), type := 23, pos := _, after := #[{ on := 5, ground := Ground.guard }], guard := some (5, true) }) (v := ?_) rfl (by kernel_rfl) (by kernel_rfl) (by kernel_rfl) (fun _ _ _ h => h) (Or.inl ⟨by rfl, ?hy⟩) (by assumption) ?_
          case hy => (intro w hSw; (try dsimp only at hSw); go_simp; try with_reducible rfl)
          try simp only [Act.put, List.setIfInBounds_toArray, List.set_cons_zero, List.set_cons_succ]
          refine wpAnyH_take (i := 7) (oi := { dst := some 60, op := Op.call { callee := Callee.builtin Builtin.len, args := #[Operand.tmp 59], argTypes := #[23] }, type := 3, pos := _, after := #[{ on := 6, ground := Ground.data }, { on := 5, ground := Ground.guard }], guard := some (5, true) }) (v := ?_) rfl (by kernel_rfl) (by kernel_rfl) (by kernel_rfl) (fun _ _ _ h => h) (Or.inl ⟨by rfl, ?hy⟩) (by assumption) ?_
          case hy => (intro w hSw; (try dsimp only at hSw); go_simp; try with_reducible rfl)
          try simp only [Act.put, List.setIfInBounds_toArray, List.set_cons_zero, List.set_cons_succ]
          refine wpAnyH_take (i := 8) (oi := { dst := some 61, op := Op.move (Operand.tmp 3), type := 23, pos := _, after := #[{ on := 5, ground := Ground.guard }], guard := some (5, true) }) (v := ?_) rfl (by kernel_rfl) (by kernel_rfl) (by kernel_rfl) (fun _ _ _ h => h) (Or.inl ⟨by rfl, ?hy⟩) (by assumption) ?_
          case hy => (intro w hSw; (try dsimp only at hSw); go_simp; try with_reducible rfl)
          try simp only [Act.put, List.setIfInBounds_toArray, List.set_cons_zero, List.set_cons_succ]
          refine wpAnyH_take (i := 9) (oi := { dst := some 62, op := Op.call { callee := Callee.builtin Builtin.len, args := #[Operand.tmp 61], argTypes := #[23] }, type := 3, pos := _, after := #[{ on := 8, ground := Ground.data }, { on := 5, ground := Ground.guard }], guard := some (5, true) }) (v := ?_) rfl (by kernel_rfl) (by kernel_rfl) (by kernel_rfl) (fun _ _ _ h => h) (Or.inl ⟨by rfl, ?hy⟩) (by assumption) ?_
          case hy => (intro w hSw; (try dsimp only at hSw); go_simp; try with_reducible rfl)
          try simp only [Act.put, List.setIfInBounds_toArray, List.set_cons_zero, List.set_cons_succ]
          refine wpAnyH_take (i := 10) (oi := { dst := some 63, op := Op.binOp BinOp.add 3 (Operand.tmp 62) (Operand.const (Value.int IntKind.i64 1)) 3, type := 3, pos := _, after := #[{ on := 9, ground := Ground.data }, { on := 5, ground := Ground.guard }], guard := some (5, true) }) (v := ?_) rfl (by kernel_rfl) (by kernel_rfl) (by kernel_rfl) (fun _ _ _ h => h) (Or.inl ⟨by rfl, ?hy⟩) (by assumption) ?_
          case hy => (intro w hSw; (try dsimp only at hSw); go_simp; try with_reducible rfl)
          try simp only [Act.put, List.setIfInBounds_toArray, List.set_cons_zero, List.set_cons_succ]
          refine wpAnyH_take (i := 11) (oi := { dst := some 64, op := Op.binOp BinOp.eql 3 (Operand.tmp 60) (Operand.tmp 63) 3, type := 4, pos := _, after := #[{ on := 7, ground := Ground.data }, { on := 10, ground := Ground.data }, { on := 5, ground := Ground.guard }], guard := some (5, true) }) (v := ?_) rfl (by kernel_rfl) (by kernel_rfl) (by kernel_rfl) (fun _ _ _ h => h) (Or.inl ⟨by rfl, ?hy⟩) (by assumption) ?_
          case hy => (intro w hSw; (try dsimp only at hSw); go_simp; try with_reducible rfl)
          try simp only [Act.put, List.setIfInBounds_toArray, List.set_cons_zero, List.set_cons_succ]
          refine wpAnyH_take (i := 12) (oi := { dst := some 65, op := Op.pick (Operand.tmp 58) (Operand.tmp 64) (Operand.const (Value.bool false)), type := 4, pos := _, after := #[{ on := 5, ground := Ground.data }, { on := 11, ground := Ground.data }], guard := none }) (v := ?_) rfl (by kernel_rfl) (by kernel_rfl) (by kernel_rfl) (fun _ _ _ h => h) (Or.inl ⟨by rfl, ?hy⟩) (by assumption) ?_
          case hy => (intro w hSw; (try dsimp only at hSw); go_simp; try with_reducible rfl)
          try simp only [Act.put, List.setIfInBounds_toArray, List.set_cons_zero, List.set_cons_succ]
          refine wpAnyH_take (i := 13) (oi := { dst := some 66, op := Op.move (Operand.tmp 65), type := 4, pos := _, after := #[{ on := 12, ground := Ground.data }, { on := 5, ground := Ground.chain }], guard := none }) (v := .bool true) rfl (by kernel_rfl) (by kernel_rfl) (by kernel_rfl) (fun _ _ _ h => h) (Or.inl ⟨by rfl, ?hy⟩) (by assumption) ?_
          case hy => (intro w hSw; (try dsimp only at hSw); go_simp <;> (try with_reducible rfl) <;> (try simp [*]))
          try simp only [Act.put, List.setIfInBounds_toArray, List.set_cons_zero, List.set_cons_succ]
          refine wpAnyH_take (i := 14) (oi := { dst := some 67, op := Op.move (Operand.tmp 4), type := 23, pos := _, after := #[{ on := 13, ground := Ground.guard }], guard := some (13, true) }) (v := ?_) rfl (by kernel_rfl) (by kernel_rfl) (by kernel_rfl) (fun _ _ _ h => h) (Or.inl ⟨by rfl, ?hy⟩) (by assumption) ?_
          case hy => (intro w hSw; (try dsimp only at hSw); go_simp; try with_reducible rfl)
          try simp only [Act.put, List.setIfInBounds_toArray, List.set_cons_zero, List.set_cons_succ]
          refine wpAnyH_take (i := 15) (oi := { dst := some 68, op := Op.move (Operand.tmp 3), type := 23, pos := _, after := #[{ on := 13, ground := Ground.guard }], guard := some (13, true) }) (v := ?_) rfl (by kernel_rfl) (by kernel_rfl) (by kernel_rfl) (fun _ _ _ h => h) (Or.inl ⟨by rfl, ?hy⟩) (by assumption) ?_
          case hy => (intro w hSw; (try dsimp only at hSw); go_simp; try with_reducible rfl)
          try simp only [Act.put, List.setIfInBounds_toArray, List.set_cons_zero, List.set_cons_succ]
          refine wpAnyH_take (i := 16) (oi := { dst := some 69, op := Op.call { callee := Callee.builtin Builtin.len, args := #[Operand.tmp 68], argTypes := #[23] }, type := 3, pos := _, after := #[{ on := 15, ground := Ground.data }, { on := 13, ground := Ground.guard }], guard := some (13, true) }) (v := ?_) rfl (by kernel_rfl) (by kernel_rfl) (by kernel_rfl) (fun _ _ _ h => h) (Or.inl ⟨by rfl, ?hy⟩) (by assumption) ?_
          case hy => (intro w hSw; (try dsimp only at hSw); go_simp; try with_reducible rfl)
          try simp only [Act.put, List.setIfInBounds_toArray, List.set_cons_zero, List.set_cons_succ]
          refine wpAnyH_take (i := 17) (oi := { dst := some 70, op := Op.indexAddr 23 (Operand.tmp 67) (Operand.tmp 69), type := 0, pos := _, after := #[{ on := 14, ground := Ground.data }, { on := 16, ground := Ground.data }, { on := 13, ground := Ground.guard }], guard := some (13, true) }) (v := ?_) rfl (by kernel_rfl) (by kernel_rfl) (by kernel_rfl) (fun _ _ _ h => h) (Or.inl ⟨by rfl, ?hy⟩) (by assumption) ?_
          case hy => (intro w hSw; (try dsimp only at hSw); go_simp; try with_reducible rfl)
          try simp only [Act.put, List.setIfInBounds_toArray, List.set_cons_zero, List.set_cons_succ]
          refine wpAnyH_take (i := 18) (oi := { dst := some 71, op := Op.load 27 (Operand.tmp 70), type := 27, pos := _, after := #[{ on := 17, ground := Ground.data }, { on := 13, ground := Ground.guard }], guard := some (13, true) }) (v := ?_) rfl (by kernel_rfl) (by kernel_rfl) (by kernel_rfl) (fun _ _ _ h => h) (Or.inl ⟨by rfl, ?hy⟩) (by assumption) ?_
          case hy => (intro w hSw; (try dsimp only at hSw); go_simp; try with_reducible rfl)
          try simp only [Act.put, List.setIfInBounds_toArray, List.set_cons_zero, List.set_cons_succ]
          refine wpAnyH_take (i := 19) (oi := { dst := some 72, op := Op.move (Operand.tmp 3), type := 23, pos := _, after := #[{ on := 13, ground := Ground.guard }], guard := some (13, true) }) (v := ?_) rfl (by kernel_rfl) (by kernel_rfl) (by kernel_rfl) (fun _ _ _ h => h) (Or.inl ⟨by rfl, ?hy⟩) (by assumption) ?_
          case hy => (intro w hSw; (try dsimp only at hSw); go_simp; try with_reducible rfl)
          try simp only [Act.put, List.setIfInBounds_toArray, List.set_cons_zero, List.set_cons_succ]
          refine wpAnyH_take (i := 20) (oi := { dst := some 73, op := Op.indexAddr 23 (Operand.tmp 72) (Operand.const (Value.int IntKind.i64 0)), type := 0, pos := _, after := #[{ on := 19, ground := Ground.data }, { on := 13, ground := Ground.guard }], guard := some (13, true) }) (v := ?_) rfl (by kernel_rfl) (by kernel_rfl) (by kernel_rfl) (fun _ _ _ h => h) (Or.inl ⟨by rfl, ?hy⟩) (by assumption) ?_
          case hy => (intro w hSw; (try dsimp only at hSw); go_simp; try with_reducible rfl)
          try simp only [Act.put, List.setIfInBounds_toArray, List.set_cons_zero, List.set_cons_succ]
          refine wpAnyH_take (i := 21) (oi := { dst := some 74, op := Op.load 27 (Operand.tmp 73), type := 27, pos := _, after := #[{ on := 20, ground := Ground.data }, { on := 13, ground := Ground.guard }], guard := some (13, true) }) (v := ?_) rfl (by kernel_rfl) (by kernel_rfl) (by kernel_rfl) (fun _ _ _ h => h) (Or.inl ⟨by rfl, ?hy⟩) (by assumption) ?_
          case hy => (intro w hSw; (try dsimp only at hSw); go_simp; try with_reducible rfl)
          try simp only [Act.put, List.setIfInBounds_toArray, List.set_cons_zero, List.set_cons_succ]
          refine wpAnyH_take (i := 22) (oi := { dst := some 75, op := Op.call { callee := Callee.builtin Builtin.len, args := #[Operand.tmp 74], argTypes := #[27] }, type := 3, pos := _, after := #[{ on := 21, ground := Ground.data }, { on := 13, ground := Ground.guard }], guard := some (13, true) }) (v := ?_) rfl (by kernel_rfl) (by kernel_rfl) (by kernel_rfl) (fun _ _ _ h => h) (Or.inl ⟨by rfl, ?hy⟩) (by assumption) ?_
          case hy => (intro w hSw; (try dsimp only at hSw); go_simp; try with_reducible rfl)
          try simp only [Act.put, List.setIfInBounds_toArray, List.set_cons_zero, List.set_cons_succ]
          refine wpAnyH_take (i := 23) (oi := { dst := some 76, op := Op.indexAddr 27 (Operand.tmp 71) (Operand.tmp 75), type := 0, pos := _, after := #[{ on := 18, ground := Ground.data }, { on := 22, ground := Ground.data }, { on := 13, ground := Ground.guard }], guard := some (13, true) }) (v := ?_) rfl (by kernel_rfl) (by kernel_rfl) (by kernel_rfl) (fun _ _ _ h => h) (Or.inl ⟨by rfl, ?hy⟩) (by assumption) ?_
          case hy => (intro w hSw; (try dsimp only at hSw); go_simp; try with_reducible rfl)
          try simp only [Act.put, List.setIfInBounds_toArray, List.set_cons_zero, List.set_cons_succ]
          refine wpAnyH_take (i := 24) (oi := { dst := some 77, op := Op.load 3 (Operand.tmp 76), type := 3, pos := _, after := #[{ on := 23, ground := Ground.data }, { on := 13, ground := Ground.guard }], guard := some (13, true) }) (v := ?_) rfl (by kernel_rfl) (by kernel_rfl) (by kernel_rfl) (fun _ _ _ h => h) (Or.inl ⟨by rfl, ?hy⟩) (by assumption) ?_
          case hy => (intro w hSw; (try dsimp only at hSw); go_simp; try with_reducible rfl)
          try simp only [Act.put, List.setIfInBounds_toArray, List.set_cons_zero, List.set_cons_succ]
          refine wpAnyH_take (i := 25) (oi := { dst := some 78, op := Op.move (Operand.tmp 3), type := 23, pos := _, after := #[{ on := 13, ground := Ground.guard }], guard := some (13, true) }) (v := ?_) rfl (by kernel_rfl) (by kernel_rfl) (by kernel_rfl) (fun _ _ _ h => h) (Or.inl ⟨by rfl, ?hy⟩) (by assumption) ?_
          case hy => (intro w hSw; (try dsimp only at hSw); go_simp; try with_reducible rfl)
          try simp only [Act.put, List.setIfInBounds_toArray, List.set_cons_zero, List.set_cons_succ]
          refine wpAnyH_ready (rs := [26]) (by kernel_rfl) (by simp) ?_
          refine AllReadyH.cons (i := 26) (o := { dst := some 79, op := Op.call { callee := Callee.value (Operand.func 17), args := #[Operand.tmp 78], argTypes := #[23] }, type := 27, pos := _, after := #[{ on := 25, ground := Ground.data }, { on := 13, ground := Ground.chain }, { on := 13, ground := Ground.guard }], guard := some (13, true) }) rfl (fun KK hKK => ?_) (AllReadyH.nil)
          go_simp
          go_at_call 17
          (with_reducible refine (HRO.out _ hHeld.2).mono ?_)
          rintro e w11 ⟨g11, c11, rfl, hO11, hg11⟩
          have H11 := Lib.hid (And.intro hO11.toV hg11)
          clear hO11 hg11
          refine hKK.out _ _ (by exact ⟨⟨H11.out.2.cell hHeld.1.1, H11.out.2.cell hHeld.1.2.1, H11.out.2.cell hHeld.1.2.2.1, H11.out.2.cell hHeld.1.2.2.2⟩, hHeld.2.trans H11.out.2⟩) (fun hHeld => ?_)
          clear hKK KK
          try simp only [Act.put, List.setIfInBounds_toArray, List.set_cons_zero, List.set_cons_succ]
          refine wpAnyH_ready (rs := [27]) (by kernel_rfl) (by simp) ?_
          refine AllReadyH.cons (i := 27) (o := { dst := some 80, op := Op.call { callee := Callee.value (Operand.func 16), args := #[Operand.tmp 79], argTypes := #[27] }, type := 3, pos := _, after := #[{ on := 26, ground := Ground.data }, { on := 26, ground := Ground.chain }, { on := 13, ground := Ground.guard }], guard := some (13, true) }) rfl (fun KK hKK => ?_) (AllReadyH.nil)
          go_simp
          go_at_call 16
          (with_reducible refine (HTF.out _ _ H11.out.1).mono ?_)
          rintro e w12 ⟨rfl, rfl⟩
          refine hKK.out _ _ (by exact hHeld) (fun hHeld => ?_)
          clear hKK KK
          try simp only [Act.put, List.setIfInBounds_toArray, List.set_cons_zero, List.set_cons_succ]
          refine wpAnyH_take (i := 28) (oi := { dst := some 81, op := Op.binOp BinOp.eql 3 (Operand.tmp 77) (Operand.tmp 80) 3, type := 4, pos := _, after := #[{ on := 24, ground := Ground.data }, { on := 27, ground := Ground.data }, { on := 13, ground := Ground.guard }], guard := some (13, true) }) (v := ?_) rfl (by kernel_rfl) (by kernel_rfl) (by kernel_rfl) (fun _ _ _ h => h) (Or.inl ⟨by rfl, ?hy⟩) (by assumption) ?_
          case hy => (intro w hSw; (try dsimp only at hSw); go_simp; try with_reducible rfl)
          try simp only [Act.put, List.setIfInBounds_toArray, List.set_cons_zero, List.set_cons_succ]
          refine wpAnyH_take (i := 29) (oi := { dst := some 82, op := Op.pick (Operand.tmp 66) (Operand.tmp 81) (Operand.const (Value.bool false)), type := 4, pos := _, after := #[{ on := 13, ground := Ground.data }, { on := 28, ground := Ground.data }], guard := none }) (v := ?_) rfl (by kernel_rfl) (by kernel_rfl) (by kernel_rfl) (fun _ _ _ h => h) (Or.inl ⟨by rfl, ?hy⟩) (by assumption) ?_
          case hy => (intro w hSw; (try dsimp only at hSw); go_simp; try with_reducible rfl)
          try simp only [Act.put, List.setIfInBounds_toArray, List.set_cons_zero, List.set_cons_succ]
          refine wpAnyH_take (i := 30) (oi := { dst := some 2, op := Op.assign (Operand.tmp 82), type := 4, pos := _, after := #[{ on := 29, ground := Ground.data }, { on := 27, ground := Ground.chain }, { on := 0, ground := Ground.phase }, { on := 1, ground := Ground.phase }, { on := 2, ground := Ground.phase }, { on := 3, ground := Ground.phase }, { on := 4, ground := Ground.phase }, { on := 5, ground := Ground.phase }, { on := 6, ground := Ground.phase }, { on := 7, ground := Ground.phase }, { on := 8, ground := Ground.phase }, { on := 9, ground := Ground.phase }, { on := 10, ground := Ground.phase }, { on := 11, ground := Ground.phase }, { on := 12, ground := Ground.phase }, { on := 13, ground := Ground.phase }, { on := 14, ground := Ground.phase }, { on := 15, ground := Ground.phase }, { on := 16, ground := Ground.phase }, { on := 17, ground := Ground.phase }, { on := 18, ground := Ground.phase }, { on := 19, ground := Ground.phase }, { on := 20, ground := Ground.phase }, { on := 21, ground := Ground.phase }, { on := 22, ground := Ground.phase }, { on := 23, ground := Ground.phase }, { on := 24, ground := Ground.phase }, { on := 25, ground := Ground.phase }, { on := 26, ground := Ground.phase }, { on := 27, ground := Ground.phase }, { on := 28, ground := Ground.phase }, { on := 29, ground := Ground.phase }], guard := none }) (v := ?_) rfl (by kernel_rfl) (by kernel_rfl) (by kernel_rfl) (fun _ _ _ h => h) (Or.inl ⟨by rfl, ?hy⟩) (by assumption) ?_
          case hy => (intro w hSw; (try dsimp only at hSw); go_simp; try with_reducible rfl)
          try simp only [Act.put, List.setIfInBounds_toArray, List.set_cons_zero, List.set_cons_succ]
          refine wpAnyH_done (by kernel_rfl) ?_ _
          refine NoPanic.normal ?_
          have HGF := Lib.hid hHeld.2
          clear hHeld HS4
          go_wp2
          go_ret
          exact ⟨ret_bool (by simp), HV.out.2.trans ((H2.out.2).trans (H3.out.2.trans (HG4.out.trans HGF.out)))⟩
end Go.Proofs.Ytkeeonjbkfgeeaa
