/- The contracts of impl.noughts and impl.SumsOf. -/
import Derived.Test.YtkeeonjbkfgeeaaInRows
import Derived.Test.YtkeeonjbkfgeeaaExact
import Derived.Test.YtkeeonjbkfgeeaaSumM
import Derived.StillTailTactics
namespace Go.Proofs.Ytkeeonjbkfgeeaa
open Go.RowKit

theorem RowsO.own {T E lo hi : Nat} {w : World} {v : Value} {H : List (List Int)} (h : RowsO T E lo hi w v H) : RowsO T E lo w.heap.size w v H := by
  obtain ⟨V, h1, h2, h3, h4⟩ := h
  exact ⟨V, h1, fun g e => (World.ownsRow.lt h1 g e).2, fun r hr => ⟨(h3 r hr).1, fun g e => (World.ownsRow.lt (h3 r hr).1 g e).2⟩, h4⟩
set_option maxRecDepth 100000 in
set_option maxHeartbeats 1000000 in
theorem noughts_any (n m : Nat) (w : World) (hn6 : n ≤ 6) (hm : 1 ≤ m) (hm6 : m ≤ 6) :
    Calls Try.prog 40 #[.int .i64 n, .int .i64 m] w (NewRows w (tabR n m fun _ _ => 0)) := by
  obtain ⟨N, eN⟩ : ∃ N, n * m = N := ⟨_, rfl⟩
  have hN36 : N ≤ 36 := by rw [← eN]; exact Nat.mul_le_mul hn6 hm6
  have hw : IntKind.i64.wrap ((n : Int) * (m : Int)) = (N : Int) := by rw [← Int.natCast_mul, eN]; exact IntWalk.i64_in _ (by omega)
  have HZ := Lib.hid (shapeL_zero n m)
  have HN := Lib.hid eN
  rw [eN] at HZ
  clear eN
  go_enter Try.func40, Try.ntmps40
  go_wp2_with (at_make; refine wpList_make_ints rfl (.tmp 7) (.tmp 7) 27 rfl Try.underlying27 Try.infoI rfl rfl rfl rfl (by omega) ?_; intro w1 hO1 hg1 hs1)
  have H1 := Lib.hid (And.intro hO1 hg1)
  clear hO1 hg1 hw
  refine (inRows6_own H1.out.1 hn6 hm hm6 HN.out).mono ?_
  rw [HZ.out]
  rintro e w2 ⟨v2, rfl, hO2, hg2⟩
  have H2 : Hid (RowsO 27 3 w.heap.size w2.heap.size w2 v2 (tabR n m fun _ _ => 0) ∧ Grew w w2) := ⟨hO2.wide (by omega) (Nat.le_refl _), H1.out.2.trans hg2⟩
  obtain ⟨a2, c2, rfl⟩ := hO2.sh
  clear hO2 hg2
  go_wp2
  go_ret
  exact ⟨_, rfl, H2.out⟩

/-- The sums of all cells above and ahead; nothing if it is no grid. -/
def sumsX (h : List (List Int)) : List (List Int) := if vGrid h = true then sumsL h (h.getD 0 []).length else []
theorem total_le (h : List (List Int)) (B : Nat) (hB : ∀ r, r < h.length → (h.getD r []).length ≤ B) : total h ≤ h.length * B := by
  have : ∀ k, k ≤ h.length → total (h.take k) ≤ k * B := fun k => by
    induction k with
    | zero => intro _; simp [total]
    | succ k ih =>
      intro hk
      have h1 := ih (by omega)
      have h2 := hB k (by omega)
      rw [total_snoc h k (by omega), Nat.succ_mul]
      omega
  have := this h.length (Nat.le_refl _)
  rwa [List.take_length] at this
theorem tabR_total (n m : Nat) (f : Nat → Nat → Int) : total (tabR n m f) ≤ n * m := by
  have := total_le (tabR n m f) m (fun r hr => by rw [tabR_len] at hr; rw [tabR_rowlen n m f r hr]; exact Nat.le_refl _)
  rwa [tabR_len] at this
theorem sumsX_total (h : List (List Int)) : total (sumsX h) ≤ 1000000 := by
  unfold sumsX
  split
  · rename_i hp
    have G := Grid.of hp
    have h1 := G.n5
    have h2 := G.m5
    refine Nat.le_trans (tabR_total _ _ _) (Nat.le_trans (Nat.mul_le_mul (show h.length + 1 ≤ 6 by omega) (show (h.getD 0 []).length + 1 ≤ 6 by omega)) (by decide))
  · simp [total]
set_option maxRecDepth 100000 in
set_option maxHeartbeats 4000000 in
theorem SumsOf_any (v : Value) (h : List (List Int)) (w : World) (hv : RowsV w v h) :
    Calls Try.prog 13 #[v] w (NewRows w (sumsX h)) := by
  have HK := Lib.hid (ValidGrid_any v h w hv)
  unfold sumsX
  cases hp : vGrid h with
  | false =>
    have HP := Lib.hid hp
    clear hp
    obtain ⟨a, b, o, c, rfl, _, _, _⟩ := hv.shape
    clear hv
    go_enter Try.func13, Try.ntmps13
    go_wp2_with (fail)
    refine HK.out.mono ?_
    rw [HP.out]
    rintro e w' ⟨rfl, rfl⟩
    go_wp2
    go_ret
    exact ⟨_, rfl, RowsO.nil _ _ _ _ _, Grew.refl _⟩
  | true =>
    have G := Grid.of hp
    have HP := Lib.hid hp
    clear hp
    obtain ⟨m, em⟩ : ∃ m, (h.getD 0 []).length = m := ⟨_, rfl⟩
    rw [em] at G ⊢
    rw [if_pos rfl]
    have HG := Lib.hid G
    have hh1 : 1 ≤ h.length := G.n1
    have hh5 : h.length ≤ 5 := G.n5
    have hm1 : 1 ≤ m := G.m1
    have hm5 : m ≤ 5 := G.m5
    have HNO : Hid (Calls Try.prog 40 #[.int .i64 ((h.length : Int) + 1), .int .i64 ((m : Int) + 1)] w (NewRows w (tabR (h.length + 1) (m + 1) fun _ _ => 0))) := by
      have := noughts_any (h.length + 1) (m + 1) w (by omega) (by omega) (by omega)
      rw [Int.natCast_succ, Int.natCast_succ] at this
      exact this
    obtain ⟨a, b, o, c, rfl, ⟨hlc, hcb⟩, ha, HC⟩ := hv.shape
    obtain rfl := ha hh1
    obtain ⟨u0, hc0, hu0⟩ := HC.out 0 hh1
    rw [Nat.add_zero] at hc0
    obtain ⟨a0, b0, o0, c0, rfl, _, _, _⟩ := hu0.shape
    rw [em] at hc0
    have hi0 : (0 : Int) < h.length := by omega
    clear ha hv hu0 G em
    go_enter Try.func13, Try.ntmps13
    go_wp2_with (fail)
    refine HK.out.mono ?_
    rw [HP.out]
    rintro e w' ⟨rfl, rfl⟩
    go_wp2_with (fail)
    refine HNO.out.mono ?_
    rintro e w1 ⟨v1, rfl, hO1, hg1⟩
    obtain ⟨g, c1, rfl, hgl, hgh, _, _⟩ := hO1.pos (by rw [tabR_len]; omega)
    rw [tabR_len] at hO1 ⊢
    obtain ⟨n1, en1⟩ : ∃ n1, h.length + 1 = n1 := ⟨_, rfl⟩
    obtain ⟨m1, em1⟩ : ∃ m1, m + 1 = m1 := ⟨_, rfl⟩
    have HNM := Lib.hid (And.intro en1 em1)
    rw [en1, em1, ← midS_zero h n1 m1] at hO1
    have H0 : Hid (RowsO 27 3 w.heap.size w1.heap.size w1 (.slice (some ⟨g, 0, none⟩) n1 c1) (tabR n1 m1 (midS h 0 0)) ∧ Grew w w1) := ⟨hO1, hg1⟩
    rw [en1]
    clear hO1 hg1 en1 em1 hc0 hi0 HK HNO
    go_wp2
    go_loopw [22] (fun i wr => ∃ r : Nat, r ≤ h.length ∧ i = .int .i64 r ∧ Hid (RowsO 27 3 w.heap.size w1.heap.size wr (.slice (some ⟨g, 0, none⟩) n1 c1) (tabR n1 m1 (midS h r 0)) ∧ Grew w wr)) (fun i _ => h.length - (intOf i).toNat)
    case atStart => exact ⟨0, Nat.zero_le _, rfl, H0⟩
    case round =>
      obtain ⟨r, hr, rfl, HI⟩ := hrel
      clear H0
      by_cases hlt : r < h.length
      · obtain ⟨u, hcu', hu⟩ := HC.out r hlt
        have hcu := HI.out.2.cell hcu'
        obtain ⟨a1, b1, o1, c2, rfl, ⟨hlc1, hcb1⟩, ha1, HR⟩ := hu.shape
        have hrl : (h.getD r []).length = m := HG.out.len r hlt
        obtain rfl := ha1 (by omega)
        rw [hrl] at hcu hlc1 HR
        have hri : (r : Int) < h.length := by omega
        clear hcu' hu ha1 hrl
        go_wp2
        go_loopw [29] (fun i wi => ∃ c' : Nat, c' ≤ m ∧ i = .int .i64 c' ∧ Hid (RowsO 27 3 w.heap.size w1.heap.size wi (.slice (some ⟨g, 0, none⟩) n1 c1) (tabR n1 m1 (midS h r c')) ∧ Grew w wi)) (fun i _ => m - (intOf i).toNat)
        case atStart => exact ⟨0, Nat.zero_le _, rfl, HI⟩
        case round =>
          obtain ⟨k, hk, rfl, HJ⟩ := hrel
          by_cases hkt : k < m
          · have hrn : r + 1 < n1 := by have := HNM.out.1; omega
            have hkm : k + 1 < m1 := by have := HNM.out.2; omega
            have hcx := HJ.out.2.cell (HR.out k hkt)
            have hnx := preS_next h r k
            have hb1 := preS_bd HG.out r (k + 1) (by omega) (by omega)
            have hb2 := preS_bd HG.out (r + 1) k (by omega) (by omega)
            have hb3 := preS_bd HG.out r k (by omega) (by omega)
            have hb4 := preS_bd HG.out (r + 1) (k + 1) (by omega) (by omega)
            have hb5 := HG.out.num r hlt k hkt
            have hst := midS_set h n1 m1 r k hrn (preS h (r + 1) (k + 1)) rfl
            obtain ⟨u1, hk1, hU1⟩ := HJ.out.1.at rfl (i := r) (by rw [tabR_len]; omega)
            obtain ⟨u2, hk2, hU2⟩ := HJ.out.1.at rfl (i := r + 1) (by rw [tabR_len]; omega)
            obtain ⟨g1, d1, rfl, _, _, _, _⟩ := hU1.pos (by rw [tabR_rowlen _ _ _ _ (by omega)]; omega)
            obtain ⟨g2, d2, rfl, hg2l, _, _, _⟩ := hU2.pos (by rw [tabR_rowlen _ _ _ _ (by omega)]; omega)
            have q1 := (hU1.at rfl (i := k + 1) (by rw [tabR_rowlen _ _ _ _ (by omega)]; omega)).1
            have q2 := (hU2.at rfl (i := k) (by rw [tabR_rowlen _ _ _ _ (by omega)]; omega)).1
            have q3 := (hU1.at rfl (i := k) (by rw [tabR_rowlen _ _ _ _ (by omega)]; omega)).1
            have q4 := (hU2.at rfl (i := k + 1) (by rw [tabR_rowlen _ _ _ _ (by omega)]; omega))
            rw [tabR_at _ _ _ _ _ (by omega) (by omega), midS, if_pos (.inl (Nat.le_refl _))] at q1 q3
            rw [tabR_at _ _ _ _ _ (by omega) (by omega), midS, if_pos (.inr ⟨rfl, Nat.le_refl _⟩)] at q2
            obtain ⟨q4, q5⟩ := q4
            rw [tabR_rowlen _ _ _ _ (by omega)] at hk1
            rw [tabR_rowlen _ _ _ _ (by omega)] at hk2
            have HST : Hid (∀ x, x = preS h (r + 1) (k + 1) → RowsO 27 3 w.heap.size w1.heap.size (wr.drew.setCell ⟨g2, k + 1, none⟩ (.int .i64 x)) (.slice (some ⟨g, 0, none⟩) n1 c1) (tabR n1 m1 (midS h r (k + 1))) ∧ Grew w (wr.drew.setCell ⟨g2, k + 1, none⟩ (.int .i64 x))) := Lib.hid fun x ex => by
              subst ex
              have := (HJ.out.1.grew (Grew.refl _).drew).set (by decide) rfl (i := r + 1) (by rw [tabR_len]; omega) hk2 (k + 1) (preS h (r + 1) (k + 1))
              rw [hst] at this
              exact ⟨this, Within.grew (lo := g2) (hi := g2 + 1) HJ.out.2.drew ((Within.refl _ _ _).setCell (p := ⟨g2, k + 1, none⟩) (Nat.le_refl _) (Nat.lt_succ_self _) _) hg2l⟩
            obtain ⟨pa, epa⟩ : ∃ x, preS h r (k + 1) = x := ⟨_, rfl⟩
            obtain ⟨pb, epb⟩ : ∃ x, preS h (r + 1) k = x := ⟨_, rfl⟩
            obtain ⟨pc, epc⟩ : ∃ x, preS h r k = x := ⟨_, rfl⟩
            obtain ⟨pd, epd⟩ : ∃ x, preS h (r + 1) (k + 1) = x := ⟨_, rfl⟩
            obtain ⟨x, ex⟩ : ∃ x, (h.getD r []).getD k 0 = x := ⟨_, rfl⟩
            obtain ⟨y, ey⟩ : ∃ y, ((tabR n1 m1 (midS h r k)).getD (r + 1) []).getD (k + 1) 0 = y := ⟨_, rfl⟩
            rw [show cellS h r k = (h.getD r []).getD k 0 from rfl] at hnx
            rw [epa, epb, epc, epd, ex] at hnx
            rw [epa] at q1 hb1
            rw [epb] at q2 hb2
            rw [epc] at q3 hb3
            rw [epd] at hb4 HST
            rw [ey] at q4
            rw [ex] at hcx hb5
            have HE : Hid (pa + pb - pc + x = pd) := Lib.hid (by omega)
            have w1' : IntKind.i64.wrap (pa + pb) = pa + pb := IntWalk.i64_in _ (by omega)
            have w2' : IntKind.i64.wrap (pa + pb - pc) = pa + pb - pc := IntWalk.i64_in _ (by omega)
            have w3' : IntKind.i64.wrap (pa + pb - pc + x) = pa + pb - pc + x := IntWalk.i64_in _ (by omega)
            have w4' : IntKind.i64.wrap ((r : Int) + 1) = (r : Int) + 1 := IntWalk.i64_in _ (by omega)
            have w5' : IntKind.i64.wrap ((k : Int) + 1) = (k : Int) + 1 := IntWalk.i64_in _ (by omega)
            have z1 : (0 : Int) ≤ (r : Int) + 1 := by omega
            have z2 : (0 : Int) ≤ (k : Int) + 1 := by omega
            have z3 : (r : Int) + 1 < n1 := by omega
            have z4 : (k : Int) + 1 < m1 := by omega
            have z5 : (r : Int) < n1 := by omega
            have z6 : (k : Int) < m1 := by omega
            have z7 : (k : Int) < m := by omega
            have t1 : ((r : Int) + 1).toNat = r + 1 := by omega
            have t2 : ((k : Int) + 1).toNat = k + 1 := by omega
            clear hnx hst epa epb epc epd ex ey hU1 hU2
            go_wp2
            go_still_tail 35, (by kernel_rfl)
            change wpList _ _ _ _ _ wr.drew
            have q4' : wr.drew.cell? ⟨g2, k + 1, none⟩ = some (.int .i64 y) := q4
            have q5' : wr.drew.frozen? ⟨g2, k + 1, none⟩ = false := q5
            have HST2 := Lib.hid (HST.out _ HE.out)
            obtain ⟨W3, hW3⟩ : ∃ W3, wr.drew = W3 := ⟨_, rfl⟩
            rw [hW3] at q4' q5' HST2 ⊢
            clear hW3 q4 q5 HST hcx q1 q2 q3 hk1 hk2
            go_wp2
            clear w1' w2' w3' w4' w5' t1 t2
            go_roundw
            case rel => exact ⟨k + 1, by omega, by go_num, HST2.out⟩
            case measure => simp [intOf]; omega
          · obtain rfl : k = m := by omega
            have HNx : Hid (RowsO 27 3 w.heap.size w1.heap.size wr (.slice (some ⟨g, 0, none⟩) n1 c1) (tabR n1 m1 (midS h (r + 1) 0)) ∧ Grew w wr) := by
              have := HJ.out
              rw [← HNM.out.2, midS_next] at this
              rw [← HNM.out.2]
              exact this
            go_wp2
            go_roundw
            case rel => exact ⟨r + 1, by omega, by go_num, HNx.out⟩
            case measure => simp [intOf]; omega
      · obtain rfl : r = h.length := by omega
        have HF : Hid (RowsO 27 3 w.heap.size wr.heap.size wr (.slice (some ⟨g, 0, none⟩) n1 c1) (sumsL h m) ∧ Grew w wr) := by
          have := HI.out
          rw [← HNM.out.1, ← HNM.out.2, midS_end] at this
          rw [← HNM.out.1]
          exact ⟨this.1.own, this.2⟩
        go_wp2
        go_ret
        exact ⟨_, rfl, HF.out⟩
end Go.Proofs.Ytkeeonjbkfgeeaa
