/- The contract of spec.SmoothUp. -/
import Derived.Test.YtlifjhhjkcmneaaPava2
import Derived.Test.YtlifjhhjkcmneaaStepFr
import Derived.Test.YtlifjhhjkcmneaaSMeans
namespace Go.Proofs.Ytlifjhhjkcmneaa
open Go.RowKit

theorem Try.infoSBlk : (Try.prog.info? 63).map (fun i => (i.zero, i.size, i.bytes)) = some (some (.agg #[.int .i64 0, .int .i64 0]), 2, 16) := by kernel_rfl
theorem smallB {L : List (Int × Int)} {k : Nat} (h : goodL L k) (hk : k ≤ 9) (j : Nat) (hj : j < L.length) : (0 ≤ (L.getD j (0, 0)).1 ∧ (L.getD j (0, 0)).1 ≤ 108) ∧ 1 ≤ (L.getD j (0, 0)).2 ∧ (L.getD j (0, 0)).2 ≤ 9 := by
  have := goodL_each h j hj
  unfold okB at this
  omega
set_option maxRecDepth 100000 in
set_option maxHeartbeats 8000000 in
theorem SSmoothUp_any (v : Value) (p : List Int) (w : World) (hv : IntsV w v p) :
    Calls Try.prog 20 #[v] w (FracPost w (stackX p)) := by
  have HV := Lib.hid (sValidProfile0_any v p w hv)
  unfold stackX
  cases hp : vProf p with
  | false =>
    obtain ⟨a, b, o, c, rfl, _, _, _⟩ := hv.shape
    have HP := Lib.hid hp
    clear hp hv
    go_enter Try.func20, Try.ntmps20
    go_wp2_with (fail)
    refine HV.out.mono ?_
    rw [HP.out]
    rintro e w1 ⟨rfl, rfl⟩
    go_wp2
    go_ret
    exact ⟨_, rfl, FrO.nil _ _ _ _, Grew.refl _⟩
  | true =>
    have HP := Lib.hid hp
    have hvp := (vProf_iff p).1 hp
    have h9 := hvp.2.1
    have HB := Lib.hid hvp.2.2
    have HG := Lib.hid (stackP_good hp)
    obtain ⟨ap, bp, op, cp, rfl, _, hap, HC⟩ := hv.shape
    obtain rfl := hap (by omega)
    clear hp hv hvp hap
    go_enter Try.func20, Try.ntmps20
    go_wp2_with (fail)
    refine HV.out.mono ?_
    rw [HP.out]
    rintro e w1 ⟨rfl, rfl⟩
    go_wp2
    go_loopw [3, 4] (fun sv iv wr => ∃ (k m : Nat) (g c : Nat), sv = .slice (some ⟨g, 0, none⟩) m c ∧ iv = .int .i64 k ∧ k ≤ p.length ∧ Hid (FrO 63 w.heap.size wr.heap.size wr sv (stackP p k) ∧ (stackP p k).length = m ∧ Grew w wr)) (fun _ iv _ => p.length - (intOf iv).toNat)
    case atStart => exact ⟨0, 0, _, 0, rfl, rfl, Nat.zero_le _, (FrO.lit 63 w.heap.size w [] #[] rfl (Nat.le_refl _) (Nat.zero_le _)).wide (Nat.le_refl _) (by simp), rfl, (Grew.refl _).alloc _⟩
    case round =>
      obtain ⟨k, m0, g, c, rfl, rfl, hk, HI⟩ := hrel
      obtain ⟨wo, rfl⟩ : ∃ wo : World, wo = wr := ⟨_, rfl⟩
      by_cases hlt : k < p.length
      · have r1 : (k : Int) < p.length := by omega
        have r2 : (0 : Int) ≤ k := by omega
        have hcp := HI.out.2.2.cell (HC.out k hlt)
        have hbk := HB.out k hlt
        obtain ⟨L, eL⟩ : ∃ L, stackP p k = L := ⟨_, rfl⟩
        have hnx : stackP p (k + 1) = pushN L m0 (p.getD k 0, 1) := by
          show pushN (stackP p k) (stackP p k).length _ = _
          rw [eL, ← HI.out.2.1, eL]
        have hgL := HG.out k hk
        rw [eL] at hgL
        have HIL : Hid (FrO 63 w.heap.size wo.heap.size wo (.slice (some ⟨g, 0, none⟩) m0 c) L ∧ L.length = m0 ∧ Grew w wo) := by rw [← eL]; exact HI.out
        have hm9 : m0 ≤ 9 := by have := goodL_len hgL; have := HIL.out.2.1; omega
        obtain ⟨x, ex⟩ : ∃ x, p.getD k 0 = x := ⟨_, rfl⟩
        rw [ex] at hcp hbk hnx
        obtain ⟨R, eR⟩ : ∃ R, stackP p (k + 1) = R := ⟨_, rfl⟩
        rw [eR] at hnx
        have HNX := Lib.hid hnx
        have HER := Lib.hid eR
        have HGL := Lib.hid hgL
        have hB0 : Hid ((wo.alloc (.cells #[.int .i64 x, .int .i64 1] 63)).heap[wo.heap.size]? = some (.cells #[.int .i64 x, .int .i64 1] 63 (0, 0)) ∧ pushN L m0 (x, 1) = R ∧ okB (x, 1) ∧ sizeT L m0 + 1 = ((k + 1 : Nat) : Int) ∧ Grew wo (wo.alloc (.cells #[.int .i64 x, .int .i64 1] 63))) :=
          ⟨heap_alloc_new wo _, hnx.symm, ⟨by simp only; omega, Int.le_refl _⟩, by have := hgL.2; rw [HIL.out.2.1] at this; rw [this]; omega, (Grew.refl wo).alloc _⟩
        clear eL hnx hgL ex eR HI
        go_wp2
        go_loopw [3] (fun lv wr => ∃ (m : Nat) (b : Int × Int), lv = .slice (some ⟨g, 0, none⟩) m c ∧ m ≤ m0 ∧ Hid (wr.heap[wo.heap.size]? = some (.cells #[.int .i64 b.1, .int .i64 b.2] 63 (0, 0)) ∧ pushN L m b = R ∧ okB b ∧ sizeT L m + b.2 = ((k + 1 : Nat) : Int) ∧ Grew wo wr)) (fun lv _ => match lv with | .slice _ n _ => n | _ => 0)
        case atStart => exact ⟨m0, (x, 1), rfl, Nat.le_refl _, hB0.out⟩
        case round =>
          clear hB0
          obtain ⟨m, b, rfl, hm, HJ⟩ := hrel
          have hB := HJ.out.1
          have hbo := HJ.out.2.2.1
          have hsz := HJ.out.2.2.2.1
          have hge := sizeT_ge L m fun j hj => HGL.out.1 j (by have := HIL.out.2.1; omega)
          obtain ⟨b1, b2⟩ := b
          unfold okB at hbo
          simp only at hB hbo hsz
          have hb1 : wr.cell? ⟨wo.heap.size, 0, none⟩ = some (.int .i64 b1) := by simp [World.cell?, hB]
          have hb2 : wr.cell? ⟨wo.heap.size, 1, none⟩ = some (.int .i64 b2) := by simp [World.cell?, hB]
          have hbf1 : wr.frozen? ⟨wo.heap.size, 0, none⟩ = false := by simp [World.frozen?, hB]
          have hbf2 : wr.frozen? ⟨wo.heap.size, 1, none⟩ = false := by simp [World.frozen?, hB]
          have hbl : wo.heap.size < wr.heap.size := (Array.getElem?_eq_some_iff.1 hB).1
          have hbd : (0 ≤ b1 ∧ b1 ≤ 108) ∧ 1 ≤ b2 ∧ b2 ≤ 9 := by omega
          have HBD := Lib.hid hbd
          have HHB := Lib.hid hB
          clear hB hbo hsz hge hbd
          match m, hm, HJ with
          | m + 1, hm, HJ =>
            have hml : m < L.length := by have := HIL.out.2.1; omega
            have hcc := HIL.out.1.at rfl hml
            have hl1 := HJ.out.2.2.2.2.cell hcc.1
            have hl2 := HJ.out.2.2.2.2.cell hcc.2.1
            have hls := smallB HGL.out (by omega) m hml
            obtain ⟨l, el⟩ : ∃ l, L.getD m (0, 0) = l := ⟨_, rfl⟩
            rw [el] at hl1 hl2 hls
            obtain ⟨l1, l2⟩ := l
            simp only at hl1 hl2 hls
            have HEL := Lib.hid el
            have e1 : ((m + 1 : Nat) : Int) - 1 = (m : Int) := by omega
            have e2 : (0 : Int) < ((m + 1 : Nat) : Int) := by omega
            have w1' : IntKind.i64.wrap (m : Int) = (m : Int) := wrap_12 _ (by omega) (by omega)
            have w2' : IntKind.i64.wrap (l1 * b2) = l1 * b2 := mulF _ _ (by have := HBD.out; omega) (by have := HBD.out; omega)
            have w3' : IntKind.i64.wrap (b1 * l2) = b1 * l2 := mulF _ _ (by have := HBD.out; omega) (by have := HBD.out; omega)
            have r3 : (m : Int) < ((m + 1 : Nat) : Int) := by omega
            have r4 : (0 : Int) ≤ m := by omega
            obtain ⟨mm, emm⟩ : ∃ mm, m + 1 = mm := ⟨_, rfl⟩
            have HMM := Lib.hid emm
            have r5 : m < mm := by omega
            have r6 : 0 < mm := by omega
            have r7 : decide ((0 : Int) < (mm : Int)) = true := by simp; omega
            rw [emm] at e1 e2 r3 ⊢
            clear el emm hcc
            by_cases hj : b1 * l2 ≤ l1 * b2
            · have hdj : decide (b1 * l2 ≤ l1 * b2) = true := by simpa using hj
              have hmu : mustJ (L.getD m (0, 0)) (b1, b2) := by rw [HEL.out]; exact hj
              have hpn : pushN L m (l1 + b1, l2 + b2) = R := by
                have := HJ.out.2.1
                rw [pushN, if_pos hmu, HEL.out] at this
                exact this
              go_wp2
              go_quiet (fail)
              generalize hW3 : World.drewN wr _ = W3
              have hG3 : Grew wr W3 := by rw [← hW3]; exact (Grew.refl _).drewN _
              have hB3 : W3.heap[wo.heap.size]? = some (.cells #[.int .i64 b1, .int .i64 b2] 63 (0, 0)) := by rw [hG3.block hbl]; exact HHB.out
              have hbl3 : wo.heap.size < W3.heap.size := (Array.getElem?_eq_some_iff.1 hB3).1
              have hn1 := hG3.cell hl1
              have hn2 := hG3.cell hl2
              have hgl := World.block_lt_of_cell? _ _ hn1
              simp only [] at hgl
              have HB3 := Lib.hid hB3
              have HG3 := Lib.hid (HJ.out.2.2.2.2.trans hG3)
              clear hb1 hb2 hbf1 hbf2 hbl hl1 hl2 hW3 hG3
              have hc1 : W3.cell? ⟨wo.heap.size, 0, none⟩ = some (.int .i64 b1) := by simp [World.cell?, hB3]
              have hc2 : W3.cell? ⟨wo.heap.size, 1, none⟩ = some (.int .i64 b2) := by simp [World.cell?, hB3]
              have hf1 : W3.frozen? ⟨wo.heap.size, 0, none⟩ = false := by simp [World.frozen?, hB3]
              have hf2 : W3.frozen? ⟨wo.heap.size, 1, none⟩ = false := by simp [World.frozen?, hB3]
              have w4' : IntKind.i64.wrap (l1 + b1) = l1 + b1 := wrap_12 _ (by have := HBD.out; omega) (by have := HBD.out; omega)
              have w5' : IntKind.i64.wrap (l2 + b2) = l2 + b2 := wrap_12 _ (by have := HBD.out; omega) (by have := HBD.out; omega)
              have hmc : mm ≤ c := by
                have := HMM.out
                rcases HIL.out.1.shape with ⟨e, _⟩ | ⟨_, _, e, _, _, h5, _⟩
                · simp at e
                · simp only [Value.slice.injEq] at e
                  obtain ⟨_, e1, e2⟩ := e
                  omega
              have r8 : (m : Int) ≤ c := by omega
              have r9 : m ≤ c := by omega
              have HN : Hid ((((W3.setCell ⟨wo.heap.size, 0, none⟩ (.int .i64 (l1 + b1))).setCell ⟨wo.heap.size, 1, none⟩ (.int .i64 (l2 + b2))).alloc (.cells #[.int .i64 l1, .int .i64 l2] 63)).heap[wo.heap.size]? = some (.cells #[.int .i64 (l1 + b1), .int .i64 (l2 + b2)] 63 (0, 0)) ∧ Grew wo (((W3.setCell ⟨wo.heap.size, 0, none⟩ (.int .i64 (l1 + b1))).setCell ⟨wo.heap.size, 1, none⟩ (.int .i64 (l2 + b2))).alloc (.cells #[.int .i64 l1, .int .i64 l2] 63))) := by
                refine ⟨?_, (two_grewF (Nat.le_refl _) HG3.out).alloc _⟩
                rw [((Grew.refl _).alloc _).block (by simpa using hbl3)]
                exact two_heapF HB3.out
              have HOB : Hid (okB (l1 + b1, l2 + b2) ∧ sizeT L m + (l2 + b2) = ((k + 1 : Nat) : Int)) := Lib.hid (by
                have h1 := HJ.out.2.2.1
                have h2 := HJ.out.2.2.2.1
                have h3 := HGL.out.1 m hml
                have e3 : sizeT L (m + 1) = sizeT L m + (L.getD m (0, 0)).2 := rfl
                rw [HEL.out] at h3 e3
                unfold okB at h1 h3 ⊢
                simp only at h1 h2 h3 e3 ⊢
                omega)
              have HPN := Lib.hid hpn
              clear hB3 hpn hmu hj
              go_wp2
              go_roundw
              case rel => exact ⟨m, (l1 + b1, l2 + b2), rfl, by have := HMM.out; omega, HN.out.1, HPN.out, HOB.out.1, HOB.out.2, HN.out.2⟩
              case measure => have := HMM.out; simp; omega
            · have hdj : decide (b1 * l2 ≤ l1 * b2) = false := by simpa using hj
              have hmu : ¬ mustJ (L.getD m (0, 0)) (b1, b2) := by rw [HEL.out]; exact hj
              have hpn : L.take (m + 1) ++ [(b1, b2)] = R := by
                have := HJ.out.2.1
                rw [pushN, if_neg hmu] at this
                exact this
              go_wp2
              go_quiet (fail)
              generalize hW3 : World.drewN wr _ = W3
              have hG3 : Grew wr W3 := by rw [← hW3]; exact (Grew.refl _).drewN _
              have hB3 : W3.heap[wo.heap.size]? = some (.cells #[.int .i64 b1, .int .i64 b2] 63 (0, 0)) := by rw [hG3.block hbl]; exact HHB.out
              have hbl3 : wo.heap.size < W3.heap.size := (Array.getElem?_eq_some_iff.1 hB3).1
              have HB3 := Lib.hid hB3
              have HG3 := Lib.hid (HJ.out.2.2.2.2.trans hG3)
              clear hb1 hb2 hbf1 hbf2 hbl hl1 hl2 hW3 hG3
              have hc1 : W3.cell? ⟨wo.heap.size, 0, none⟩ = some (.int .i64 b1) := by simp [World.cell?, hB3]
              have hc2 : W3.cell? ⟨wo.heap.size, 1, none⟩ = some (.int .i64 b2) := by simp [World.cell?, hB3]
              have HS0 : Hid (Grew W3 W3 ∧ W3.cell? ⟨wo.heap.size, 0, none⟩ = some (.int .i64 b1) ∧ W3.cell? ⟨wo.heap.size, 1, none⟩ = some (.int .i64 b2)) := ⟨Grew.refl _, hc1, hc2⟩
              clear hB3 hc1 hc2
              go_wp2_with (fail)
              have HLT : Hid ((L.take mm).length = mm) := Lib.hid (by rw [List.length_take]; have := HIL.out.2.1; omega)
              have HCL : Hid (∀ W, Grew wo W → ∀ j, j < (L.take mm).length → W.cell? ⟨g, 0 + j * 2, none⟩ = some (.int .i64 ((L.take mm).getD j (0, 0)).1) ∧ W.cell? ⟨g, 0 + j * 2 + 1, none⟩ = some (.int .i64 ((L.take mm).getD j (0, 0)).2)) := fun W hW j hj => by
                rw [HLT.out] at hj
                have h := HIL.out.1.at rfl (i := j) (by have := HIL.out.2.1; omega)
                have e : (L.take mm).getD j (0, 0) = L.getD j (0, 0) := by simp only [List.getD_eq_getElem?_getD, List.getElem?_take_of_lt hj]
                rw [e, Nat.zero_add]
                exact ⟨hW.cell h.1, hW.cell h.2.1⟩
              have hm10 : mm ≤ 9 := by omega
              have hsw : w.heap.size ≤ W3.heap.size := (HIL.out.2.2.trans HG3.out).size
              have HSG : Hid (∀ W, Grew W3 W → Grew W3 W ∧ W.cell? ⟨wo.heap.size, 0, none⟩ = some (.int .i64 b1) ∧ W.cell? ⟨wo.heap.size, 1, none⟩ = some (.int .i64 b2)) := fun W h => ⟨h, h.cell HS0.out.2.1, h.cell HS0.out.2.2⟩
              have F1 : Hid (FrO 63 W3.heap.size (W3.heap.size + 1) (W3.alloc (.cells #[] 63)) (.slice (some ⟨W3.heap.size, 0, none⟩) 0 0) []) := FrO.lit 63 W3.heap.size W3 [] #[] rfl (Nat.le_refl _) (Nat.zero_le _)
              have F2 : Hid (FrO 63 W3.heap.size (W3.heap.size + 1) ((W3.alloc (.cells #[] 63)).alloc (.cells #[.int .i64 b1, .int .i64 b2] 63)) (.slice (some ⟨W3.heap.size, 0, none⟩) 0 0) []) := F1.out.grew ((Grew.refl _).alloc _)
              have F3 : Hid (FrO 63 (W3.heap.size + 1) (W3.heap.size + 1 + 1) ((W3.alloc (.cells #[.int .i64 b1, .int .i64 b2] 63)).alloc (.cells #[] 63)) (.slice (some ⟨W3.heap.size + 1, 0, none⟩) 0 0) []) := by
                have := FrO.lit 63 (W3.heap.size + 1) (W3.alloc (.cells #[.int .i64 b1, .int .i64 b2] 63)) [] #[] rfl (by simp) (Nat.zero_le _)
                exact (by simpa using this : FrO _ _ _ _ _ _)
              have HTK : Hid (L.take mm ++ [(b1, b2)] = R) := by rw [← HMM.out]; exact Lib.hid hpn
              clear hpn hmu hj
              go_region_held3 (fun W => Grew W3 W ∧ W.cell? ⟨wo.heap.size, 0, none⟩ = some (.int .i64 b1) ∧ W.cell? ⟨wo.heap.size, 1, none⟩ = some (.int .i64 b2))
                (first
                  | assumption
                  | exact HSG.out _ (Grew.refl _)
                  | exact HSG.out _ (Grew.refl _).drew
                  | (refine HSG.out _ ?_; repeat (first | assumption | exact HG5.out | exact HG6.out | exact Grew.refl _ | exact (Grew.refl _).drew | refine Grew.alloc ?_ _ | refine Grew.drew ?_)))
                (first
                  | (refine step_append_frs (w := (W3.alloc (.cells #[] 63)).drew) (q := []) (r := L.take mm) (lo := W3.heap.size) (hi := W3.heap.size + 1) (v := .slice (some ⟨W3.heap.size, 0, none⟩) 0 0) (b := g) (o' := 0) (n := mm) (c := c) rfl (.tmp 73) (.tmp 74) 61 rfl Try.underlying61 Try.infoSBlk rfl rfl HLT.out.symm (HCL.out _ (by repeat (first | exact HG3.out | refine Grew.alloc ?_ _ | refine Grew.drew ?_))) (F1.out.grew (by repeat (first | exact Grew.refl _ | refine Grew.alloc ?_ _ | refine Grew.drew ?_))) (by rw [HLT.out]; simp <;> omega) (by simp <;> omega) ?_; rw [HLT.out]; simp only [List.length_nil, Nat.zero_add, List.nil_append]; intro a5 c5 w5 hO5 hW5; have HG5 : Hid (Grew W3 w5) := Within.grew (by repeat (first | exact Grew.refl _ | refine Grew.alloc ?_ _ | refine Grew.drew ?_)) hW5 (by omega); have HO5 := Lib.hid hO5)
                  | (refine step_append_frs (w := ((W3.alloc (.cells #[] 63)).alloc (.cells #[.int .i64 b1, .int .i64 b2] 63)).drew) (q := []) (r := L.take mm) (lo := W3.heap.size) (hi := W3.heap.size + 1) (v := .slice (some ⟨W3.heap.size, 0, none⟩) 0 0) (b := g) (o' := 0) (n := mm) (c := c) rfl (.tmp 73) (.tmp 74) 61 rfl Try.underlying61 Try.infoSBlk rfl rfl HLT.out.symm (HCL.out _ (by repeat (first | exact HG3.out | refine Grew.alloc ?_ _ | refine Grew.drew ?_))) (F2.out.grew (by repeat (first | exact Grew.refl _ | refine Grew.alloc ?_ _ | refine Grew.drew ?_))) (by rw [HLT.out]; simp <;> omega) (by simp <;> omega) ?_; rw [HLT.out]; simp only [List.length_nil, Nat.zero_add, List.nil_append]; intro a5 c5 w5 hO5 hW5; have HG5 : Hid (Grew W3 w5) := Within.grew (by repeat (first | exact Grew.refl _ | refine Grew.alloc ?_ _ | refine Grew.drew ?_)) hW5 (by omega); have HO5 := Lib.hid hO5; have hk1 := hW5.cell (p := ⟨W3.heap.size + 1, 0, none⟩) (v := .int .i64 b1) (by simp) (.inr (Nat.le_refl _)); have hk2 := hW5.cell (p := ⟨W3.heap.size + 1, 1, none⟩) (v := .int .i64 b2) (by simp) (.inr (Nat.le_refl _)))
                  | (refine step_append_frs (w := ((W3.alloc (.cells #[.int .i64 b1, .int .i64 b2] 63)).alloc (.cells #[] 63)).drew) (q := []) (r := L.take mm) (lo := W3.heap.size + 1) (hi := W3.heap.size + 1 + 1) (v := .slice (some ⟨W3.heap.size + 1, 0, none⟩) 0 0) (b := g) (o' := 0) (n := mm) (c := c) rfl (.tmp 73) (.tmp 74) 61 rfl Try.underlying61 Try.infoSBlk rfl rfl HLT.out.symm (HCL.out _ (by repeat (first | exact HG3.out | refine Grew.alloc ?_ _ | refine Grew.drew ?_))) (F3.out.grew (by repeat (first | exact Grew.refl _ | refine Grew.alloc ?_ _ | refine Grew.drew ?_))) (by rw [HLT.out]; simp <;> omega) (by simp <;> omega) ?_; rw [HLT.out]; simp only [List.length_nil, Nat.zero_add, List.nil_append]; intro a5 c5 w5 hO5 hW5; have HG5 : Hid (Grew W3 w5) := Within.grew (by repeat (first | exact Grew.refl _ | refine Grew.alloc ?_ _ | refine Grew.drew ?_)) hW5 (by omega); have HO5 := Lib.hid hO5; have hk1 := hW5.cell (p := ⟨W3.heap.size, 0, none⟩) (v := .int .i64 b1) (by simp) (.inl (Nat.lt_succ_self _)); have hk2 := hW5.cell (p := ⟨W3.heap.size, 1, none⟩) (v := .int .i64 b2) (by simp) (.inl (Nat.lt_succ_self _)))
                  | (refine step_append_frs (q := L.take mm) (r := [(b1, b2)]) (lo := W3.heap.size) (hi := w5.heap.size) (v := .slice a5 mm c5) (b := w5.heap.size) (o' := 0) (n := 1) (c := 1) rfl (.tmp 75) (.tmp 77) 61 rfl Try.underlying61 Try.infoSBlk rfl rfl rfl (fun j hj => by obtain rfl : j = 0 := (by simpa using hj); exact ⟨by simp, by simp⟩) (HO5.out.grew (by repeat (first | exact Grew.refl _ | refine Grew.alloc ?_ _ | refine Grew.drew ?_))) (by rw [HLT.out]; simp <;> omega) (by have := HG5.out.size; simp <;> omega) ?_; rw [HLT.out]; intro a6 c6 w6 hO6 hW6; have HG6 : Hid (Grew W3 w6) := Within.grew (HG5.out.trans (by repeat (first | exact Grew.refl _ | refine Grew.alloc ?_ _ | refine Grew.drew ?_))) hW6 (by omega); have HO6 := Lib.hid (hO6.wide (lo' := W3.heap.size) (by omega) (Nat.le_refl _)))
                  | (refine step_append_frs (q := L.take mm) (r := [(b1, b2)]) (lo := W3.heap.size) (hi := w5.heap.size) (v := .slice a5 mm c5) (b := W3.heap.size + 1) (o' := 0) (n := 1) (c := 1) rfl (.tmp 75) (.tmp 77) 61 rfl Try.underlying61 Try.infoSBlk rfl rfl rfl (fun j hj => by obtain rfl : j = 0 := (by simpa using hj); exact ⟨by simpa using hk1, by simpa using hk2⟩) (HO5.out.grew (by repeat (first | exact Grew.refl _ | refine Grew.alloc ?_ _ | refine Grew.drew ?_))) (by rw [HLT.out]; simp <;> omega) (by have := HG5.out.size; simp <;> omega) ?_; rw [HLT.out]; intro a6 c6 w6 hO6 hW6; have HG6 : Hid (Grew W3 w6) := Within.grew (HG5.out.trans (by repeat (first | exact Grew.refl _ | refine Grew.alloc ?_ _ | refine Grew.drew ?_))) hW6 (by omega); have HO6 := Lib.hid (hO6.wide (lo' := W3.heap.size) (by omega) (Nat.le_refl _)))
                  | (refine step_append_frs (q := L.take mm) (r := [(b1, b2)]) (lo := W3.heap.size + 1) (hi := w5.heap.size) (v := .slice a5 mm c5) (b := W3.heap.size) (o' := 0) (n := 1) (c := 1) rfl (.tmp 75) (.tmp 77) 61 rfl Try.underlying61 Try.infoSBlk rfl rfl rfl (fun j hj => by obtain rfl : j = 0 := (by simpa using hj); exact ⟨by simpa using hk1, by simpa using hk2⟩) (HO5.out.grew (by repeat (first | exact Grew.refl _ | refine Grew.alloc ?_ _ | refine Grew.drew ?_))) (by rw [HLT.out]; simp <;> omega) (by have hz := World.block_lt_of_cell? _ _ hk1; simp only [] at hz; simp <;> omega) ?_; rw [HLT.out]; intro a6 c6 w6 hO6 hW6; have HG6 : Hid (Grew W3 w6) := Within.grew (HG5.out.trans (by repeat (first | exact Grew.refl _ | refine Grew.alloc ?_ _ | refine Grew.drew ?_))) hW6 (by omega); have HO6 := Lib.hid (hO6.wide (lo' := W3.heap.size) (by omega) (Nat.le_refl _)))
                  | (trace_state; fail))
              all_goals
                have HF : Hid (FrO 63 w.heap.size w6.heap.size w6 (.slice a6 (mm + 1) c6) (stackP p (k + 1)) ∧ (stackP p (k + 1)).length = mm + 1 ∧ Grew w w6) := by
                  rw [HER.out, ← HTK.out]
                  exact ⟨HO6.out.wide hsw (Nat.le_refl _), by simp [HLT.out], HIL.out.2.2.trans (HG3.out.trans HG6.out)⟩
                obtain ⟨g6, c7, e6, _⟩ := HF.out.1.pos (by rw [HF.out.2.1]; omega)
                simp only [Value.slice.injEq] at e6
                obtain ⟨rfl, _, rfl⟩ := e6
                have w6' : IntKind.i64.wrap ((k : Int) + 1) = (k : Int) + 1 := wrap_12 _ (by omega) (by omega)
                clear HSG F1 F2 F3 HCL HO5 HO6 HG5 HG6 hO5 hW5 hO6 hW6
                go_wp2
                go_roundw
                case rel => exact ⟨k + 1, mm + 1, g6, c6, rfl, by go_num, by omega, HF.out⟩
                case measure => simp [intOf]; omega
          | 0, hm, HJ =>
            go_wp2
            go_quiet (fail)
            generalize hW3 : World.drewN wr _ = W3
            have hG3 : Grew wr W3 := by rw [← hW3]; exact (Grew.refl _).drewN _
            have hB3 : W3.heap[wo.heap.size]? = some (.cells #[.int .i64 b1, .int .i64 b2] 63 (0, 0)) := by rw [hG3.block hbl]; exact HHB.out
            have hbl3 : wo.heap.size < W3.heap.size := (Array.getElem?_eq_some_iff.1 hB3).1
            have HB3 := Lib.hid hB3
            have HG3 := Lib.hid (HJ.out.2.2.2.2.trans hG3)
            clear hb1 hb2 hbf1 hbf2 hbl hW3 hG3
            have hc1 : W3.cell? ⟨wo.heap.size, 0, none⟩ = some (.int .i64 b1) := by simp [World.cell?, hB3]
            have hc2 : W3.cell? ⟨wo.heap.size, 1, none⟩ = some (.int .i64 b2) := by simp [World.cell?, hB3]
            have HS0 : Hid (Grew W3 W3 ∧ W3.cell? ⟨wo.heap.size, 0, none⟩ = some (.int .i64 b1) ∧ W3.cell? ⟨wo.heap.size, 1, none⟩ = some (.int .i64 b2)) := ⟨Grew.refl _, hc1, hc2⟩
            clear hB3 hc1 hc2
            go_wp2_with (fail)
            have HLT : Hid ((L.take 0).length = 0) := Lib.hid (by rw [List.length_take]; have := HIL.out.2.1; omega)
            have HCL : Hid (∀ W, Grew wo W → ∀ j, j < (L.take 0).length → W.cell? ⟨g, 0 + j * 2, none⟩ = some (.int .i64 ((L.take 0).getD j (0, 0)).1) ∧ W.cell? ⟨g, 0 + j * 2 + 1, none⟩ = some (.int .i64 ((L.take 0).getD j (0, 0)).2)) := fun W hW j hj => by
              rw [HLT.out] at hj
              have h := HIL.out.1.at rfl (i := j) (by have := HIL.out.2.1; omega)
              have e : (L.take 0).getD j (0, 0) = L.getD j (0, 0) := by simp only [List.getD_eq_getElem?_getD, List.getElem?_take_of_lt hj]
              rw [e, Nat.zero_add]
              exact ⟨hW.cell h.1, hW.cell h.2.1⟩
            have hm10 : 0 ≤ 9 := by omega
            have hsw : w.heap.size ≤ W3.heap.size := (HIL.out.2.2.trans HG3.out).size
            have HSG : Hid (∀ W, Grew W3 W → Grew W3 W ∧ W.cell? ⟨wo.heap.size, 0, none⟩ = some (.int .i64 b1) ∧ W.cell? ⟨wo.heap.size, 1, none⟩ = some (.int .i64 b2)) := fun W h => ⟨h, h.cell HS0.out.2.1, h.cell HS0.out.2.2⟩
            have F1 : Hid (FrO 63 W3.heap.size (W3.heap.size + 1) (W3.alloc (.cells #[] 63)) (.slice (some ⟨W3.heap.size, 0, none⟩) 0 0) []) := FrO.lit 63 W3.heap.size W3 [] #[] rfl (Nat.le_refl _) (Nat.zero_le _)
            have F2 : Hid (FrO 63 W3.heap.size (W3.heap.size + 1) ((W3.alloc (.cells #[] 63)).alloc (.cells #[.int .i64 b1, .int .i64 b2] 63)) (.slice (some ⟨W3.heap.size, 0, none⟩) 0 0) []) := F1.out.grew ((Grew.refl _).alloc _)
            have F3 : Hid (FrO 63 (W3.heap.size + 1) (W3.heap.size + 1 + 1) ((W3.alloc (.cells #[.int .i64 b1, .int .i64 b2] 63)).alloc (.cells #[] 63)) (.slice (some ⟨W3.heap.size + 1, 0, none⟩) 0 0) []) := by
              have := FrO.lit 63 (W3.heap.size + 1) (W3.alloc (.cells #[.int .i64 b1, .int .i64 b2] 63)) [] #[] rfl (by simp) (Nat.zero_le _)
              exact (by simpa using this : FrO _ _ _ _ _ _)
            have HTK : Hid (L.take 0 ++ [(b1, b2)] = R) := HJ.out.2.1
            go_region_held3 (fun W => Grew W3 W ∧ W.cell? ⟨wo.heap.size, 0, none⟩ = some (.int .i64 b1) ∧ W.cell? ⟨wo.heap.size, 1, none⟩ = some (.int .i64 b2))
              (first
                | assumption
                | exact HSG.out _ (Grew.refl _)
                | exact HSG.out _ (Grew.refl _).drew
                | (refine HSG.out _ ?_; repeat (first | assumption | exact HG5.out | exact HG6.out | exact Grew.refl _ | exact (Grew.refl _).drew | refine Grew.alloc ?_ _ | refine Grew.drew ?_)))
              (first
                | (refine step_append_frs (w := (W3.alloc (.cells #[] 63)).drew) (q := []) (r := L.take 0) (lo := W3.heap.size) (hi := W3.heap.size + 1) (v := .slice (some ⟨W3.heap.size, 0, none⟩) 0 0) (b := g) (o' := 0) (n := 0) (c := c) rfl (.tmp 73) (.tmp 74) 61 rfl Try.underlying61 Try.infoSBlk rfl rfl HLT.out.symm (HCL.out _ (by repeat (first | exact HG3.out | refine Grew.alloc ?_ _ | refine Grew.drew ?_))) (F1.out.grew (by repeat (first | exact Grew.refl _ | refine Grew.alloc ?_ _ | refine Grew.drew ?_))) (by rw [HLT.out]; simp <;> omega) (by simp <;> omega) ?_; rw [HLT.out]; simp only [List.length_nil, Nat.zero_add, List.nil_append]; intro a5 c5 w5 hO5 hW5; have HG5 : Hid (Grew W3 w5) := Within.grew (by repeat (first | exact Grew.refl _ | refine Grew.alloc ?_ _ | refine Grew.drew ?_)) hW5 (by omega); have HO5 := Lib.hid hO5)
                | (refine step_append_frs (w := ((W3.alloc (.cells #[] 63)).alloc (.cells #[.int .i64 b1, .int .i64 b2] 63)).drew) (q := []) (r := L.take 0) (lo := W3.heap.size) (hi := W3.heap.size + 1) (v := .slice (some ⟨W3.heap.size, 0, none⟩) 0 0) (b := g) (o' := 0) (n := 0) (c := c) rfl (.tmp 73) (.tmp 74) 61 rfl Try.underlying61 Try.infoSBlk rfl rfl HLT.out.symm (HCL.out _ (by repeat (first | exact HG3.out | refine Grew.alloc ?_ _ | refine Grew.drew ?_))) (F2.out.grew (by repeat (first | exact Grew.refl _ | refine Grew.alloc ?_ _ | refine Grew.drew ?_))) (by rw [HLT.out]; simp <;> omega) (by simp <;> omega) ?_; rw [HLT.out]; simp only [List.length_nil, Nat.zero_add, List.nil_append]; intro a5 c5 w5 hO5 hW5; have HG5 : Hid (Grew W3 w5) := Within.grew (by repeat (first | exact Grew.refl _ | refine Grew.alloc ?_ _ | refine Grew.drew ?_)) hW5 (by omega); have HO5 := Lib.hid hO5; have hk1 := hW5.cell (p := ⟨W3.heap.size + 1, 0, none⟩) (v := .int .i64 b1) (by simp) (.inr (Nat.le_refl _)); have hk2 := hW5.cell (p := ⟨W3.heap.size + 1, 1, none⟩) (v := .int .i64 b2) (by simp) (.inr (Nat.le_refl _)))
                | (refine step_append_frs (w := ((W3.alloc (.cells #[.int .i64 b1, .int .i64 b2] 63)).alloc (.cells #[] 63)).drew) (q := []) (r := L.take 0) (lo := W3.heap.size + 1) (hi := W3.heap.size + 1 + 1) (v := .slice (some ⟨W3.heap.size + 1, 0, none⟩) 0 0) (b := g) (o' := 0) (n := 0) (c := c) rfl (.tmp 73) (.tmp 74) 61 rfl Try.underlying61 Try.infoSBlk rfl rfl HLT.out.symm (HCL.out _ (by repeat (first | exact HG3.out | refine Grew.alloc ?_ _ | refine Grew.drew ?_))) (F3.out.grew (by repeat (first | exact Grew.refl _ | refine Grew.alloc ?_ _ | refine Grew.drew ?_))) (by rw [HLT.out]; simp <;> omega) (by simp <;> omega) ?_; rw [HLT.out]; simp only [List.length_nil, Nat.zero_add, List.nil_append]; intro a5 c5 w5 hO5 hW5; have HG5 : Hid (Grew W3 w5) := Within.grew (by repeat (first | exact Grew.refl _ | refine Grew.alloc ?_ _ | refine Grew.drew ?_)) hW5 (by omega); have HO5 := Lib.hid hO5; have hk1 := hW5.cell (p := ⟨W3.heap.size, 0, none⟩) (v := .int .i64 b1) (by simp) (.inl (Nat.lt_succ_self _)); have hk2 := hW5.cell (p := ⟨W3.heap.size, 1, none⟩) (v := .int .i64 b2) (by simp) (.inl (Nat.lt_succ_self _)))
                | (refine step_append_frs (q := L.take 0) (r := [(b1, b2)]) (lo := W3.heap.size) (hi := w5.heap.size) (v := .slice a5 0 c5) (b := w5.heap.size) (o' := 0) (n := 1) (c := 1) rfl (.tmp 75) (.tmp 77) 61 rfl Try.underlying61 Try.infoSBlk rfl rfl rfl (fun j hj => by obtain rfl : j = 0 := (by simpa using hj); exact ⟨by simp, by simp⟩) (HO5.out.grew (by repeat (first | exact Grew.refl _ | refine Grew.alloc ?_ _ | refine Grew.drew ?_))) (by rw [HLT.out]; simp <;> omega) (by have := HG5.out.size; simp <;> omega) ?_; rw [HLT.out]; intro a6 c6 w6 hO6 hW6; have HG6 : Hid (Grew W3 w6) := Within.grew (HG5.out.trans (by repeat (first | exact Grew.refl _ | refine Grew.alloc ?_ _ | refine Grew.drew ?_))) hW6 (by omega); have HO6 := Lib.hid (hO6.wide (lo' := W3.heap.size) (by omega) (Nat.le_refl _)))
                | (refine step_append_frs (q := L.take 0) (r := [(b1, b2)]) (lo := W3.heap.size) (hi := w5.heap.size) (v := .slice a5 0 c5) (b := W3.heap.size + 1) (o' := 0) (n := 1) (c := 1) rfl (.tmp 75) (.tmp 77) 61 rfl Try.underlying61 Try.infoSBlk rfl rfl rfl (fun j hj => by obtain rfl : j = 0 := (by simpa using hj); exact ⟨by simpa using hk1, by simpa using hk2⟩) (HO5.out.grew (by repeat (first | exact Grew.refl _ | refine Grew.alloc ?_ _ | refine Grew.drew ?_))) (by rw [HLT.out]; simp <;> omega) (by have := HG5.out.size; simp <;> omega) ?_; rw [HLT.out]; intro a6 c6 w6 hO6 hW6; have HG6 : Hid (Grew W3 w6) := Within.grew (HG5.out.trans (by repeat (first | exact Grew.refl _ | refine Grew.alloc ?_ _ | refine Grew.drew ?_))) hW6 (by omega); have HO6 := Lib.hid (hO6.wide (lo' := W3.heap.size) (by omega) (Nat.le_refl _)))
                | (refine step_append_frs (q := L.take 0) (r := [(b1, b2)]) (lo := W3.heap.size + 1) (hi := w5.heap.size) (v := .slice a5 0 c5) (b := W3.heap.size) (o' := 0) (n := 1) (c := 1) rfl (.tmp 75) (.tmp 77) 61 rfl Try.underlying61 Try.infoSBlk rfl rfl rfl (fun j hj => by obtain rfl : j = 0 := (by simpa using hj); exact ⟨by simpa using hk1, by simpa using hk2⟩) (HO5.out.grew (by repeat (first | exact Grew.refl _ | refine Grew.alloc ?_ _ | refine Grew.drew ?_))) (by rw [HLT.out]; simp <;> omega) (by have hz := World.block_lt_of_cell? _ _ hk1; simp only [] at hz; simp <;> omega) ?_; rw [HLT.out]; intro a6 c6 w6 hO6 hW6; have HG6 : Hid (Grew W3 w6) := Within.grew (HG5.out.trans (by repeat (first | exact Grew.refl _ | refine Grew.alloc ?_ _ | refine Grew.drew ?_))) hW6 (by omega); have HO6 := Lib.hid (hO6.wide (lo' := W3.heap.size) (by omega) (Nat.le_refl _)))
                | (trace_state; fail))
            all_goals
              have HF : Hid (FrO 63 w.heap.size w6.heap.size w6 (.slice a6 (0 + 1) c6) (stackP p (k + 1)) ∧ (stackP p (k + 1)).length = 0 + 1 ∧ Grew w w6) := by
                rw [HER.out, ← HTK.out]
                exact ⟨HO6.out.wide hsw (Nat.le_refl _), by simp, HIL.out.2.2.trans (HG3.out.trans HG6.out)⟩
              obtain ⟨g6, c7, e6, _⟩ := HF.out.1.pos (by rw [HF.out.2.1]; omega)
              simp only [Value.slice.injEq] at e6
              obtain ⟨rfl, _, rfl⟩ := e6
              have w6' : IntKind.i64.wrap ((k : Int) + 1) = (k : Int) + 1 := wrap_12 _ (by omega) (by omega)
              clear HSG F1 F2 F3 HCL HO5 HO6 HG5 HG6 hO5 hW5 hO6 hW6
              go_wp2
              go_roundw
              case rel => exact ⟨k + 1, 0 + 1, g6, c6, rfl, by go_num, by omega, HF.out⟩
              case measure => simp [intOf]; omega
      · obtain rfl : k = p.length := by omega
        obtain ⟨L, eL⟩ : ∃ L, stackP p p.length = L := ⟨_, rfl⟩
        have hgL := HG.out p.length (Nat.le_refl _)
        obtain ⟨st, hcv⟩ := stack_cover p p.length
        rw [eL] at hgL hcv
        have HIL : Hid (FrO 63 w.heap.size wo.heap.size wo (.slice (some ⟨g, 0, none⟩) m0 c) L ∧ L.length = m0 ∧ Grew w wo) := by rw [← eL]; exact HI.out
        have hm09 : m0 ≤ 9 := by have := goodL_len hgL; have := HIL.out.2.1; omega
        have HGL := Lib.hid hgL
        have hsp : ∀ i, i ≤ L.length → (spread (L.take i)).length ≤ 9 := fun i hi => by
          have h1 := spread_len hcv (Nat.le_refl _) i hi
          have h2 := hcv.mono i (L.length - i) (by omega)
          rw [show i + (L.length - i) = L.length by omega, hcv.2.1] at h2
          omega
        have HSP := Lib.hid hsp
        have HEL := Lib.hid eL
        clear hgL hcv hsp eL HI
        have H0 : Hid (FrO 29 wo.heap.size (wo.alloc (.cells #[] 29)).heap.size (wo.alloc (.cells #[] 29)) (.slice (some ⟨wo.heap.size, 0, none⟩) 0 0) (spread (L.take 0)) ∧ (spread (L.take 0)).length = 0 ∧ Grew wo (wo.alloc (.cells #[] 29))) :=
          ⟨(FrO.lit 29 wo.heap.size wo [] #[] rfl (Nat.le_refl _) (Nat.zero_le _)).wide (Nat.le_refl _) (by simp), rfl, (Grew.refl _).alloc _⟩
        go_wp2
        go_loopw [7, 8] (fun ov iv wr => ∃ (i n : Nat) (g2 c2 : Nat), ov = .slice (some ⟨g2, 0, none⟩) n c2 ∧ iv = .int .i64 i ∧ i ≤ m0 ∧ Hid (FrO 29 wo.heap.size wr.heap.size wr ov (spread (L.take i)) ∧ (spread (L.take i)).length = n ∧ Grew wo wr)) (fun _ iv _ => m0 - (intOf iv).toNat)
        case atStart => exact ⟨0, 0, _, 0, rfl, rfl, Nat.zero_le _, H0.out⟩
        case round =>
          clear H0
          obtain ⟨i, n, g2, c2, rfl, rfl, hi, HJ⟩ := hrel
          by_cases hlti : i < m0
          · have hiL : i < L.length := by have := HIL.out.2.1; omega
            have hcc := HIL.out.1.at rfl hiL
            have hls := smallB HGL.out (by omega) i hiL
            obtain ⟨l, el⟩ : ∃ l, L.getD i (0, 0) = l := ⟨_, rfl⟩
            rw [el] at hcc hls
            obtain ⟨l1, l2⟩ := l
            obtain ⟨s, rfl⟩ := Int.eq_ofNat_of_zero_le hls.1.1
            obtain ⟨t, rfl⟩ := Int.eq_ofNat_of_zero_le (show 0 ≤ l2 by have := hls.2.1; simp only at this; omega)
            simp only at hcc hls el
            have HCC := Lib.hid hcc
            have hsn : spread (L.take (i + 1)) = spread (L.take i) ++ List.replicate t (frL s t) := by
              rw [List.take_succ_eq_append_getElem hiL]
              unfold spread
              rw [List.flatMap_append]
              have eg : L[i] = ((s : Int), (t : Int)) := by rw [← el]; simp [hiL]
              rw [eg]
              simp
            have HFR := Lib.hid (fun W => sfrac_any s t W (by omega) (by omega) (by omega))
            obtain ⟨F, eF⟩ : ∃ F, frL s t = F := ⟨_, rfl⟩
            rw [eF] at HFR hsn
            obtain ⟨f1, f2⟩ := F
            unfold frV at HFR
            have hn9 := HSP.out i (by omega)
            rw [HJ.out.2.1] at hn9
            have HSN := Lib.hid hsn
            have r1 : (i : Int) < m0 := by omega
            have r2 : (0 : Int) ≤ i := by omega
            have ht9 : t ≤ 9 := by omega
            have w7' : IntKind.i64.wrap ((i : Int) + 1) = (i : Int) + 1 := wrap_12 _ (by omega) (by omega)
            clear hcc hls el hsn eF
            have H1 : Hid (FrO 29 wo.heap.size wr.heap.size wr (.slice (some ⟨g2, 0, none⟩) n c2) (spread (L.take i) ++ List.replicate 0 (f1, f2)) ∧ Grew wo wr) := ⟨by simpa using HJ.out.1, HJ.out.2.2⟩
            go_wp2
            go_loopw [7, 9] (fun ov kv wr => ∃ (d : Nat) (g3 c3 : Nat), ov = .slice (some ⟨g3, 0, none⟩) (n + d) c3 ∧ kv = .int .i64 d ∧ d ≤ t ∧ Hid (FrO 29 wo.heap.size wr.heap.size wr ov (spread (L.take i) ++ List.replicate d (f1, f2)) ∧ Grew wo wr)) (fun _ kv _ => t - (intOf kv).toNat)
            case atStart => exact ⟨0, g2, c2, rfl, rfl, Nat.zero_le _, H1.out⟩
            case round =>
              clear H1
              obtain ⟨d, g3, c3, rfl, rfl, hd, HK⟩ := hrel
              have hc1 := HK.out.2.cell HCC.out.1
              have hc2 := HK.out.2.cell HCC.out.2.1
              by_cases hltd : d < t
              · have r3 : (d : Int) < t := by omega
                have hst : spread (L.take i) ++ List.replicate (d + 1) (f1, f2) = (spread (L.take i) ++ List.replicate d (f1, f2)) ++ [(f1, f2)] := by rw [List.replicate_succ', List.append_assoc]
                have hql : (spread (L.take i) ++ List.replicate d (f1, f2)).length = n + d := by rw [List.length_append, HJ.out.2.1, List.length_replicate]
                have hO := HK.out.1
                obtain ⟨Q, eQ⟩ : ∃ Q, spread (L.take i) ++ List.replicate d (f1, f2) = Q := ⟨_, rfl⟩
                rw [eQ] at hst hql hO
                have HOQ := Lib.hid hO
                have HQ := Lib.hid (And.intro hst hql)
                have HSG : Hid (∀ W, Grew wo W → Grew wo W ∧ W.cell? ⟨g, i * 2, none⟩ = some (.int .i64 s) ∧ W.cell? ⟨g, i * 2 + 1, none⟩ = some (.int .i64 t)) := fun W h => ⟨h, h.cell HCC.out.1, h.cell HCC.out.2.1⟩
                have w8' : IntKind.i64.wrap ((d : Int) + 1) = (d : Int) + 1 := wrap_12 _ (by omega) (by omega)
                clear hst hql hO eQ hc1 hc2
                have hc1 := HK.out.2.cell HCC.out.1
                have hc2 := HK.out.2.cell HCC.out.2.1
                go_wp2_with (fail)
                go_region_held3 (fun W => Grew wo W ∧ W.cell? ⟨g, i * 2, none⟩ = some (.int .i64 s) ∧ W.cell? ⟨g, i * 2 + 1, none⟩ = some (.int .i64 t))
                  (first
                    | assumption
                    | exact HSG.out _ HK.out.2
                    | (refine HSG.out _ ?_; repeat (first | assumption | exact HG6.out | exact HG5.out | exact HK.out.2 | refine Grew.alloc ?_ _ | refine Grew.drew ?_)))
                  (first
                    | (go_at_call 61; refine (HFR.out _).mono ?_; rintro e5 w5 ⟨rfl, hg5⟩; have HG5r : Hid (Grew wr w5) := Grew.trans (by repeat (first | exact Grew.refl _ | refine Grew.alloc ?_ _ | refine Grew.drew ?_)) hg5; have HG5 : Hid (Grew wo w5) := HK.out.2.trans HG5r.out)
                    | (refine step_append_frs (q := Q) (r := [(f1, f2)]) (lo := wo.heap.size) (hi := wr.heap.size) (v := .slice (some ⟨g3, 0, none⟩) (n + d) c3) (b := w5.heap.size) (o' := 0) (n := 1) (c := 1) rfl (.tmp 95) (.tmp 107) 25 rfl Try.underlying25 Try.infoFrac rfl rfl rfl (fun j hj => by obtain rfl : j = 0 := (by simpa using hj); exact ⟨by simp, by simp⟩) (HOQ.out.grew (HG5r.out.trans (by repeat (first | exact Grew.refl _ | refine Grew.alloc ?_ _ | refine Grew.drew ?_)))) (by rw [HQ.out.2]; simp <;> omega) (by have := HG5.out.size; simp <;> omega) ?_; rw [HQ.out.2]; intro a6 c6 w6 hO6 hW6; have HG6 : Hid (Grew wo w6) := Within.grew (HG5.out.trans (by repeat (first | exact Grew.refl _ | refine Grew.alloc ?_ _ | refine Grew.drew ?_))) hW6 (Nat.le_refl _); have HO6 := Lib.hid hO6)
                    )
                have HF : Hid (FrO 29 wo.heap.size w6.heap.size w6 (.slice a6 (n + (d + 1)) c6) (spread (L.take i) ++ List.replicate (d + 1) (f1, f2)) ∧ Grew wo w6) := by
                  rw [HQ.out.1]
                  exact ⟨HO6.out, HG6.out⟩
                obtain ⟨g6, c7, e6, _⟩ := HF.out.1.pos (by simp; omega)
                simp only [Value.slice.injEq] at e6
                obtain ⟨rfl, _, rfl⟩ := e6
                clear HSG HO6 HG6 hO6 hW6 HG5 HG5r hg5 HOQ HQ
                go_wp2
                go_roundw
                case rel => exact ⟨d + 1, g6, c6, rfl, by go_num, by omega, HF.out⟩
                case measure => simp [intOf]; omega
              · obtain rfl : d = t := by omega
                have r3 : ¬ (d : Int) < d := by omega
                go_wp2
                go_roundw
                case rel => exact ⟨i + 1, n + d, g3, c3, rfl, by go_num, by omega, by rw [HSN.out]; exact HK.out.1, by rw [HSN.out, List.length_append, HJ.out.2.1, List.length_replicate], HK.out.2⟩
                case measure => simp [intOf]; omega
          · obtain rfl : i = m0 := by omega
            have r1 : ¬ (i : Int) < i := by omega
            have hLL : L.take i = L := List.take_of_length_le (by have := HIL.out.2.1; omega)
            have HF : Hid (FrO 29 w.heap.size wr.heap.size wr (.slice (some ⟨g2, 0, none⟩) n c2) (spread L) ∧ Grew w wr) := by
              have h := HJ.out.1
              rw [hLL] at h
              exact ⟨h.wide HIL.out.2.2.size (Nat.le_refl _), HIL.out.2.2.trans HJ.out.2.2⟩
            clear hLL
            go_wp2
            go_ret
            exact ⟨_, rfl, by rw [HEL.out]; exact HF.out.1, HF.out.2⟩
end Go.Proofs.Ytlifjhhjkcmneaa
