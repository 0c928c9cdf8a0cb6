/- The contract of spec.SmoothByMeans. -/
import Derived.Test.YtlifjhhjkcmneaaSMeans
namespace Go.Proofs.Ytlifjhhjkcmneaa
open Go.RowKit

theorem minFn_next (g : Nat → Int × Int) (k : Nat) : minFn g (k + 1) = if ltF (g (k + 1)) (minFn g k) then g (k + 1) else minFn g k := rfl
set_option maxRecDepth 100000 in
set_option maxHeartbeats 4000000 in
theorem SSmoothByMeans_any (v : Value) (p : List Int) (w : World) (hv : IntsV w v p) :
    Calls Try.prog 27 #[v] w (FracPost w (meansX p)) := by
  have HV := Lib.hid (sValidProfile0_any v p w hv)
  unfold meansX
  cases hp : vProf p with
  | false =>
    obtain ⟨a, b, o, c, rfl, _, _, _⟩ := hv.shape
    have HP := Lib.hid hp
    clear hp hv
    go_enter Try.func27, Try.ntmps27
    go_wp2_with (fail)
    refine HV.out.mono ?_
    rw [HP.out]
    rintro e w1 ⟨rfl, rfl⟩
    go_wp2
    go_ret
    exact ⟨_, rfl, FrO.nil _ _ _ _, Grew.refl _⟩
  | true =>
    have HP := Lib.hid hp
    have h9 := ((vProf_iff p).1 hp).2.1
    have HM := Lib.hid (fun (a b : Nat) (W : World) (hW : Grew w W) (hab : a ≤ b) (hb : b < p.length) => smean_any v p a b W (hv.grew hW) hp hab hb)
    obtain ⟨ap, bp, op, cp, rfl, _, _, _⟩ := hv.shape
    clear hp hv
    go_enter Try.func27, Try.ntmps27
    go_wp2_with (fail)
    refine HV.out.mono ?_
    rw [HP.out]
    rintro e w1 ⟨rfl, rfl⟩
    go_wp2
    go_loopw [3, 4] (fun sv iv wr => ∃ (i : Nat) (sa : Option Addr) (sc : Nat), sv = .slice sa i sc ∧ iv = .int .i64 i ∧ i ≤ p.length ∧ Hid (FrO 29 w.heap.size wr.heap.size wr sv ((List.range i).map (bestF' p)) ∧ Grew w wr)) (fun _ iv _ => p.length - (intOf iv).toNat)
    case atStart => exact ⟨0, _, 0, rfl, rfl, Nat.zero_le _, (FrO.lit 29 w.heap.size w [] #[] rfl (Nat.le_refl _) (Nat.zero_le _)).wide (Nat.le_refl _) (by simp), (Grew.refl _).alloc _⟩
    case round =>
      obtain ⟨i, sa, sc, rfl, rfl, hi, HI⟩ := hrel
      obtain ⟨wo, rfl⟩ : ∃ wo : World, wo = wr := ⟨_, rfl⟩
      by_cases hlt : i < p.length
      · have r1 : (i : Int) < p.length := by omega
        have HB0 : Hid ((wo.alloc (.cells #[.int .i64 0, .int .i64 0] 29)).heap[wo.heap.size]? = some (.cells #[.int .i64 0, .int .i64 0] 29 (0, 0)) ∧ Grew wo (wo.alloc (.cells #[.int .i64 0, .int .i64 0] 29))) := ⟨heap_alloc_new wo _, (Grew.refl wo).alloc _⟩
        go_wp2
        go_loopw [6] (fun av wr => ∃ a : Nat, av = .int .i64 a ∧ a ≤ i + 1 ∧ Hid (wr.heap[wo.heap.size]? = some (.cells #[.int .i64 (bestTo p i a).1, .int .i64 (bestTo p i a).2] 29 (0, 0)) ∧ Grew wo wr)) (fun av _ => i + 1 - (intOf av).toNat)
        case atStart => exact ⟨0, rfl, by omega, HB0.out⟩
        case round =>
          clear HB0
          obtain ⟨a, rfl, ha, HJ⟩ := hrel
          by_cases hlt2 : a ≤ i
          · have r2 : (a : Int) ≤ i := by omega
            have HMA := Lib.hid (HM.out a i wr (HI.out.2.trans HJ.out.2) hlt2 hlt)
            obtain ⟨F, eF⟩ : ∃ F, mF p a i = F := ⟨_, rfl⟩
            rw [eF] at HMA
            obtain ⟨f1, f2⟩ := F
            unfold frV at HMA
            have HEF := Lib.hid eF
            have hbB : wo.heap.size < wr.heap.size := (Array.getElem?_eq_some_iff.1 HJ.out.1).1
            clear eF
            go_wp2_with (fail)
            refine HMA.out.mono ?_
            rintro e w2 ⟨rfl, hg2⟩
            have H2 := Lib.hid hg2
            clear hg2
            obtain ⟨i1, ei1⟩ : ∃ i1, i + 1 = i1 := ⟨_, rfl⟩
            have HI1 := Lib.hid ei1
            have e1 : (i : Int) + 1 = (i1 : Int) := by omega
            have w1' : IntKind.i64.wrap (i1 : Int) = (i1 : Int) := wrap_12 _ (by omega) (by omega)
            clear ei1
            have HL0 : Hid ((w2.alloc (.cells #[.int .i64 f1, .int .i64 f2] 29)).heap[w2.heap.size]? = some (.cells #[.int .i64 (minFn (fun d => mF p a (i + d)) (i1 - i1)).1, .int .i64 (minFn (fun d => mF p a (i + d)) (i1 - i1)).2] 29 (0, 0)) ∧
                (w2.alloc (.cells #[.int .i64 f1, .int .i64 f2] 29)).heap[wo.heap.size]? = some (.cells #[.int .i64 (bestTo p i a).1, .int .i64 (bestTo p i a).2] 29 (0, 0)) ∧ Grew wo (w2.alloc (.cells #[.int .i64 f1, .int .i64 f2] 29))) := by
              refine ⟨?_, ?_, (HJ.out.2.trans H2.out).alloc _⟩
              · rw [Nat.sub_self]
                show _ = some (Obj.cells #[.int .i64 (mF p a (i + 0)).1, .int .i64 (mF p a (i + 0)).2] _ _)
                rw [Nat.add_zero, HEF.out]
                exact heap_alloc_new w2 _
              · rw [((Grew.refl w2).alloc _).block (by have := H2.out.size; omega), H2.out.block hbB]
                exact HJ.out.1
            have hL : wo.heap.size < w2.heap.size := by have := H2.out.size; omega
            have HLL := Lib.hid hL
            clear hL
            go_wp2
            go_loopw [8] (fun bv wr => ∃ b : Nat, bv = .int .i64 b ∧ i1 ≤ b ∧ b ≤ p.length ∧ Hid (wr.heap[w2.heap.size]? = some (.cells #[.int .i64 (minFn (fun d => mF p a (i + d)) (b - i1)).1, .int .i64 (minFn (fun d => mF p a (i + d)) (b - i1)).2] 29 (0, 0)) ∧
                wr.heap[wo.heap.size]? = some (.cells #[.int .i64 (bestTo p i a).1, .int .i64 (bestTo p i a).2] 29 (0, 0)) ∧ Grew wo wr)) (fun bv _ => p.length - (intOf bv).toNat)
            case atStart => exact ⟨i1, rfl, Nat.le_refl _, by have := HI1.out; omega, HL0.out⟩
            case round =>
              clear HL0
              obtain ⟨b, rfl, hb1, hb, HK⟩ := hrel
              by_cases hlt3 : b < p.length
              · have hbi : i + 1 ≤ b := by have := HI1.out; omega
                have hst : minFn (fun d => mF p a (i + d)) (b + 1 - i1) = if ltF (mF p a b) (minFn (fun d => mF p a (i + d)) (b - i1)) then mF p a b else minFn (fun d => mF p a (i + d)) (b - i1) := by
                  have e := minFn_next (fun d => mF p a (i + d)) (b - i1)
                  have e2 : b + 1 - i1 = b - i1 + 1 := by omega
                  have e3 : i + (b - i1 + 1) = b := by have := HI1.out; omega
                  rw [e2, e]
                  simp only [e3]
                have hxo := mF_ok HP.out a b hlt3
                have hmo : okF (minFn (fun d => mF p a (i + d)) (b - i1)) := by
                  obtain ⟨y, hy, e⟩ := minFn_is (fun d => mF p a (i + d)) (b - i1)
                  rw [e]
                  exact mF_ok HP.out a (i + y) (by have := HI1.out; omega)
                have hB := HK.out.1
                have HMB := Lib.hid (fun W (hW : Grew w W) => HM.out a b W hW (by omega) hlt3)
                obtain ⟨x, ex⟩ : ∃ x, mF p a b = x := ⟨_, rfl⟩
                obtain ⟨m, em⟩ : ∃ m, minFn (fun d => mF p a (i + d)) (b - i1) = m := ⟨_, rfl⟩
                rw [ex] at hxo hst HMB
                rw [em] at hmo hst hB
                obtain ⟨x1, x2⟩ := x
                obtain ⟨m1, m2⟩ := m
                obtain ⟨hxa, hxb⟩ := hxo
                obtain ⟨hma, hmb⟩ := hmo
                have HLE := Lib.hid (fun W => sless_any x1 x2 m1 m2 W hxa hxb hma hmb)
                obtain ⟨R, eR⟩ : ∃ R, decide (x1 * m2 < m1 * x2) = R := ⟨_, rfl⟩
                have hRl : R = true ↔ ltF (x1, x2) (m1, m2) := by rw [← eR]; unfold ltF; exact decide_eq_true_iff
                rw [eR] at HLE
                unfold frV at HLE HMB
                have hm1 : wr.cell? ⟨w2.heap.size, 0, none⟩ = some (.int .i64 m1) := by simp [World.cell?, hB]
                have hm2 : wr.cell? ⟨w2.heap.size, 1, none⟩ = some (.int .i64 m2) := by simp [World.cell?, hB]
                have HS0 : Hid (wr.cell? ⟨w2.heap.size, 0, none⟩ = some (.int .i64 m1) ∧ wr.cell? ⟨w2.heap.size, 1, none⟩ = some (.int .i64 m2)) := ⟨hm1, hm2⟩
                have HST := Lib.hid (And.intro hst hRl)
                have HBB := Lib.hid hB
                have r3 : (b : Int) < p.length := by omega
                have e2 : IntKind.i64.wrap ((b : Int) + 1) = (b : Int) + 1 := wrap_12 _ (by omega) (by omega)
                clear ex em eR hst hRl hB hm1 hm2
                go_wp2_with (fail)
                go_region_held3 (fun W => W.cell? ⟨w2.heap.size, 0, none⟩ = some (.int .i64 m1) ∧ W.cell? ⟨w2.heap.size, 1, none⟩ = some (.int .i64 m2))
                  (first
                    | exact HS0.out
                    | assumption
                    | exact h6c
                    | exact h5c)
                  (first
                    | (go_at_call 66; refine (HMB.out _ ((HI.out.2.trans HK.out.2.2).drew)).mono ?_; rintro e5 w5 ⟨rfl, hg5⟩; have hg5 := ((Grew.refl wr).drew).trans hg5; have h5c := And.intro (hg5.cell HS0.out.1) (hg5.cell HS0.out.2))
                    | (go_at_call 67; refine (HLE.out _).mono ?_; rintro e6 w6 ⟨rfl, hg6⟩; have hg6 := hg5.trans hg6; have h6c := And.intro (hg6.cell HS0.out.1) (hg6.cell HS0.out.2)))
                have hbL := World.block_lt_of_cell? _ _ HS0.out.1
                simp only [] at hbL
                have H6 : Hid (w6.heap[w2.heap.size]? = some (.cells #[.int .i64 m1, .int .i64 m2] 29 (0, 0)) ∧ w6.heap[wo.heap.size]? = some (.cells #[.int .i64 (bestTo p i a).1, .int .i64 (bestTo p i a).2] 29 (0, 0)) ∧ Grew wo w6 ∧ Grew w w6) := by
                  refine ⟨?_, ?_, HK.out.2.2.trans hg6, HI.out.2.trans (HK.out.2.2.trans hg6)⟩
                  · rw [hg6.block hbL]; exact HBB.out
                  · rw [hg6.block (by have := HLL.out; omega)]; exact HK.out.2.1
                clear hg5 hg6 h5c h6c
                cases R with
                | true =>
                  go_wp2_with (fail)
                  refine (HMB.out _ H6.out.2.2.2).mono ?_
                  rintro e w7 ⟨rfl, hg7⟩
                  have hbL6 : w2.heap.size < w6.heap.size := (Array.getElem?_eq_some_iff.1 H6.out.1).1
                  have hB7 : w7.heap[w2.heap.size]? = some (.cells #[.int .i64 m1, .int .i64 m2] 29 (0, 0)) := by rw [hg7.block hbL6]; exact H6.out.1
                  have hR7 : w7.heap[wo.heap.size]? = some (.cells #[.int .i64 (bestTo p i a).1, .int .i64 (bestTo p i a).2] 29 (0, 0)) := by rw [hg7.block (by have := HLL.out; omega)]; exact H6.out.2.1
                  have H7 := Lib.hid (And.intro hB7 (And.intro hR7 (H6.out.2.2.1.trans hg7)))
                  have hf0 : w7.frozen? ⟨w2.heap.size, 0, none⟩ = false := by simp [World.frozen?, hB7]
                  have hf1 : w7.frozen? ⟨w2.heap.size, 1, none⟩ = false := by simp [World.frozen?, hB7]
                  have hk0 : w7.cell? ⟨w2.heap.size, 0, none⟩ = some (.int .i64 m1) := by simp [World.cell?, hB7]
                  have hk1 : w7.cell? ⟨w2.heap.size, 1, none⟩ = some (.int .i64 m2) := by simp [World.cell?, hB7]
                  have HN : Hid (((w7.setCell ⟨w2.heap.size, 0, none⟩ (.int .i64 x1)).setCell ⟨w2.heap.size, 1, none⟩ (.int .i64 x2)).heap[w2.heap.size]? = some (.cells #[.int .i64 (minFn (fun d => mF p a (i + d)) (b + 1 - i1)).1, .int .i64 (minFn (fun d => mF p a (i + d)) (b + 1 - i1)).2] 29 (0, 0)) ∧
                      ((w7.setCell ⟨w2.heap.size, 0, none⟩ (.int .i64 x1)).setCell ⟨w2.heap.size, 1, none⟩ (.int .i64 x2)).heap[wo.heap.size]? = some (.cells #[.int .i64 (bestTo p i a).1, .int .i64 (bestTo p i a).2] 29 (0, 0)) ∧ Grew wo ((w7.setCell ⟨w2.heap.size, 0, none⟩ (.int .i64 x1)).setCell ⟨w2.heap.size, 1, none⟩ (.int .i64 x2))) := by
                    refine ⟨?_, ?_, two_grewF (by have := HLL.out; omega) H7.out.2.2⟩
                    · rw [HST.out.1, if_pos (HST.out.2.1 (by first | rfl | trivial))]
                      exact two_heapF H7.out.1
                    · have hw : Within w2.heap.size (w2.heap.size + 1) w7 ((w7.setCell ⟨w2.heap.size, 0, none⟩ (.int .i64 x1)).setCell ⟨w2.heap.size, 1, none⟩ (.int .i64 x2)) :=
                        ((Within.refl _ _ _).setCell (p := ⟨w2.heap.size, 0, none⟩) (Nat.le_refl _) (Nat.lt_succ_self _) _).setCell (p := ⟨w2.heap.size, 1, none⟩) (Nat.le_refl _) (Nat.lt_succ_self _) _
                      rw [hw.block wo.heap.size (Array.getElem?_eq_some_iff.1 H7.out.2.1).1 (.inl HLL.out)]
                      exact H7.out.2.1
                  clear HST hg7 hB7 hR7
                  go_wp2
                  go_roundw
                  case rel => exact ⟨b + 1, by go_num, by omega, by omega, HN.out⟩
                  case measure => simp [intOf]; omega
                | false =>
                  have HN : Hid (w6.heap[w2.heap.size]? = some (.cells #[.int .i64 (minFn (fun d => mF p a (i + d)) (b + 1 - i1)).1, .int .i64 (minFn (fun d => mF p a (i + d)) (b + 1 - i1)).2] 29 (0, 0)) ∧ w6.heap[wo.heap.size]? = some (.cells #[.int .i64 (bestTo p i a).1, .int .i64 (bestTo p i a).2] 29 (0, 0)) ∧ Grew wo w6) := by
                    refine ⟨?_, H6.out.2.1, H6.out.2.2.1⟩
                    rw [HST.out.1, if_neg (fun c => by have := HST.out.2.2 c; simp at this)]
                    exact H6.out.1
                  clear HST
                  go_wp2
                  go_roundw
                  case rel => exact ⟨b + 1, by go_num, by omega, by omega, HN.out⟩
                  case measure => simp [intOf]; omega
              · obtain rfl : b = p.length := by omega
                have hlo : minFn (fun d => mF p a (i + d)) (p.length - i1) = leastF p a i := by
                  have := HI1.out
                  unfold leastF
                  rw [show p.length - 1 - i = p.length - i1 by omega]
                have hst := bestTo_next p i a hlt2
                have hmo := leastF_ok HP.out a i hlt
                have hbo := bestTo_ok HP.out i a hlt
                have hB := HK.out.1
                have hC := HK.out.2.1
                have hpo := leastF_pos p a i hlt2
                rw [hlo] at hB
                obtain ⟨m, em⟩ : ∃ m, leastF p a i = m := ⟨_, rfl⟩
                obtain ⟨x, ex⟩ : ∃ x, bestTo p i a = x := ⟨_, rfl⟩
                rw [em] at hmo hst hB
                rw [ex] at hbo hst hC
                obtain ⟨x1, x2⟩ := x
                obtain ⟨m1, m2⟩ := m
                obtain ⟨hxa, hxb⟩ := hbo
                obtain ⟨hma, hmb⟩ := hmo
                have HLE := Lib.hid (sless_any x1 x2 m1 m2 wr hxa hxb hma hmb)
                obtain ⟨R, eR⟩ : ∃ R, decide (x1 * m2 < m1 * x2) = R := ⟨_, rfl⟩
                have hRl : R = true ↔ ltF (x1, x2) (m1, m2) := by rw [← eR]; unfold ltF; exact decide_eq_true_iff
                rw [eR] at HLE
                unfold frV at HLE
                have hm1 : wr.cell? ⟨w2.heap.size, 0, none⟩ = some (.int .i64 m1) := by simp [World.cell?, hB]
                have hm2 : wr.cell? ⟨w2.heap.size, 1, none⟩ = some (.int .i64 m2) := by simp [World.cell?, hB]
                have hc1 : wr.cell? ⟨wo.heap.size, 0, none⟩ = some (.int .i64 x1) := by simp [World.cell?, hC]
                have hc2 : wr.cell? ⟨wo.heap.size, 1, none⟩ = some (.int .i64 x2) := by simp [World.cell?, hC]
                have HBB := Lib.hid (And.intro hB (And.intro hC HK.out.2.2))
                have HST := Lib.hid (And.intro hst hRl)
                have e2 : IntKind.i64.wrap ((a : Int) + 1) = (a : Int) + 1 := wrap_12 _ (by omega) (by omega)
                have HEND : ∀ W m1 m2, W.heap[wo.heap.size]? = some (.cells #[.int .i64 m1, .int .i64 m2] 29 (0, 0)) → Grew wo W → bestTo p i (a + 1) = (m1, m2) → Hid (W.heap[wo.heap.size]? = some (.cells #[.int .i64 (bestTo p i (a + 1)).1, .int .i64 (bestTo p i (a + 1)).2] 29 (0, 0)) ∧ Grew wo W) := fun W m1 m2 h1 h2 h3 => ⟨by rw [h3]; exact h1, h2⟩
                clear hlo hst hB hC hpo em ex eR hRl
                by_cases hz : x2 = 0
                · have hfz : wr.frozen? ⟨wo.heap.size, 0, none⟩ = false := by simp [World.frozen?, HBB.out.2.1]
                  have hfo : wr.frozen? ⟨wo.heap.size, 1, none⟩ = false := by simp [World.frozen?, HBB.out.2.1]
                  have HN := HEND _ m1 m2 (two_heapF (u0 := .int .i64 m1) (u1 := .int .i64 m2) HBB.out.2.1) (two_grewF (Nat.le_refl _) HBB.out.2.2) (by rw [HST.out.1, if_pos (.inl hz)])
                  clear HEND
                  go_wp2
                  go_roundw
                  case rel => exact ⟨a + 1, by go_num, by omega, HN.out⟩
                  case measure => simp [intOf]; omega
                · go_wp2_with (fail)
                  refine HLE.out.mono ?_
                  rintro e w8 ⟨rfl, hg8⟩
                  have hbL8 : w2.heap.size < wr.heap.size := (Array.getElem?_eq_some_iff.1 HBB.out.1).1
                  have hC8 : w8.heap[wo.heap.size]? = some (.cells #[.int .i64 x1, .int .i64 x2] 29 (0, 0)) := by rw [hg8.block (by have := HLL.out; omega)]; exact HBB.out.2.1
                  have hm8 := hg8.cell hm1
                  have hn8 := hg8.cell hm2
                  have hfz : w8.frozen? ⟨wo.heap.size, 0, none⟩ = false := by simp [World.frozen?, hC8]
                  have hfo : w8.frozen? ⟨wo.heap.size, 1, none⟩ = false := by simp [World.frozen?, hC8]
                  have hcz : w8.cell? ⟨wo.heap.size, 0, none⟩ = some (.int .i64 x1) := by simp [World.cell?, hC8]
                  have hco : w8.cell? ⟨wo.heap.size, 1, none⟩ = some (.int .i64 x2) := by simp [World.cell?, hC8]
                  have H8 := Lib.hid (And.intro hC8 (HBB.out.2.2.trans hg8))
                  clear hC8 hg8
                  cases R with
                  | true =>
                    have HN := HEND _ m1 m2 (two_heapF (u0 := .int .i64 m1) (u1 := .int .i64 m2) H8.out.1) (two_grewF (Nat.le_refl _) H8.out.2) (by rw [HST.out.1, if_pos (.inr (HST.out.2.1 (by first | rfl | trivial)))])
                    clear HEND
                    go_wp2
                    go_roundw
                    case rel => exact ⟨a + 1, by go_num, by omega, HN.out⟩
                    case measure => simp [intOf]; omega
                  | false =>
                    have HN := HEND _ x1 x2 H8.out.1 H8.out.2 (by rw [HST.out.1, if_neg (fun c => c.elim hz (fun c => by have := HST.out.2.2 c; simp at this))])
                    clear HEND
                    go_wp2
                    go_roundw
                    case rel => exact ⟨a + 1, by go_num, by omega, HN.out⟩
                    case measure => simp [intOf]; omega
          · obtain rfl : a = i + 1 := by omega
            have hbe : bestTo p i (i + 1) = bestF' p i := rfl
            have hst : (List.range (i + 1)).map (bestF' p) = (List.range i).map (bestF' p) ++ [bestF' p i] := by rw [List.range_succ, List.map_append]; rfl
            obtain ⟨X, hX⟩ : ∃ X, (List.range i).map (bestF' p) = X := ⟨_, rfl⟩
            rw [hX] at hst
            have hXl : X.length = i := by rw [← hX]; simp
            have hB := HJ.out.1
            obtain ⟨F, eF⟩ : ∃ F, bestF' p i = F := ⟨_, rfl⟩
            rw [hbe, eF] at hB
            rw [eF] at hst
            obtain ⟨f1, f2⟩ := F
            have HST := Lib.hid (And.intro hst (And.intro hXl hX))
            have hc1 : wr.cell? ⟨wo.heap.size, 0, none⟩ = some (.int .i64 f1) := by simp [World.cell?, hB]
            have hc2 : wr.cell? ⟨wo.heap.size, 1, none⟩ = some (.int .i64 f2) := by simp [World.cell?, hB]
            have hsz4 := (HI.out.2.trans HJ.out.2).size
            have HO : Hid (FrO 29 w.heap.size wr.heap.size wr (.slice sa i sc) X) := by
              rw [← HST.out.2.2]; exact (HI.out.1.grew HJ.out.2).wide (Nat.le_refl _) HJ.out.2.size
            have e2 : IntKind.i64.wrap ((i : Int) + 1) = (i : Int) + 1 := wrap_12 _ (by omega) (by omega)
            clear hbe hst hX hXl hB eF
            go_wp2_with (at_builtin; refine wpList_append_fr rfl (.tmp 55) (.tmp 57) 25 rfl Try.underlying25 Try.infoFrac rfl rfl rfl HO.out (by rw [HST.out.2.1]; omega) hsz4 ?_; rw [HST.out.2.1]; intro g5 c5 w5 hO5 hW5 hS5)
            have HF : Hid (FrO 29 w.heap.size w5.heap.size w5 (.slice (some ⟨g5, 0, none⟩) (i + 1) c5) ((List.range (i + 1)).map (bestF' p)) ∧ Grew w w5) := by
              rw [HST.out.1]
              exact ⟨hO5, Within.grew (HI.out.2.trans HJ.out.2) hW5 (Nat.le_refl _)⟩
            clear hO5 hW5 hS5
            go_wp2
            go_roundw
            case rel => exact ⟨i + 1, some ⟨g5, 0, none⟩, c5, rfl, by go_num, by omega, HF.out⟩
            case measure => simp [intOf]; omega
      · obtain rfl : i = p.length := by omega
        go_wp2
        go_ret
        exact ⟨_, rfl, HI.out.1, HI.out.2⟩
theorem meansX_len (p : List Int) : (meansX p).length ≤ 1000 := by
  unfold meansX
  split
  · rename_i h
    have := ((vProf_iff p).1 h).2.1
    simp only [List.length_map, List.length_range]
    omega
  · exact Nat.zero_le _
end Go.Proofs.Ytlifjhhjkcmneaa
