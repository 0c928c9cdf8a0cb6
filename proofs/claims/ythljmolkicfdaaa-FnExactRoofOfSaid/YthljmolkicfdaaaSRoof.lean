/- The contract of spec.RoofOf, and what both answer at all arguments. -/
import Derived.Test.YthljmolkicfdaaaRoof
namespace Go.Proofs.Ythljmolkicfdaaa
open Go.RowKit

theorem RoofOf_any (v : Value) (p : List Int) (w : World) (hv : IntsV w v p) : Calls Try.prog 14 #[v] w (OwnP (roofX p) w) := by
  unfold roofX
  cases h : vProf p with
  | true => rw [if_pos rfl]; exact Roof_yes v p w hv h
  | false => rw [if_neg (by simp)]; exact Roof_no v p w hv h

set_option maxRecDepth 100000 in
theorem SRoof_no (v : Value) (p : List Int) (w : World) (hv : IntsV w v p) (h : vProf p = false) :
    Calls Try.prog 16 #[v] w (OwnP [] w) := by
  have HV := Lib.hid (sValidProfile0_any v p w hv)
  rw [h] at HV
  obtain ⟨a, b, o, c, rfl, ⟨hlc, hcb⟩, _, _⟩ := hv.shape
  clear hv h
  go_enter Try.func16, Try.ntmps16
  go_wp2_with (fail)
  refine HV.out.mono ?_
  rintro e w1 ⟨rfl, rfl⟩
  go_wp2
  go_ret
  exact ⟨_, rfl, IntsO.nilO _ _ _ _, Grew.refl _⟩

set_option maxRecDepth 100000 in
set_option maxHeartbeats 8000000 in
theorem SRoof_yes (v : Value) (p : List Int) (w : World) (hv : IntsV w v p) (hp : vProf p = true) :
    Calls Try.prog 16 #[v] w (OwnP (asInts (roofL p)) w) := by
  have HV0 := Lib.hid (sValidProfile0_any v p w hv)
  rw [hp] at HV0
  obtain ⟨h1, h9⟩ := vProf_len hp
  have HP := Lib.hid hp
  obtain ⟨a, b, o, c, rfl, ⟨hlc, hcb⟩, hsa, HCP⟩ := hv.shape
  obtain rfl := hsa h1
  clear hv hp hsa
  go_enter Try.func16, Try.ntmps16
  go_wp2_with (fail)
  refine HV0.out.mono ?_
  rintro e w1 ⟨rfl, rfl⟩
  go_wp2_with (fail)
  have H0 : Hid (IntsO 3 w.heap.size (w.alloc (.cells #[] 3)).heap.size (w.alloc (.cells #[] 3)) (.slice (some ⟨w.heap.size, 0, none⟩) 0 0) [] ∧ Grew w (w.alloc (.cells #[] 3))) :=
    ⟨(IntsO.lit 3 w.heap.size w [] #[] rfl (Nat.le_refl _) (by decide)).wide (Nat.le_refl _) (by simp), (Grew.refl _).alloc _⟩
  go_loopg [3, 4] (p.length) (fun gk v i' wr => ∃ (k n : Nat) (sa : Option Addr) (sc : Nat), v = .slice sa n sc ∧ i' = .int .i64 k ∧ k ≤ p.length ∧ p.length ≤ gk + k ∧ n ≤ k ∧ Hid (n = (roofTo p k).length ∧ IntsO 3 w.heap.size wr.heap.size wr v (asInts (roofTo p k)) ∧ Grew w wr ∧ ∃ g, sa = some ⟨g, 0, none⟩))
  case atStart => exact ⟨0, 0, _, 0, rfl, rfl, Nat.zero_le _, Nat.le_refl _, Nat.le_refl _, rfl, H0.out.1, H0.out.2, _, rfl⟩
  case round =>
    obtain ⟨k, n, sa, sc, rfl, rfl, hk, hgk, hnk, HI⟩ := hrel
    clear H0
    by_cases hlt : k < p.length
    · obtain ⟨wo, rfl⟩ : ∃ wo : World, wo = wr := ⟨_, rfl⟩
      obtain ⟨gn, rfl⟩ : ∃ gn : Nat, gn = gk := ⟨_, rfl⟩
      obtain ⟨r, er⟩ : ∃ r, roofTo p k = r := ⟨_, rfl⟩
      have hrl := roofTo_lt p k
      rw [er] at hrl HI
      have HR := Lib.hid (And.intro er hrl)
      obtain ⟨g, rfl⟩ := HI.out.2.2.2
      clear er hrl
      go_wp2
      go_loopg [3] n (fun gk v wr => ∃ (m : Nat), v = .slice (some ⟨g, 0, none⟩) m sc ∧ m ≤ n ∧ m ≤ gk ∧ Hid (popTo p k r r.length = popTo p k r m ∧ IntsO 3 w.heap.size wr.heap.size wr v ((asInts r).take m) ∧ Grew wo wr))
      case atStart => exact ⟨n, rfl, Nat.le_refl _, Nat.le_refl _, by rw [HI.out.1], by
        have := HI.out.2.1
        rwa [List.take_of_length_le (by rw [asInts_len, HI.out.1]; exact Nat.le_refl _)], Grew.refl _⟩
      case round =>
        obtain ⟨m, rfl, hmn, hmg, HJ⟩ := hrel
        have hlen : ((asInts r).take m).length = m := by rw [List.length_take, asInts_len, ← HI.out.1]; omega
        have HLEN := Lib.hid hlen
        have hfin : ∀ wz : World, Grew wr wz → popTo p k r m = m → Hid (∃ X : List Int, (asInts r).take m = X ∧ X.length = m ∧ IntsO 3 w.heap.size wz.heap.size wz (.slice (some ⟨g, 0, none⟩) m sc) X ∧ popTo p k r r.length = m ∧ Grew w wz) := fun wz hg h =>
          ⟨_, rfl, hlen, (HJ.out.2.1.grew hg).wide (Nat.le_refl _) hg.size, by rw [HJ.out.1]; exact h, (HI.out.2.2.1.trans HJ.out.2.2).trans hg⟩
        have HFIN := Lib.hid hfin
        clear hfin
        by_cases hm : 1 < m
        · obtain ⟨M, hM⟩ : ∃ M, m = M + 2 := ⟨m - 2, by omega⟩
          obtain ⟨N, hN⟩ : ∃ N, m = N + 1 := ⟨m - 1, by omega⟩
          have hrn := HI.out.1
          obtain ⟨A, hA⟩ : ∃ A, r.getD M 0 = A := ⟨_, rfl⟩
          obtain ⟨B, hB⟩ : ∃ B, r.getD N 0 = B := ⟨_, rfl⟩
          have hAk := HR.out.2.2 M (by omega)
          have hBk := HR.out.2.2 N (by omega)
          rw [hA] at hAk
          rw [hB] at hBk
          have hcA := (HJ.out.2.1.at rfl (i := M) (by omega)).1
          have hcB := (HJ.out.2.1.at rfl (i := N) (by omega)).1
          rw [show ((asInts r).take m).getD M 0 = (A : Int) by
            rw [← hA, ← asInts_at r M (by omega)]; simp [List.getD_eq_getElem?_getD, show M < m by omega]] at hcA
          rw [show ((asInts r).take m).getD N 0 = (B : Int) by
            rw [← hB, ← asInts_at r N (by omega)]; simp [List.getD_eq_getElem?_getD, show N < m by omega]] at hcB
          have hcap : m ≤ sc ∧ sc ≤ 9223372036854775807 := by
            obtain ⟨_, _, e', _, _, q1, q2⟩ := HJ.out.2.1.pos (by omega)
            rw [hlen] at e' q1
            cases e'
            exact ⟨q1, q2⟩
          obtain ⟨hlc', hcc'⟩ := hcap
          have hg3 := HI.out.2.2.1.trans HJ.out.2.2
          have xa := hg3.cell (HCP.out A (by omega))
          have xb := hg3.cell (HCP.out B (by omega))
          have xk := hg3.cell (HCP.out k hlt)
          have ba := vProf_at HP.out A (by omega)
          have bb := vProf_at HP.out B (by omega)
          have bk := vProf_at HP.out k hlt
          obtain ⟨x, ex⟩ : ∃ x, p.getD A 0 = x := ⟨_, rfl⟩
          obtain ⟨y, ey⟩ : ∃ y, p.getD B 0 = y := ⟨_, rfl⟩
          obtain ⟨z, ez⟩ : ∃ z, p.getD k 0 = z := ⟨_, rfl⟩
          rw [ex] at xa ba
          rw [ey] at xb bb
          rw [ez] at xk bk
          have HXYZ := Lib.hid (And.intro ex (And.intro ey ez))
          have m1 := mul_bd (y - x) ((k : Int) - A) 100 100 (by omega) (by omega)
          have m2 := mul_bd (z - x) ((B : Int) - A) 100 100 (by omega) (by omega)
          have v1 : IntKind.i64.wrap (y - x) = y - x := wrap_small _ (by omega) (by omega)
          have v2 : IntKind.i64.wrap ((k : Int) - A) = (k : Int) - A := wrap_small _ (by omega) (by omega)
          have v3 : IntKind.i64.wrap ((y - x) * ((k : Int) - A)) = (y - x) * ((k : Int) - A) := wrap_small _ (by omega) (by omega)
          have v4 : IntKind.i64.wrap (z - x) = z - x := wrap_small _ (by omega) (by omega)
          have v5 : IntKind.i64.wrap ((B : Int) - A) = (B : Int) - A := wrap_small _ (by omega) (by omega)
          have v6 : IntKind.i64.wrap ((z - x) * ((B : Int) - A)) = (z - x) * ((B : Int) - A) := wrap_small _ (by omega) (by omega)
          have r1 : (0 : Int) ≤ M := by omega
          have r2 : (M : Int) < m := by omega
          have r3 : (0 : Int) ≤ N := by omega
          have r4 : (N : Int) < m := by omega
          have r5 : (1 : Int) < m := by omega
          have r6 : N ≤ sc := by omega
          have r7 : (A : Int) < p.length := by omega
          have r8 : (B : Int) < p.length := by omega
          have r9 : (k : Int) < p.length := by omega
          have r10 : (0 : Int) ≤ A := by omega
          have r11 : (0 : Int) ≤ B := by omega
          have r12 : (0 : Int) ≤ k := by omega
          have w3 : (m : Int) - 1 = (N : Int) := by omega
          have w5 : (m : Int) - 2 = (M : Int) := by omega
          have HAB := Lib.hid (And.intro hA (And.intro hB (And.intro hM hN)))
          by_cases hbb : (z - x) * ((B : Int) - A) < (y - x) * ((k : Int) - A)
          · have hd : decide ((z - x) * ((B : Int) - A) < (y - x) * ((k : Int) - A)) = true := decide_eq_true hbb
            have HBB := Lib.hid hbb
            clear hA hB hbb hrn hM hN ex ey ez m1 m2 hlen hg3
            go_wp2
            go_quiet (fail)
            have HC := HFIN.out (wr.drewN nq) ((Grew.refl _).drewN _) (popTo_done (.inr ⟨M, HAB.out.2.2.1, by
              rw [HAB.out.1, show M + 1 = N by have := HAB.out.2.2; omega, HAB.out.2.1]
              unfold bendB
              rw [HXYZ.out.1, HXYZ.out.2.1, HXYZ.out.2.2]
              exact decide_eq_true HBB.out⟩))
            clear v1 v2 v3 v4 v5 v6 hd w3 w5 hcA hcB xa xb xk r1 r2 r3 r4 r5 r6 r7 r8 r9 r10 r11 r12 ba bb bk
            obtain ⟨wz, hwz⟩ : ∃ wz, wr.drewN nq = wz := ⟨_, rfl⟩
            rw [hwz] at HC ⊢
            clear hwz
            obtain ⟨X, hX1, hX2, hX3, hX4, hX5⟩ := HC.out
            have HX := Lib.hid (And.intro hX1 (And.intro hX2 hX4))
            have HXO := Lib.hid (And.intro hX3 hX5)
            have hXl : X.length + 1 ≤ 17592186044416 := by omega
            have hXk : X.length + 1 ≤ k + 1 := by omega
            have hws : w.heap.size ≤ wz.heap.size := hX5.size
            have HCE : Hid (∀ i, i < X.length → (wz.alloc (.cells #[] 3)).cell? ⟨g, 0 + i, none⟩ = some (.int .i64 (X.getD i 0))) := fun i hi => by
              rw [Nat.zero_add]
              exact ((HXO.out.1.grew ((Grew.refl _).alloc _)).at rfl hi).1
            have HL0 : Hid (IntsO 3 w.heap.size (wz.heap.size + 1) (wz.alloc (.cells #[] 3)) (.slice (some ⟨wz.heap.size, 0, none⟩) 0 0) []) := (IntsO.lit 3 wz.heap.size wz [] #[] rfl (Nat.le_refl _) (by decide)).wide hws (Nat.le_refl _)
            have hXm := HX.out.2.1
            subst hXm
            clear hX1 hX2 hX3 hX4 hX5 HC
            go_wp2_with (first
              | (refine wpList_append_rowOf rfl (.tmp 64) (.tmp 65) 23 rfl Try.underlying23 Try.infoE rfl rfl rfl HCE.out HL0.out (by simp; omega) (by simp; omega) ?_; intro a1 c1 w1 hO1 hW1; simp only [List.length_nil, Nat.zero_add, List.nil_append] at hO1; have HO1 := Lib.hid (And.intro hO1 (Within.grew (HXO.out.2.trans ((Grew.refl _).alloc _)) (hW1.wide (Nat.le_refl _) (Nat.le_refl _)) (Nat.le_refl _))); have hs1 := HO1.out.2.size; clear hO1 hW1)
              | (refine wpList_append_int rfl (.tmp 66) (.tmp 68) 23 rfl Try.underlying23 Try.infoE rfl rfl rfl HO1.out.1 hXl hs1 ?_; intro g5 c5 w5 hO5 hW5 hS5; have HF := Lib.hid (And.intro hO5 (Within.grew HO1.out.2 hW5 (Nat.le_refl _))); clear hO5 hW5 hS5))
            go_roundg (gn - 1)
            case measure => omega
            case rel => exact ⟨k + 1, X.length + 1, _, c5, rfl, by go_num, by omega, by omega, hXk, by
              have hc := roof_close HR.out.1 HX.out.2.2 (by have := HI.out.1; omega)
              rw [hc.1, hc.2, HX.out.1]
              exact ⟨rfl, HF.out.1, HF.out.2, _, rfl⟩⟩
          · have hd : decide ((z - x) * ((B : Int) - A) < (y - x) * ((k : Int) - A)) = false := decide_eq_false hbb
            have HBB := Lib.hid hbb
            clear hA hB hbb hrn hM hN ex ey ez m1 m2 hlen hg3
            go_wp2
            go_quiet (fail)
            go_wp2
            have HF : Hid (popTo p k r r.length = popTo p k r N ∧ IntsO 3 w.heap.size (wr.drewN nq).heap.size (wr.drewN nq) (.slice (some ⟨g, 0, none⟩) N sc) ((asInts r).take N) ∧ Grew wo (wr.drewN nq)) := by
              refine ⟨?_, ?_, HJ.out.2.2.drewN _⟩
              · rw [HJ.out.1, HAB.out.2.2.1, show N = M + 1 by have := HAB.out.2.2; omega]
                refine popTo_next ?_
                rw [HAB.out.1, show M + 1 = N by have := HAB.out.2.2; omega, HAB.out.2.1]
                unfold bendB
                rw [HXYZ.out.1, HXYZ.out.2.1, HXYZ.out.2.2]
                exact decide_eq_false (by have h := HBB.out; omega)
              · have hg := (Grew.refl wr).drewN nq
                have h := ((HJ.out.2.1.grew hg).wide (Nat.le_refl w.heap.size) hg.size).init N (by have := HLEN.out; omega)
                rwa [List.take_take, Nat.min_eq_left (by have := HAB.out.2.2; omega)] at h
            clear v1 v2 v3 v4 v5 v6 hd w3 w5 hcA hcB xa xb xk
            go_roundg (gk - 1)
            case measure => omega
            case rel => exact ⟨N, rfl, by omega, by omega, HF.out.1, HF.out.2.1, HF.out.2.2⟩
        · have HC := HFIN.out wr (Grew.refl _) (popTo_done (.inl (by omega)))
          have hm1 : (m : Int) ≤ 1 := by omega
          clear hm hlen
          obtain ⟨X, hX1, hX2, hX3, hX4, hX5⟩ := HC.out
          have HX := Lib.hid (And.intro hX1 (And.intro hX2 hX4))
          have HXO := Lib.hid (And.intro hX3 hX5)
          have hXl : X.length + 1 ≤ 17592186044416 := by omega
          have hXk : X.length + 1 ≤ k + 1 := by omega
          have hws : w.heap.size ≤ wr.heap.size := hX5.size
          have HCE : Hid (∀ i, i < X.length → (wr.alloc (.cells #[] 3)).cell? ⟨g, 0 + i, none⟩ = some (.int .i64 (X.getD i 0))) := fun i hi => by
            rw [Nat.zero_add]
            exact ((HXO.out.1.grew ((Grew.refl _).alloc _)).at rfl hi).1
          have HL0 : Hid (IntsO 3 w.heap.size (wr.heap.size + 1) (wr.alloc (.cells #[] 3)) (.slice (some ⟨wr.heap.size, 0, none⟩) 0 0) []) := (IntsO.lit 3 wr.heap.size wr [] #[] rfl (Nat.le_refl _) (by decide)).wide hws (Nat.le_refl _)
          have hXm := HX.out.2.1
          subst hXm
          clear hX1 hX2 hX3 hX4 hX5 HC
          go_wp2_with (first
            | (refine wpList_append_rowOf rfl (.tmp 64) (.tmp 65) 23 rfl Try.underlying23 Try.infoE rfl rfl rfl HCE.out HL0.out (by simp; omega) (by simp; omega) ?_; intro a1 c1 w1 hO1 hW1; simp only [List.length_nil, Nat.zero_add, List.nil_append] at hO1; have HO1 := Lib.hid (And.intro hO1 (Within.grew (HXO.out.2.trans ((Grew.refl _).alloc _)) (hW1.wide (Nat.le_refl _) (Nat.le_refl _)) (Nat.le_refl _))); have hs1 := HO1.out.2.size; clear hO1 hW1)
            | (refine wpList_append_int rfl (.tmp 66) (.tmp 68) 23 rfl Try.underlying23 Try.infoE rfl rfl rfl HO1.out.1 hXl hs1 ?_; intro g5 c5 w5 hO5 hW5 hS5; have HF := Lib.hid (And.intro hO5 (Within.grew HO1.out.2 hW5 (Nat.le_refl _))); clear hO5 hW5 hS5))
          go_roundg (gn - 1)
          case measure => omega
          case rel => exact ⟨k + 1, X.length + 1, _, c5, rfl, by go_num, by omega, by omega, hXk, by
            have hc := roof_close HR.out.1 HX.out.2.2 (by have := HI.out.1; omega)
            rw [hc.1, hc.2, HX.out.1]
            exact ⟨rfl, HF.out.1, HF.out.2, _, rfl⟩⟩
    · obtain rfl : k = p.length := by omega
      go_wp2
      go_ret
      exact ⟨_, rfl, HI.out.2.1, HI.out.2.2.1⟩
theorem SRoofOf_any (v : Value) (p : List Int) (w : World) (hv : IntsV w v p) : Calls Try.prog 16 #[v] w (OwnP (roofX p) w) := by
  unfold roofX
  cases h : vProf p with
  | true => rw [if_pos rfl]; exact SRoof_yes v p w hv h
  | false => rw [if_neg (by simp)]; exact SRoof_no v p w hv h
end Go.Proofs.Ythljmolkicfdaaa
