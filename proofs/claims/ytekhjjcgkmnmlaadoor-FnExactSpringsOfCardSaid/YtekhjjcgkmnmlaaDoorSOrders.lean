/- The contract of spec.orders. -/
import Derived.Test.YtekhjjcgkmnmlaaDoorStrM
import Derived.Test.YtekhjjcgkmnmlaaDoorStrT
import Derived.Lib.MinMax
namespace Go.Proofs.YtekhjjcgkmnmlaaDoor
open Go.RowKit

/-- One cell is put into the slice that is told. -/
theorem put_told {E B C N : Nat} {w wr : World} {os : List Int} (h : IntsO E B C wr (.slice (some ⟨B, 0, none⟩) N N) os ∧ Grew w wr ∧ C ≤ wr.heap.size) (hB : w.heap.size = B) (hBC : B < C) (i : Nat) (y : Int) :
    IntsO E B C (wr.setCell ⟨B, i, none⟩ (.int .i64 y)) (.slice (some ⟨B, 0, none⟩) N N) (os.set i y) ∧ Grew w (wr.setCell ⟨B, i, none⟩ (.int .i64 y)) ∧ C ≤ (wr.setCell ⟨B, i, none⟩ (.int .i64 y)).heap.size := by
  obtain ⟨z3, z4, z5⟩ := h
  have hwi : Within B C wr (wr.setCell ⟨B, i, none⟩ (.int .i64 y)) := (Within.refl _ _ _).setCell (p := ⟨B, i, none⟩) (Nat.le_refl _) hBC _
  exact ⟨z3.set rfl i y, Within.grew z4 hwi (by rw [hB]; exact Nat.le_refl _), by simpa using z5⟩
theorem gath_bd {os ts : List Int} (hb : ∀ k, 0 ≤ os.getD k 0 ∧ os.getD k 0 ≤ 25) (i : Nat) : ∀ k, (0 ≤ (gath os ts k i).1 ∧ (gath os ts k i).1 ≤ 25) ∧ (0 ≤ (gath os ts k i).2 ∧ (gath os ts k i).2 ≤ k) ∧ (0 ≤ allS os ts k i ∧ allS os ts k i ≤ 25 * (k : Int))
  | 0 => ⟨⟨Int.le_refl _, show (0 : Int) ≤ 25 by decide⟩, ⟨Int.le_refl _, Int.le_refl _⟩, Int.le_refl _, Int.le_refl _⟩
  | k + 1 => by
    obtain ⟨h1, h2, h3⟩ := gath_bd (ts := ts) hb i k
    have h4 := hb k
    by_cases e : ts.getD k 0 = (i : Int)
    · obtain ⟨e1, e2, _⟩ := gath_yes (os := os) e
      rw [e1, e2]
      unfold ordStep
      split
      · exact ⟨h4, ⟨by simp only; omega, by simp only; omega⟩, by omega, by omega⟩
      · split
        · exact ⟨h1, ⟨by simp only; omega, by simp only; omega⟩, by omega, by omega⟩
        · exact ⟨h1, ⟨by omega, by omega⟩, by omega, by omega⟩
    · obtain ⟨e1, e2, _⟩ := gath_no (os := os) e
      rw [e1, e2]
      exact ⟨h1, ⟨by omega, by omega⟩, by omega, by omega⟩
theorem ords_bd {N : Nat} {ts os : List Int} {rk : Nat → Nat} {joined : Bool} {r i : Nat} (h : Ords N ts rk joined r i os) (R : Runs N ts) (hN : N ≤ 25) (k : Nat) : 0 ≤ os.getD k 0 ∧ os.getD k 0 ≤ 25 := by
  by_cases hk : k < N
  · have h1 := phi_pos R joined k hk
    have h2 := phi_le R joined k hk
    rcases h.val k hk with e | e <;> omega
  · have : os.getD k 0 = 0 := by
      rw [List.getD_eq_getElem?_getD, List.getElem?_eq_none (by rw [h.len]; omega)]; rfl
    omega

set_option maxRecDepth 100000 in
set_option maxHeartbeats 16000000 in
theorem sorders_any (joined : Bool) (v : Value) (ts : List Int) (N : Nat) (w : World) (hv : IntsV w v ts) (R : Runs N ts) (hN : N ≤ 25) (hN1 : 1 ≤ N) :
    Calls Tryd.prog 59 #[v, .bool joined] w (OwnI w (toldU (phiO joined ts) N)) := by
  obtain ⟨a, b, o, c, rfl, ⟨hlc, hcb⟩, ha, HC⟩ := hv.shape
  obtain rfl := ha (by rw [R.len]; omega)
  have HC2 : Hid (∀ X, X < N → w.cell? ⟨b, o + X, none⟩ = some (.int .i64 (ts.getD X 0))) := Lib.hid fun X hX => HC.out X (by rw [R.len]; exact hX)
  obtain ⟨rk, hr1, hr2⟩ := R.rank
  have HR := Lib.hid R
  have HK := Lib.hid (And.intro hr1 hr2)
  have hln := R.len
  rw [hln] at hlc ⊢
  clear hv ha HC R hr1 hr2 hln
  go_enter Tryd.func59, Tryd.ntmps59
  go_wp2_with (at_make; refine wpList_make_ints rfl (.tmp 16) (.tmp 16) 27 rfl Tryd.underlying27 Tryd.infoI rfl rfl rfl rfl (by omega) ?_; intro w4 hO4 hg4 hs4)
  obtain ⟨B, eB⟩ : ∃ B, w.heap.size = B := ⟨_, rfl⟩
  obtain ⟨C, eC⟩ : ∃ C, w4.heap.size = C := ⟨_, rfl⟩
  rw [eB] at hO4 hs4 ⊢
  have HBC : Hid (B < C ∧ w.heap.size = B) := Lib.hid ⟨by omega, eB⟩
  have H4 : Hid (IntsO 3 B C w4 (.slice (some ⟨B, 0, none⟩) N N) (List.replicate N 0) ∧ Grew w w4 ∧ C ≤ w4.heap.size) := Lib.hid ⟨by rw [← eC]; exact hO4, hg4, by rw [eC]; exact Nat.le_refl _⟩
  clear hO4 hg4 hs4 eB eC
  go_wp2
  go_loopw [7] (fun lv wr => ∃ r : Nat, r ≤ N ∧ lv = .int .i64 ((N : Int) - r) ∧ Hid (∃ os : List Int, Ords N ts rk joined r 0 os ∧ IntsO 3 B C wr (.slice (some ⟨B, 0, none⟩) N N) os ∧ Grew w wr ∧ C ≤ wr.heap.size)) (fun lv _ => (intOf lv).toNat)
  case atStart => exact ⟨0, Nat.zero_le _, by simp, _, ords_start joined HK.out.1, H4.out⟩
  case round =>
    obtain ⟨r, hr, rfl, HX⟩ := hrel
    by_cases hlt : r < N
    · have hpos : (0 : Int) < (N : Int) - r := by omega
      have hwl : IntKind.i64.wrap ((N : Int) - r - 1) = (N : Int) - r - 1 := wrapS _ (by omega) (by omega)
      go_wp2
      go_loopw [8] (fun iv wr => ∃ i : Nat, i ≤ N ∧ iv = .int .i64 (i : Int) ∧ Hid (∃ os : List Int, Ords N ts rk joined r i os ∧ IntsO 3 B C wr (.slice (some ⟨B, 0, none⟩) N N) os ∧ Grew w wr ∧ C ≤ wr.heap.size)) (fun iv _ => N - (intOf iv).toNat)
      case atStart => exact ⟨0, Nat.zero_le _, rfl, HX.out⟩
      case round =>
        clear HX
        obtain ⟨i, hi, rfl, HX⟩ := hrel
        by_cases hlti : i < N
        · obtain ⟨os, HE⟩ : ∃ os : List Int, Hid (Ords N ts rk joined r i os ∧ IntsO 3 B C wr (.slice (some ⟨B, 0, none⟩) N N) os ∧ Grew w wr ∧ C ≤ wr.heap.size) := by
            obtain ⟨os, h⟩ := HX.out
            exact ⟨os, Lib.hid h⟩
          clear HX
          have HB := Lib.hid (ords_bd HE.out.1 HR.out hN)
          obtain ⟨hcx, hfx⟩ := HE.out.2.1.at rfl (i := i) (by rw [HE.out.1.len]; exact hlti)
          have hii : (i : Int) < (N : Int) := by omega
          have hwi : IntKind.i64.wrap ((i : Int) + 1) = (i : Int) + 1 := wrapS _ (by omega) (by omega)
          obtain ⟨y, ey⟩ : ∃ y, os.getD i 0 = y := ⟨_, rfl⟩
          rw [ey] at hcx
          have HEY := Lib.hid ey
          have HGB := Lib.hid fun k => gath_bd (ts := ts) HB.out i k
          clear ey
          by_cases hy : 0 < y
          · have HN2 : Hid (Ords N ts rk joined r (i + 1) os) := Lib.hid (HE.out.1.told hlti (by rw [HEY.out]; exact hy))
            go_wp2
            go_roundw
            case rel => exact ⟨i + 1, by omega, by go_num, os, HN2.out, HE.out.2⟩
            case measure => simp [intOf]; omega
          · have hy2 : ¬ 0 < y := hy
            obtain ⟨wo, ewo⟩ : ∃ wo : World, wr = wo := ⟨_, rfl⟩
            subst ewo
            go_wp2
            go_loopw [9, 10, 11, 12, 13] (fun rv bv hv sv kv wq => ∃ (k : Nat) (A H S : Int) (rd : Bool), k ≤ N ∧ kv = .int .i64 (k : Int) ∧ rv = .bool rd ∧ bv = .int .i64 A ∧ hv = .int .i64 H ∧ sv = .int .i64 S ∧ Hid (gath os ts k i = (A, H) ∧ allS os ts k i = S ∧ readyB os ts k i = rd ∧ wq = wr)) (fun _ _ _ _ kv _ => N - (intOf kv).toNat)
            case atStart => exact ⟨0, 0, 0, 0, true, Nat.zero_le _, rfl, rfl, rfl, rfl, rfl, rfl, rfl, rfl, rfl⟩
            case round =>
              obtain ⟨k, A, H, S, rd, hk, rfl, rfl, rfl, rfl, rfl, HI⟩ := hrel
              obtain ⟨hG, hS, hRd, rfl⟩ := HI.out
              have hbd := HGB.out k
              rw [hG, hS] at hbd
              simp only at hbd
              obtain ⟨⟨hA0, hA1⟩, ⟨hH0, hH1⟩, hS0, hS1⟩ := hbd
              have HG := Lib.hid (And.intro hG (And.intro hS hRd))
              clear HI hG hS hRd
              by_cases hltk : k < N
              · have hct := HE.out.2.2.1.cell (HC2.out k hltk)
                have hco := (HE.out.2.1.at rfl (i := k) (by rw [HE.out.1.len]; exact hltk)).1
                have hkk : (k : Int) < (N : Int) := by omega
                have hwk : IntKind.i64.wrap ((k : Int) + 1) = (k : Int) + 1 := wrapS _ (by omega) (by omega)
                have hzb := HB.out k
                obtain ⟨z, ez⟩ : ∃ z, os.getD k 0 = z := ⟨_, rfl⟩
                rw [ez] at hco hzb
                obtain ⟨hz0, hz1⟩ := hzb
                by_cases et : ts.getD k 0 = (i : Int)
                · have hy := gath_yes (os := os) et
                  rw [HG.out.1, HG.out.2.1, HG.out.2.2, ez] at hy
                  have HY := Lib.hid hy
                  rw [et] at hct
                  have hws : IntKind.i64.wrap (S + z) = S + z := wrapS _ (by omega) (by omega)
                  have hwh : IntKind.i64.wrap (H + 1) = H + 1 := wrapS _ (by omega) (by omega)
                  clear hy et ez
                  unfold ordStep at HY
                  rcases Int.lt_trichotomy A z with h1 | h1 | h1
                  · have hz : 0 < z := by omega
                    have HZ : Hid (gath os ts (k + 1) i = (z, 1) ∧ allS os ts (k + 1) i = S + z ∧ readyB os ts (k + 1) i = rd) := Lib.hid (by
                      obtain ⟨e1, e2, e3⟩ := HY.out
                      rw [if_pos h1] at e1
                      rw [decide_eq_true hz, Bool.and_true] at e3
                      exact ⟨e1, e2, e3⟩)
                    clear HY
                    cases rd with
                    | true =>
                      go_wp2
                      go_roundw
                      case rel => exact ⟨k + 1, z, 1, S + z, true, by omega, by go_num, by simp, rfl, rfl, rfl, HZ.out.1, HZ.out.2.1, HZ.out.2.2, trivial⟩
                      case measure => simp [intOf]; omega
                    | false =>
                      go_wp2
                      go_roundw
                      case rel => exact ⟨k + 1, z, 1, S + z, false, by omega, by go_num, rfl, rfl, rfl, rfl, HZ.out.1, HZ.out.2.1, HZ.out.2.2, trivial⟩
                      case measure => simp [intOf]; omega
                  · subst h1
                    have HZ : Hid (gath os ts (k + 1) i = (A, H + 1) ∧ allS os ts (k + 1) i = S + A ∧ readyB os ts (k + 1) i = (rd && decide (0 < A))) := Lib.hid (by
                      obtain ⟨e1, e2, e3⟩ := HY.out
                      rw [if_neg (by simp), if_pos rfl] at e1
                      exact ⟨e1, e2, e3⟩)
                    have hn1 : ¬ A < A := by omega
                    clear HY
                    cases rd with
                    | true =>
                      go_wp2
                      go_roundw
                      case rel => exact ⟨k + 1, A, H + 1, S + A, decide (0 < A), by omega, by go_num, by simp, rfl, rfl, rfl, HZ.out.1, HZ.out.2.1, by simpa using HZ.out.2.2, trivial⟩
                      case measure => simp [intOf]; omega
                    | false =>
                      go_wp2
                      go_roundw
                      case rel => exact ⟨k + 1, A, H + 1, S + A, false, by omega, by go_num, rfl, rfl, rfl, rfl, HZ.out.1, HZ.out.2.1, by simpa using HZ.out.2.2, trivial⟩
                      case measure => simp [intOf]; omega
                  · have HZ : Hid (gath os ts (k + 1) i = (A, H) ∧ allS os ts (k + 1) i = S + z ∧ readyB os ts (k + 1) i = (rd && decide (0 < z))) := Lib.hid (by
                      obtain ⟨e1, e2, e3⟩ := HY.out
                      rw [if_neg (by simp only; omega), if_neg (by simp only; omega)] at e1
                      exact ⟨e1, e2, e3⟩)
                    have hn1 : ¬ A < z := by omega
                    have hn2 : ¬ z = A := by omega
                    have hn3 : (z == A) = false := beq_eq_false_iff_ne.2 hn2
                    clear HY
                    cases rd with
                    | true =>
                      go_wp2
                      go_roundw
                      case rel => exact ⟨k + 1, A, H, S + z, decide (0 < z), by omega, by go_num, by simp, rfl, rfl, rfl, HZ.out.1, HZ.out.2.1, by simpa using HZ.out.2.2, trivial⟩
                      case measure => simp [intOf]; omega
                    | false =>
                      go_wp2
                      go_roundw
                      case rel => exact ⟨k + 1, A, H, S + z, false, by omega, by go_num, rfl, rfl, rfl, rfl, HZ.out.1, HZ.out.2.1, by simpa using HZ.out.2.2, trivial⟩
                      case measure => simp [intOf]; omega
                · have hy := gath_no (os := os) et
                  rw [HG.out.1, HG.out.2.1, HG.out.2.2] at hy
                  have HY := Lib.hid hy
                  obtain ⟨t, eT⟩ : ∃ t, ts.getD k 0 = t := ⟨_, rfl⟩
                  rw [eT] at hct et
                  have hne : (t != (i : Int)) = true := bne_iff_ne.2 et
                  clear hy eT ez
                  go_wp2
                  go_roundw
                  case rel => exact ⟨k + 1, A, H, S, rd, by omega, by go_num, rfl, rfl, rfl, rfl, HY.out.1, HY.out.2.1, HY.out.2.2, trivial⟩
                  case measure => simp [intOf]; omega
              · obtain rfl : k = N := by omega
                clear hltk
                cases rd with
                | false =>
                  have HN2 : Hid (Ords k ts rk joined r (i + 1) os) := Lib.hid (HE.out.1.wait HR.out HK.out.2 HG.out.2.2)
                  go_wp2
                  go_roundw
                  case rel => exact ⟨i + 1, by omega, by go_num, os, HN2.out, HE.out.2⟩
                  case measure => simp [intOf]; omega
                | true =>
                  have HT := Lib.hid (HE.out.1.tell hlti HR.out HG.out.2.2)
                  rw [HG.out.1, HG.out.2.1] at HT
                  have HP := Lib.hid fun y => put_told HE.out.2 HBC.out.2 HBC.out.1 i y
                  unfold tellO at HT
                  cases joined with
                  | true =>
                    rw [if_pos rfl] at HT
                    go_wp2
                    go_roundw
                    case rel => exact ⟨i + 1, by omega, by go_num, _, HT.out, HP.out _⟩
                    case measure => simp [intOf]; omega
                  | false =>
                    rw [if_neg (by simp)] at HT
                    simp only at HT
                    by_cases h1 : 1 < H
                    · rw [if_pos h1] at HT
                      have hwa : IntKind.i64.wrap (A + 1) = A + 1 := wrapS _ (by omega) (by omega)
                      go_wp2
                      go_roundw
                      case rel => exact ⟨i + 1, by omega, by go_num, _, HT.out, HP.out _⟩
                      case measure => simp [intOf]; omega
                    · rw [if_neg h1] at HT
                      go_wp2
                      go_roundw
                      case rel => exact ⟨i + 1, by omega, by go_num, _, HT.out, HP.out _⟩
                      case measure => simp [intOf]; omega
        · obtain rfl : i = N := by omega
          have HX2 : Hid (∃ os : List Int, Ords i ts rk joined (r + 1) 0 os ∧ IntsO 3 B C wr (.slice (some ⟨B, 0, none⟩) i i) os ∧ Grew w wr ∧ C ≤ wr.heap.size) := by
            obtain ⟨os, h1, h2⟩ := HX.out
            exact Lib.hid ⟨os, h1.round, h2⟩
          clear HX
          go_wp2
          go_roundw
          case rel => exact ⟨r + 1, by omega, by simp; omega, HX2.out⟩
          case measure => simp [intOf]; omega
    · obtain rfl : r = N := by omega
      have HF : Hid (IntsO 3 w.heap.size wr.heap.size wr (.slice (some ⟨B, 0, none⟩) r r) (toldU (phiO joined ts) r) ∧ Grew w wr) := by
        obtain ⟨os, z1, z3, z4, z5⟩ := HX.out
        rw [z1.all] at z3
        exact Lib.hid ⟨z3.wide (by rw [HBC.out.2]; exact Nat.le_refl _) z5, z4⟩
      have hn0 : ¬ (0 : Int) < (r : Int) - r := by omega
      clear HX
      go_wp2
      go_ret
      refine ⟨some ⟨B, 0, none⟩, r, ret_slice (toldU_len _ _).symm, ?_, HF.out.2⟩
      rw [toldU_len]
      exact HF.out.1
end Go.Proofs.YtekhjjcgkmnmlaaDoor
