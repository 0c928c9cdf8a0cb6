/- The contract of spec.paint. -/
import Derived.Test.YtlfoimjohdaofaaDoorPaintM
import Derived.Test.YtlfoimjohdaofaaDoorSQuad
import Derived.Test.YtlfoimjohdaofaaDoorRowOf
namespace Go.Proofs.YtlfoimjohdaofaaDoor
open Go.RowKit

theorem paintM_end (s : ByteArray) (k a t l b r : Nat) (f : Nat → Nat → Int) : ∀ e, (paintM s k a t l b r f).2 = some e → a < e ∧ e ≤ s.size := paintM_endF s k a t l b r f
/-- Where a part ends as spec tells it. -/
def endI (o : Option Nat) : Int := match o with | none => -1 | some e => (e : Int)
def PaintPost (n m : Nat) (w : World) (z : (Nat → Nat → Int) × Option Nat) (e : Ending) (w' : World) : Prop := ∃ v', e = .returned (.tuple #[v', .int .i64 (endI z.2)]) ∧ IntsV w' v' (flatF n m z.1) ∧ Grew w w'
theorem run_index_cd {P : Program} {w : World} (t : TypeId) (s : ByteArray) (a : Nat) (h : P.underlying t = some .string) (ha : a < s.size) : (Instr.index t (.string s) (.int .i64 (a : Int))).run P w = .ok (.int .u8 ((cdS s a : Nat) : Int)) w := by
  rw [run_index_string w t s .i64 (a : Int) h, dif_pos ⟨by omega, by omega⟩, cdS_get s a ha]
  rfl
theorem mid_div (a b M : Nat) (h : a ≤ b) (eM : midQ a b = M) : ((a : Int) + (b : Int) + 1).tdiv 2 = (M : Int) ∧ ((a : Int) + (b : Int) + 1) / 2 = (M : Int) := by
  have := midQ_spec a b h
  rw [eM] at this
  refine ⟨?_, by omega⟩
  rw [Int.tdiv_eq_ediv_of_nonneg (by omega)]
  omega
/-- The walk of a part that is told by a number. -/
theorem digM_stop {s : ByteArray} {j n : Nat} (h : ¬ (48 ≤ cdS s j ∧ cdS s j ≤ 57 ∧ n ≤ 12)) (g : Nat) : digM s g j n = (n, j) := by
  cases g with
  | zero => rfl
  | succ g => unfold digM; rw [if_neg h]
theorem digM_go {s : ByteArray} {j n : Nat} (h : 48 ≤ cdS s j ∧ cdS s j ≤ 57 ∧ n ≤ 12) (hj : j < s.size) : digM s (s.size - j) j n = digM s (s.size - (j + 1)) (j + 1) (10 * n + (cdS s j - 48)) := by
  obtain ⟨g, hg⟩ : ∃ g, s.size - j = g + 1 := ⟨s.size - j - 1, by omega⟩
  rw [hg, show s.size - (j + 1) = g by omega]
  show (if _ then _ else _) = _
  rw [if_pos h]
set_option maxRecDepth 100000 in
set_option maxHeartbeats 40000000 in
theorem paint_leaf (s : ByteArray) (hs : s.size ≤ 9223372036854775807) (n m : Nat) (hn1 : 1 ≤ n) (hn5 : n ≤ 5) (hm1 : 1 ≤ m) (hm5 : m ≤ 5) (a t l b r : Nat) (f : Nat → Nat → Int) (v : Value) (w : World) (ha : a < s.size) (hv : IntsV w v (flatF n m f)) (htb : t < b) (hb : b ≤ n) (hlr : l < r) (hr : r ≤ m) (hc : cdS s a ≠ 40) (R : (Nat → Nat → Int) × Option Nat)
    (hR : R = if (digM s (s.size - a) a 0).2 = a ∨ s.size ≤ (digM s (s.size - a) a 0).2 ∨ cdS s (digM s (s.size - a) a 0).2 ≠ 59 ∨ 12 < (digM s (s.size - a) a 0).1 ∨ s.extract a (digM s (s.size - a) a 0).2 ≠ numS (digM s (s.size - a) a 0).1 then (f, none)
    else (setP f t b l r (digM s (s.size - a) a 0).1, some ((digM s (s.size - a) a 0).2 + 1))) :
    Calls Tryd.prog 32 #[v, .int .i64 m, .string s, .int .i64 a, .int .i64 t, .int .i64 l, .int .i64 b, .int .i64 r] w (PaintPost n m w R) := by
  unfold PaintPost
  obtain ⟨N, J, eD⟩ : ∃ N J, digM s (s.size - a) a 0 = (N, J) := ⟨_, _, rfl⟩
  rw [eD] at hR
  have HR := Lib.hid hR
  have HD := Lib.hid eD
  obtain ⟨c, ec⟩ : ∃ c, cdS s a = c := ⟨_, rfl⟩
  rw [ec] at hc
  have hix : ∀ W : World, (Instr.index 9 (.string s) (.int .i64 (a : Int))).run Tryd.prog W = .ok (.int .u8 (c : Int)) W := fun W => by rw [← ec]; exact run_index_cd 9 s a Tryd.underlying9 ha
  have HB := Lib.hid (And.intro (And.intro hn1 hn5) (And.intro hm1 hm5))
  have HP := Lib.hid (And.intro (And.intro htb hb) (And.intro hlr hr))
  have HV := Lib.hid hv
  have HS := Lib.hid hs
  have HA := Lib.hid ha
  have h1 : ¬ s.size ≤ a := by omega
  have h2 : ¬ ((t : Int) = (b : Int)) := by omega
  have h3 : ¬ ((l : Int) = (r : Int)) := by omega
  have h2b : ((t : Int) == (b : Int)) = false := by simp; omega
  have h3b : ((l : Int) == (r : Int)) = false := by simp; omega
  have hcc : ((c : Int) == 40) = false := by simp; omega
  have hcd : ¬ ((c : Int) = 40) := by omega
  clear hn1 hn5 hm1 hm5 htb hb hlr hr hv hs ha hc ec eD hR
  go_enter Tryd.func32, Tryd.ntmps32
  go_wp2
  clear h1 h2 h3 h2b h3b hcc hcd hix
  go_loopg [20, 21] s.size (fun gk nv jv wr => ∃ q j : Nat, nv = .int .i64 (q : Int) ∧ jv = .int .i64 (j : Int) ∧ a ≤ j ∧ j ≤ s.size ∧ q ≤ 129 ∧ s.size ≤ gk + j ∧ Hid (digM s (s.size - j) j q = (N, J)) ∧ Hid (Grew w wr))
  case atStart => exact ⟨0, a, rfl, rfl, Nat.le_refl _, Nat.le_of_lt HA.out, Nat.zero_le _, Nat.le_add_right _ _, HD, Grew.refl _⟩
  case round =>
    obtain ⟨q, j, rfl, rfl, haj, hjs, hq, hgk, HI, HG⟩ := hrel

    by_cases hj : j < s.size
    · obtain ⟨d, ed⟩ : ∃ d, cdS s j = d := ⟨_, rfl⟩
      have hd255 : d ≤ 255 := by rw [← ed, cdS_get s j hj]; have := (s[j]'hj).toNat_lt; omega
      have hij : ∀ W : World, (Instr.index 9 (.string s) (.int .i64 (j : Int))).run Tryd.prog W = .ok (.int .u8 (d : Int)) W := fun W => by rw [← ed]; exact run_index_cd 9 s j Tryd.underlying9 hj
      by_cases hgo : 48 ≤ d ∧ d ≤ 57 ∧ q ≤ 12
      · obtain ⟨g1, g2, g3⟩ := hgo
        obtain ⟨y, hy⟩ : ∃ y, d = 48 + y := ⟨d - 48, by omega⟩
        have HI2 : Hid (digM s (s.size - (j + 1)) (j + 1) (10 * q + y) = (N, J)) := Lib.hid (by
          have := digM_go (s := s) (j := j) (n := q) (by rw [ed]; exact ⟨g1, g2, g3⟩) hj
          rw [ed, hy, Nat.add_sub_cancel_left, HI.out] at this
          exact this.symm)
        have w1 : IntKind.u8.wrap ((d : Int) - 48) = (y : Int) := by unfold IntKind.wrap; simp [IntKind.signed, IntKind.bits]; omega
        have w2 : IntKind.i64.wrap (10 * (q : Int)) = 10 * (q : Int) := IntWalk.i64_in _ (by omega)
        have w3 : IntKind.i64.wrap (10 * (q : Int) + (y : Int)) = 10 * (q : Int) + (y : Int) := IntWalk.i64_in _ (by omega)
        have w4 : IntKind.i64.wrap (y : Int) = (y : Int) := IntWalk.i64_in _ (by omega)
        have HY := Lib.hid hy
        clear hy
        go_wp2
        go_roundg (gk - 1)
        case measure => omega
        case rel => have h9 := HS.out; exact ⟨10 * q + y, j + 1, by go_num, by rw [← IntWalk.i64_left, IntWalk.i64_in _ (by omega)]; rfl, by omega, hj, by have := HY.out; omega, by omega, HI2, HG⟩
      · have HST : Hid (digM s (s.size - j) j q = (q, j)) := Lib.hid (digM_stop (by rw [ed]; exact hgo) _)
        have HNJ : Hid (N = q ∧ J = j) := Lib.hid (by have := HI.out; rw [HST.out] at this; injection this with e1 e2; exact ⟨e1.symm, e2.symm⟩)
        have hx : ¬ 48 ≤ d ∨ (48 ≤ d ∧ ¬ d ≤ 57) ∨ ((48 ≤ d ∧ d ≤ 57) ∧ ¬ q ≤ 12) := by omega
        clear hgo HST HI hgk
        by_cases hja : j = a
        · have HF : Hid (∀ k : Nat, (Value.int .i64 (-1) : Value) = .int .i64 (endI R.2) ∧ IntsV (wr.drewN k) v (flatF n m R.1) ∧ Grew w (wr.drewN k)) := Lib.hid fun k => by
            have e : R = (f, none) := HR.out.trans (by rw [HNJ.out.1, HNJ.out.2]; exact if_pos (.inl hja))
            rw [e]
            exact ⟨rfl, HV.out.grew (HG.out.drewN k), HG.out.drewN k⟩
          rcases hx with x | ⟨x, x2⟩ | ⟨⟨x, x1⟩, x2⟩
          all_goals
            subst hja
            go_wp2
            go_quiet (fail)
            go_wp2
            go_ret2
            exact ⟨v, by rw [← (HF.out 0).1]; rfl, (HF.out _).2⟩
        · have hjb : ¬ ((j : Int) = (a : Int)) := by omega
          have hjc : ((j : Int) == (a : Int)) = false := by simp; omega
          have hjn : ¬ s.size ≤ j := by omega
          by_cases hd : d = 59
          · have h48 : 48 ≤ d := by omega
            have h57 : ¬ d ≤ 57 := by omega
            clear hx hja
            by_cases hq12 : 12 < q
            · have HF : Hid (∀ k : Nat, (Value.int .i64 (-1) : Value) = .int .i64 (endI R.2) ∧ IntsV (wr.drewN k) v (flatF n m R.1) ∧ Grew w (wr.drewN k)) := Lib.hid fun k => by
                have e : R = (f, none) := HR.out.trans (by rw [HNJ.out.1, HNJ.out.2]; exact if_pos (.inr (.inr (.inr (.inl hq12)))))
                rw [e]
                exact ⟨rfl, HV.out.grew (HG.out.drewN k), HG.out.drewN k⟩
              have hqi : (12 : Int) < (q : Int) := by omega
              have hqd : decide ((12 : Int) < (q : Int)) = true := decide_eq_true hqi
              subst hd
              go_wp2
              go_quiet (fail)
              go_wp2
              go_ret2
              exact ⟨v, by rw [← (HF.out 0).1]; rfl, (HF.out _).2⟩
            · have hqi : ¬ (12 : Int) < (q : Int) := by omega
              have hqd : decide ((12 : Int) < (q : Int)) = false := decide_eq_false hqi
              obtain ⟨Y, eY⟩ : ∃ Y, s.extract a j = Y := ⟨_, rfl⟩
              obtain ⟨Z, eZ⟩ : ∃ Z, numS q = Z := ⟨_, rfl⟩
              have hsl : ∀ W : World, (Instr.slice 9 (.string s) (some (.int .i64 (a : Int))) (some (.int .i64 (j : Int))) none).run Tryd.prog W = .ok (.string Y) W := fun W => by
                rw [run_slice_string W 9 s .i64 .i64 (a : Int) (j : Int) Tryd.underlying9 (by omega) (by omega) (by omega)]
                rw [← eY]
                rfl
              have HNUM : Hid (∀ k, Calls Tryd.prog 44 #[.int .i64 (q : Int)] (wr.drewN k) fun e w' => e = .returned (.string Z) ∧ w' = wr.drewN k) := Lib.hid fun k => (number_any q (wr.drewN k) (by omega)).mono fun e w' h => ⟨by rw [h.1, eZ], h.2.symm⟩
              by_cases hyz : Y = Z
              · have htx := txt_eq hyz
                have HR2 : Hid (R = (setP f t b l r q, some (j + 1))) := Lib.hid (HR.out.trans (by
                  rw [HNJ.out.1, HNJ.out.2]
                  refine if_neg ?_
                  rintro (h | h | h | h | h)
                  · exact hjb (by rw [h])
                  · exact hjn h
                  · exact h (by rw [ed]; exact hd)
                  · exact hq12 h
                  · exact h (by rw [eY, eZ]; exact hyz)))
                have HJS := Lib.hid hj
                subst hd
                clear hyz eY eZ
                go_wp2
                go_quiet ((go_at_call 44; exact Calls.quiet_of_same (HNUM.out _)))
                obtain ⟨wq, ewq⟩ : ∃ z, z = wr.drewN nq := ⟨_, rfl⟩
                rw [← ewq]
                have HGQ : Hid (Grew w wq) := Lib.hid (by rw [ewq]; exact HG.out.drewN nq)
                have hvq := HV.out.grew HGQ.out
                clear ewq HNUM htx hsl hij ed hd255 h48 h57 hqd hjc hjb hjn hq12
                obtain ⟨va, vb, vo, vc, rfl, ⟨hvl, hvc⟩, hva, hvcells⟩ := hvq.shape
                obtain ⟨XS, eXS⟩ : ∃ XS, flatF n m f = XS := ⟨_, rfl⟩
                have hxl : XS.length = n * m := by rw [← eXS]; exact flatF_len n m f
                have hnm0 : 0 < n * m := Nat.mul_pos HB.out.1.1 HB.out.2.1
                have hnm1 : n * m ≤ 25 := Nat.mul_le_mul HB.out.1.2 HB.out.2.2
                rw [eXS] at hvl hva hvcells ⊢
                obtain rfl := hva (by omega)
                obtain ⟨W6, eW6⟩ : ∃ z, z = wq.alloc (.cells #[] 3) := ⟨_, rfl⟩
                have HG6 : Hid (Grew wq W6) := Lib.hid (by rw [eW6]; exact (Grew.refl _).alloc _)
                have HO6 : Hid (IntsO 3 wq.heap.size (wq.heap.size + 1) W6 (.slice (some ⟨wq.heap.size, 0, none⟩) 0 0) []) := Lib.hid (by rw [eW6]; exact IntsO.lit 3 wq.heap.size wq [] #[] rfl (Nat.le_refl _) (Nat.zero_le _))
                have HC6 : Hid (∀ i, i < XS.length → W6.cell? ⟨vb, vo + i, none⟩ = some (.int .i64 (XS.getD i 0))) := Lib.hid fun i hi => HG6.out.cell (hvcells.out i hi)
                have HXL : Hid (0 < XS.length ∧ ([] : List Int).length + XS.length ≤ 17592186044416) := Lib.hid ⟨by omega, by simp; omega⟩
                have HEX := Lib.hid eXS
                have HE6 := Lib.hid eW6
                clear hvl hva hvcells hxl hnm0 hnm1 eXS eW6 hvq
                go_wp2_with (rw [← HE6.out]; at_builtin; refine wpList_append_ints rfl (.tmp 193) (.tmp 194) 28 rfl Tryd.underlying28 Tryd.infoI rfl rfl HC6.out HO6.out HXL.out.1 HXL.out.2 (HG6.out.size) ?_; intro g5 c5 w5 hO5 hW5)
                simp only [List.length_nil, Nat.zero_add, List.nil_append] at hO5 ⊢
                obtain ⟨LN, eLN⟩ : ∃ LN, n * m = LN := ⟨_, rfl⟩
                have hXL : XS.length = LN := by rw [← HEX.out, flatF_len, eLN]
                have HLN := Lib.hid eLN
                rw [hXL] at hO5 ⊢
                have HI0 : Hid (IntsO 3 wq.heap.size w5.heap.size w5 (.slice (some ⟨g5, 0, none⟩) LN c5) (flatF n m (midP f t l r q (t + 0) l)) ∧ Grew w w5) := Lib.hid ⟨by rw [Nat.add_zero, midP_start, HEX.out]; exact hO5, HGQ.out.trans (Within.grew HG6.out hW5 (Nat.le_refl _))⟩
                have HW0 := Lib.hid HGQ.out.size
                have HBB : Hid (wq.heap.size ≤ g5 ∧ g5 < w5.heap.size) := Lib.hid hO5.blk
                obtain ⟨K, eK⟩ : ∃ K, b - t = K := ⟨_, rfl⟩
                obtain ⟨D, eD⟩ : ∃ D, r - l = D := ⟨_, rfl⟩
                have HK : Hid (t + K = b) := Lib.hid (by have := HP.out.1.1; omega)
                have HDD : Hid (l + D = r) := Lib.hid (by have := HP.out.2.1; omega)
                have HME := Lib.hid (midP_end f t b l r (q : Int))
                have HMR := Lib.hid (midP_row f t l r (q : Int))
                have HMN := Lib.hid (midP_next f t l r (q : Int))
                clear hO5 hW5 hXL eLN eK eD haj hjs hq hj HC6 HO6 HXL HE6 HG6
                go_wp2
                obtain ⟨og, eog⟩ : ∃ z, z = gk := ⟨_, rfl⟩
                obtain ⟨w0, ew0⟩ : ∃ z, z = wr := ⟨_, rfl⟩
                subst eog
                subst ew0
                go_loopg [23] K (fun gk iv wr => ∃ i : Nat, iv = .int .i64 ((t + i : Nat) : Int) ∧ i ≤ K ∧ K ≤ gk + i ∧ Hid (IntsO 3 wq.heap.size w5.heap.size wr (.slice (some ⟨g5, 0, none⟩) LN c5) (flatF n m (midP f t l r q (t + i) l)) ∧ Grew w wr))
                case atStart => exact ⟨0, rfl, Nat.zero_le _, Nat.le_refl _, HI0⟩
                case round =>
                  obtain ⟨i, rfl, hi1, hi2, HI⟩ := hrel
                  by_cases hlt : i < K
                  · obtain ⟨T, eT⟩ : ∃ T, t + i = T := ⟨_, rfl⟩
                    rw [eT] at HI ⊢
                    have hTb : T < b := by have := HK.out; omega
                    have hT5 : T < 5 := by have := HP.out; have := HB.out; omega
                    have HT := Lib.hid eT
                    have HIS := Lib.hid (And.intro hi1 (And.intro hi2 hlt))
                    have HJ0 : Hid (IntsO 3 wq.heap.size w5.heap.size wr (.slice (some ⟨g5, 0, none⟩) LN c5) (flatF n m (midP f t l r q T (l + 0))) ∧ Grew w wr) := HI
                    clear eT hi1 hi2 hlt
                    go_wp2
                    obtain ⟨og2, eog⟩ : ∃ z, z = gk := ⟨_, rfl⟩
                    obtain ⟨w02, ew0⟩ : ∃ z, z = wr := ⟨_, rfl⟩
                    subst eog
                    subst ew0
                    go_loopg [24] D (fun gk iv wr => ∃ d : Nat, iv = .int .i64 ((l + d : Nat) : Int) ∧ d ≤ D ∧ D ≤ gk + d ∧ Hid (IntsO 3 wq.heap.size w5.heap.size wr (.slice (some ⟨g5, 0, none⟩) LN c5) (flatF n m (midP f t l r q T (l + d))) ∧ Grew w wr))
                    case atStart => exact ⟨0, rfl, Nat.zero_le _, Nat.le_refl _, HJ0⟩
                    case round =>
                      obtain ⟨d, rfl, hd1, hd2, HJ⟩ := hrel
                      by_cases hdt : d < D
                      · obtain ⟨C, eC⟩ : ∃ C, l + d = C := ⟨_, rfl⟩
                        rw [eC] at HJ ⊢
                        have hCr : C < r := by have := HDD.out; omega
                        have hC5 : C < 5 := by have := HP.out; have := HB.out; omega
                        have hCm : C < m := by have := HP.out; omega
                        have hTn : T < n := by have := HP.out; omega
                        obtain ⟨E, eE⟩ : ∃ E, T * m + C = E := ⟨_, rfl⟩
                        obtain ⟨TM, eTM⟩ : ∃ TM, T * m = TM := ⟨_, rfl⟩
                        have hEL : E < LN := by rw [← eE, ← HLN.out]; exact flat_lt hTn hCm
                        have hE25 : LN ≤ 25 := by rw [← HLN.out]; exact Nat.mul_le_mul HB.out.1.2 HB.out.2.2
                        have hmul : (T : Int) * (m : Int) = (TM : Int) := by rw [← Int.natCast_mul, eTM]
                        rw [eTM] at eE
                        have hw1 : IntKind.i64.wrap ((T : Int) * (m : Int)) = (TM : Int) := by rw [hmul]; exact IntWalk.i64_in _ (by omega)
                        have hw2 : IntKind.i64.wrap ((TM : Int) + (C : Int)) = (E : Int) := by rw [IntWalk.i64_in _ (by omega)]; omega
                        have hST := HJ.out.1.set rfl E (q : Int)
                        rw [show E = T * m + C by rw [eTM]; exact eE.symm, flatF_set n m _ T C _ hCm, HMN.out T C (by omega)] at hST
                        rw [show T * m + C = E by rw [eTM]; exact eE] at hST
                        have HST : Hid (∀ c', c' = C + 1 → IntsO 3 wq.heap.size w5.heap.size (wr.setCell ⟨g5, E, none⟩ (.int .i64 q)) (.slice (some ⟨g5, 0, none⟩) LN c5) (flatF n m (midP f t l r q T c')) ∧ Grew w (wr.setCell ⟨g5, E, none⟩ (.int .i64 q))) := Lib.hid fun c' ec' => by
                          subst ec'
                          exact ⟨hST, Within.grew HJ.out.2 ((Within.refl _ _ _).setCell (lo := g5) (hi := g5 + 1) (p := ⟨g5, E, none⟩) (Nat.le_refl _) (Nat.lt_succ_self _) _) (Nat.le_trans HW0.out HBB.out.1)⟩
                        obtain ⟨q1, q2⟩ := HJ.out.1.at rfl (i := E) (by rw [flatF_len, HLN.out]; exact hEL)
                        obtain ⟨y, ey⟩ : ∃ y, (flatF n m (midP f t l r q T C)).getD E 0 = y := ⟨_, rfl⟩
                        rw [ey] at q1
                        have HEC := Lib.hid eC
                        have HDS := Lib.hid (And.intro hd1 hd2)
                        clear hST ey eC eE eTM hmul hTn hd1 hd2 hE25
                        go_wp2
                        go_roundg (gk - 1)
                        case measure => have := HDS.out; omega
                        case rel => exact ⟨d + 1, by have := HEC.out; go_num, by omega, by have := HDS.out; omega, HST.out _ (by have := HEC.out; omega)⟩
                      · obtain rfl : d = D := by omega
                        rw [HDD.out] at HJ ⊢
                        have HI1 : Hid (IntsO 3 wq.heap.size w5.heap.size wr (.slice (some ⟨g5, 0, none⟩) LN c5) (flatF n m (midP f t l r q (t + (i + 1)) l)) ∧ Grew w wr) := by
                          have h1 := HJ.out
                          rw [HMR.out T (by have := HT.out; omega)] at h1
                          rw [show t + (i + 1) = T + 1 by have := HT.out; omega]
                          exact Lib.hid h1
                        go_wp2
                        go_roundg (og2 - 1)
                        case measure => have := HIS.out; omega
                        case rel => exact ⟨i + 1, by have := HT.out; go_num, by have := HIS.out; omega, by have := HIS.out; omega, HI1⟩
                  · obtain rfl : i = K := by omega
                    rw [HK.out] at HI ⊢
                    have HFF : Hid (IntsV wr (.slice (some ⟨g5, 0, none⟩) LN c5) (flatF n m R.1) ∧ Grew w wr) := Lib.hid (by
                      rw [HR2.out]
                      have h1 := HI.out
                      rw [HME.out] at h1
                      exact ⟨h1.1.toV, h1.2⟩)
                    have hjx : (j : Int) + 1 ≤ 9223372036854775807 := by have := HS.out; have := HJS.out; omega
                    go_wp2
                    go_ret2
                    exact ⟨_, by rw [HR2.out, show endI (setP f t b l r q, some (j + 1)).2 = (j : Int) + 1 from Int.natCast_succ j]; rfl, HFF.out⟩
              · have HF : Hid (∀ k : Nat, (Value.int .i64 (-1) : Value) = .int .i64 (endI R.2) ∧ IntsV (wr.drewN k) v (flatF n m R.1) ∧ Grew w (wr.drewN k)) := Lib.hid fun k => by
                  have e : R = (f, none) := HR.out.trans (by rw [HNJ.out.1, HNJ.out.2]; exact if_pos (.inr (.inr (.inr (.inr (by rw [eY, eZ]; exact hyz))))))
                  rw [e]
                  exact ⟨rfl, HV.out.grew (HG.out.drewN k), HG.out.drewN k⟩
                have htx := txt_ne hyz
                subst hd
                clear hyz eY eZ
                go_wp2
                go_quiet ((go_at_call 44; exact Calls.quiet_of_same (HNUM.out _)))
                go_wp2
                go_ret2
                exact ⟨v, by rw [← (HF.out 0).1]; rfl, (HF.out _).2⟩
          · have HF : Hid (∀ k : Nat, (Value.int .i64 (-1) : Value) = .int .i64 (endI R.2) ∧ IntsV (wr.drewN k) v (flatF n m R.1) ∧ Grew w (wr.drewN k)) := Lib.hid fun k => by
              have e : R = (f, none) := HR.out.trans (by rw [HNJ.out.1, HNJ.out.2]; exact if_pos (.inr (.inr (.inl (by rw [ed]; exact hd)))))
              rw [e]
              exact ⟨rfl, HV.out.grew (HG.out.drewN k), HG.out.drewN k⟩
            have hdb : ((d : Int) == 59) = false := by simp; omega
            have hdn : ((d : Int) != 59) = true := by rw [bne, hdb]; rfl
            clear hja hd hdb
            rcases hx with x | ⟨x, x2⟩ | ⟨⟨x, x1⟩, x2⟩
            · go_wp2
              go_quiet (fail)
              go_wp2
              go_ret2
              exact ⟨v, by rw [← (HF.out 0).1]; rfl, (HF.out _).2⟩
            · go_wp2
              go_quiet (fail)
              go_wp2
              go_ret2
              exact ⟨v, by rw [← (HF.out 0).1]; rfl, (HF.out _).2⟩
            · go_wp2
              go_quiet (fail)
              go_wp2
              go_ret2
              exact ⟨v, by rw [← (HF.out 0).1]; rfl, (HF.out _).2⟩
    · have ej : j = s.size := by omega
      have HNJ : Hid (N = q ∧ J = j) := Lib.hid (by have := HI.out; rw [show s.size - j = 0 by omega] at this; injection this with e1 e2; exact ⟨e1.symm, e2.symm⟩)
      have HF : Hid (∀ k : Nat, (Value.int .i64 (-1) : Value) = .int .i64 (endI R.2) ∧ IntsV (wr.drewN k) v (flatF n m R.1) ∧ Grew w (wr.drewN k)) := Lib.hid fun k => by
        have e : R = (f, none) := HR.out.trans (by rw [HNJ.out.1, HNJ.out.2]; exact if_pos (.inr (.inl (by omega))))
        rw [e]
        exact ⟨rfl, HV.out.grew (HG.out.drewN k), HG.out.drewN k⟩
      have hjb : ¬ ((j : Int) = (a : Int)) := by have := HA.out; omega
      have hjc : ((j : Int) == (a : Int)) = false := by simp; have := HA.out; omega
      have hjs2 : s.size ≤ j := by omega
      clear hjs ej hgk HI
      go_wp2
      go_quiet (fail)
      go_wp2
      go_ret2
      exact ⟨v, by rw [← (HF.out 0).1]; rfl, (HF.out _).2⟩

set_option maxRecDepth 100000 in
set_option maxHeartbeats 8000000 in
theorem paint_any (s : ByteArray) (hs : s.size ≤ 9223372036854775807) (n m : Nat) (hn1 : 1 ≤ n) (hn5 : n ≤ 5) (hm1 : 1 ≤ m) (hm5 : m ≤ 5) (k : Nat) : ∀ (a t l b r : Nat) (f : Nat → Nat → Int) (v : Value) (w : World), s.size < k + a → a ≤ s.size → IntsV w v (flatF n m f) → t ≤ b → b ≤ n → l ≤ r → r ≤ m →
    Calls Tryd.prog 32 #[v, .int .i64 m, .string s, .int .i64 a, .int .i64 t, .int .i64 l, .int .i64 b, .int .i64 r] w (PaintPost n m w (paintM s k a t l b r f)) := by
  induction k with
  | zero => intro a t l b r f v w hk ha; omega
  | succ k ih =>
  intro a t l b r f v w hk ha hv htb hb hlr hr
  unfold PaintPost at ih ⊢
  have HIH := Lib.hid ih
  have HB := Lib.hid (And.intro (And.intro hn1 hn5) (And.intro hm1 hm5))
  have HP := Lib.hid (And.intro (And.intro htb hb) (And.intro hlr hr))
  have HV := Lib.hid hv
  have HS := Lib.hid hs
  have HK := Lib.hid (And.intro hk ha)
  clear ih hn1 hn5 hm1 hm5 hv htb hb hlr hr hs hk ha
  by_cases hsz : s.size ≤ a
  · have e : paintM s (k + 1) a t l b r f = (f, none) := by unfold paintM; rw [if_pos hsz]
    rw [e]
    clear e
    go_enter Tryd.func32, Tryd.ntmps32
    go_wp2
    go_ret2
    exact ⟨_, rfl, HV.out, Grew.refl _⟩
  obtain ⟨c, ec⟩ : ∃ c, cdS s a = c := ⟨_, rfl⟩
  have hix : ∀ W : World, (Instr.index 9 (.string s) (.int .i64 (a : Int))).run Tryd.prog W = .ok (.int .u8 (c : Int)) W := fun W => by rw [← ec]; exact run_index_cd 9 s a Tryd.underlying9 (by omega)
  have HSZ : Hid (a < s.size) := Lib.hid (by omega)
  have ha1 : IntKind.i64.wrap ((a : Int) + 1) = ((a + 1 : Nat) : Int) := by rw [IntWalk.i64_in _ (by have := HS.out; omega)]; omega
  by_cases h0 : t = b ∨ l = r
  · have h2 : ((t : Int) == (b : Int)) = true ∨ (((t : Int) == (b : Int)) = false ∧ ((l : Int) == (r : Int)) = true) := by
      by_cases e : t = b
      · exact .inl (by rw [e]; simp)
      · exact .inr ⟨by simp; omega, by rcases h0 with h | h; exact absurd h e; rw [h]; simp⟩
    by_cases hc : c = 46
    · have e : paintM s (k + 1) a t l b r f = (f, some (a + 1)) := by unfold paintM; rw [if_neg hsz, if_pos h0, if_pos (by rw [ec]; exact hc)]
      rw [e]
      subst hc
      clear e ec h0
      rcases h2 with h2 | ⟨h2, h3⟩
      all_goals
        go_enter Tryd.func32, Tryd.ntmps32
        go_wp2
        go_ret2
        exact ⟨_, by rw [show endI (f, some (a + 1)).2 = (a : Int) + 1 from Int.natCast_succ a]; rfl, HV.out, Grew.refl _⟩
    · have e : paintM s (k + 1) a t l b r f = (f, none) := by unfold paintM; rw [if_neg hsz, if_pos h0, if_neg (by rw [ec]; exact hc)]
      rw [e]
      have hcc : ((c : Int) == 46) = false := by simp; omega
      have hcd : ¬ ((c : Int) = 46) := by omega
      clear e ec h0 hc
      rcases h2 with h2 | ⟨h2, h3⟩
      all_goals
        go_enter Tryd.func32, Tryd.ntmps32
        go_wp2
        go_ret2
        exact ⟨_, rfl, HV.out, Grew.refl _⟩
  have h2 : ¬ ((t : Int) = (b : Int)) := by omega
  have h3 : ¬ ((l : Int) = (r : Int)) := by omega
  have h2b : ((t : Int) == (b : Int)) = false := by simp; omega
  have h3b : ((l : Int) == (r : Int)) = false := by simp; omega
  by_cases hc : c = 40
  · have HTM := Lib.hid (midQ_bd t b HP.out.1.1)
    have HLM := Lib.hid (midQ_bd l r HP.out.2.1)
    have HE := Lib.hid (show paintM s (k + 1) a t l b r f = _ by unfold paintM; rw [if_neg hsz, if_neg h0, if_pos (by rw [ec]; exact hc)])
    obtain ⟨M, eM⟩ : ∃ M, midQ t b = M := ⟨_, rfl⟩
    obtain ⟨K, eK⟩ : ∃ K, midQ l r = K := ⟨_, rfl⟩
    obtain ⟨tm1, tm2⟩ := mid_div t b M HP.out.1.1 eM
    obtain ⟨lm1, lm2⟩ := mid_div l r K HP.out.2.1 eK
    have twm : IntKind.i64.wrap (M : Int) = (M : Int) := IntWalk.i64_in _ (by have := HP.out; have := HB.out; have := HTM.out; omega)
    have lwm : IntKind.i64.wrap (K : Int) = (K : Int) := IntWalk.i64_in _ (by have := HP.out; have := HB.out; have := HLM.out; omega)
    have tw1 : IntKind.i64.wrap ((t : Int) + (b : Int)) = (t : Int) + (b : Int) := IntWalk.i64_in _ (by have := HP.out; have := HB.out; omega)
    have tw2 : IntKind.i64.wrap ((t : Int) + (b : Int) + 1) = (t : Int) + (b : Int) + 1 := IntWalk.i64_in _ (by have := HP.out; have := HB.out; omega)
    have lw1 : IntKind.i64.wrap ((l : Int) + (r : Int)) = (l : Int) + (r : Int) := IntWalk.i64_in _ (by have := HP.out; have := HB.out; omega)
    have lw2 : IntKind.i64.wrap ((l : Int) + (r : Int) + 1) = (l : Int) + (r : Int) + 1 := IntWalk.i64_in _ (by have := HP.out; have := HB.out; omega)
    rw [eM, eK] at HE
    rw [eM] at HTM
    rw [eK] at HLM
    subst hc
    clear ec h0 eM eK
    have HC1 : Hid (Calls Tryd.prog 32 #[v, .int .i64 m, .string s, .int .i64 ((a : Int) + 1), .int .i64 t, .int .i64 l, .int .i64 M, .int .i64 K] w fun e w' => ∃ v', e = .returned (.tuple #[v', .int .i64 (endI (paintM s k (a + 1) t l M K f).2)]) ∧ IntsV w' v' (flatF n m (paintM s k (a + 1) t l M K f).1) ∧ Grew w w') := Lib.hid (HIH.out (a + 1) t l M K f v w (by have := HK.out; omega) HSZ.out HV.out HTM.out.1 (Nat.le_trans HTM.out.2 HP.out.1.2) HLM.out.1 (Nat.le_trans HLM.out.2 HP.out.2.2))
    have HI1 : Hid (∀ e1, (paintM s k (a + 1) t l M K f).2 = some e1 → a + 1 < e1 ∧ e1 ≤ s.size) := Lib.hid (paintM_end s k (a + 1) t l M K f)
    obtain ⟨R, eR⟩ : ∃ R, paintM s (k + 1) a t l b r f = R := ⟨_, rfl⟩
    rw [eR] at HE ⊢
    clear eR
    generalize paintM s k (a + 1) t l M K f = z1 at HC1 HI1 HE
    obtain ⟨f1, o1⟩ := z1
    go_enter Tryd.func32, Tryd.ntmps32
    go_wp2_with (fail)
    refine HC1.out.mono ?_
    rintro e w1 ⟨v1, rfl, hv1, hg1⟩
    have HV1 := Lib.hid hv1
    have HG1 := Lib.hid hg1
    clear hv1 hg1 tm1 tm2 lm1 lm2 twm lwm tw1 tw2 lw1 lw2 HC1 hix
    cases o1 with
    | none =>
      have HR : Hid (R = (f1, none)) := HE
      have hm : endI (f1, (none : Option Nat)).2 = -1 := rfl
      rw [hm]
      go_wp2
      go_ret2
      exact ⟨_, by rw [HR.out]; rfl, by rw [HR.out]; exact HV1.out, HG1.out⟩
    | some e1 =>
      have he := HE.out
      simp only at he
      have HE := Lib.hid he
      clear he
      have hm : endI (f1, some e1).2 = (e1 : Int) := rfl
      rw [hm]
      have HE1 := Lib.hid (HI1.out e1 rfl)
      clear hm
      have h10 : (0 : Int) ≤ (e1 : Int) := by omega
      have HC2 : Hid (Calls Tryd.prog 32 #[v1, .int .i64 m, .string s, .int .i64 (e1 : Int), .int .i64 t, .int .i64 K, .int .i64 M, .int .i64 r] w1 fun e w' => ∃ v', e = .returned (.tuple #[v', .int .i64 (endI (paintM s k e1 t K M r f1).2)]) ∧ IntsV w' v' (flatF n m (paintM s k e1 t K M r f1).1) ∧ Grew w1 w') := Lib.hid (HIH.out e1 t K M r f1 v1 w1 (by have := HK.out; have := HE1.out;  omega) HE1.out.2 HV1.out (Nat.le_trans (Nat.le_refl _) HTM.out.1) (Nat.le_trans HTM.out.2 HP.out.1.2) HLM.out.2 HP.out.2.2)
      have HI2 : Hid (∀ e2, (paintM s k e1 t K M r f1).2 = some e2 → e1 < e2 ∧ e2 ≤ s.size) := Lib.hid (paintM_end s k e1 t K M r f1)
      generalize paintM s k e1 t K M r f1 = z2 at HC2 HI2 HE
      obtain ⟨f2, o2⟩ := z2
      go_wp2_with (fail)
      refine HC2.out.mono ?_
      rintro e w2 ⟨v2, rfl, hv2, hg2⟩
      have HV2 := Lib.hid hv2
      have HG2 := Lib.hid (HG1.out.trans hg2)
      clear hv2 hg2 HC2
      cases o2 with
      | none =>
        have HR : Hid (R = (f2, none)) := HE
        have hm : endI (f2, (none : Option Nat)).2 = -1 := rfl
        rw [hm]
        go_wp2
        go_ret2
        exact ⟨_, by rw [HR.out]; rfl, by rw [HR.out]; exact HV2.out, HG2.out⟩
      | some e2 =>
        have he := HE.out
        simp only at he
        have HE := Lib.hid he
        clear he
        have hm : endI (f2, some e2).2 = (e2 : Int) := rfl
        rw [hm]
        have HE2 := Lib.hid (HI2.out e2 rfl)
        clear hm
        have h20 : (0 : Int) ≤ (e2 : Int) := by omega
        have HC3 : Hid (Calls Tryd.prog 32 #[v2, .int .i64 m, .string s, .int .i64 (e2 : Int), .int .i64 M, .int .i64 l, .int .i64 b, .int .i64 K] w2 fun e w' => ∃ v', e = .returned (.tuple #[v', .int .i64 (endI (paintM s k e2 M l b K f2).2)]) ∧ IntsV w' v' (flatF n m (paintM s k e2 M l b K f2).1) ∧ Grew w2 w') := Lib.hid (HIH.out e2 M l b K f2 v2 w2 (by have := HK.out; have := HE2.out; have := HE1.out; omega) HE2.out.2 HV2.out HTM.out.2 HP.out.1.2 HLM.out.1 (Nat.le_trans HLM.out.2 HP.out.2.2))
        have HI3 : Hid (∀ e3, (paintM s k e2 M l b K f2).2 = some e3 → e2 < e3 ∧ e3 ≤ s.size) := Lib.hid (paintM_end s k e2 M l b K f2)
        generalize paintM s k e2 M l b K f2 = z3 at HC3 HI3 HE
        obtain ⟨f3, o3⟩ := z3
        go_wp2_with (fail)
        refine HC3.out.mono ?_
        rintro e w3 ⟨v3, rfl, hv3, hg3⟩
        have HV3 := Lib.hid hv3
        have HG3 := Lib.hid (HG2.out.trans hg3)
        clear hv3 hg3 HC3
        cases o3 with
        | none =>
          have HR : Hid (R = (f3, none)) := HE
          have hm : endI (f3, (none : Option Nat)).2 = -1 := rfl
          rw [hm]
          go_wp2
          go_ret2
          exact ⟨_, by rw [HR.out]; rfl, by rw [HR.out]; exact HV3.out, HG3.out⟩
        | some e3 =>
          have he := HE.out
          simp only at he
          have HE := Lib.hid he
          clear he
          have hm : endI (f3, some e3).2 = (e3 : Int) := rfl
          rw [hm]
          have HE3 := Lib.hid (HI3.out e3 rfl)
          clear hm
          have h30 : (0 : Int) ≤ (e3 : Int) := by omega
          have HC4 : Hid (Calls Tryd.prog 32 #[v3, .int .i64 m, .string s, .int .i64 (e3 : Int), .int .i64 M, .int .i64 K, .int .i64 b, .int .i64 r] w3 fun e w' => ∃ v', e = .returned (.tuple #[v', .int .i64 (endI (paintM s k e3 M K b r f3).2)]) ∧ IntsV w' v' (flatF n m (paintM s k e3 M K b r f3).1) ∧ Grew w3 w') := Lib.hid (HIH.out e3 M K b r f3 v3 w3 (by have := HK.out; have := HE3.out; have := HE1.out; have := HE2.out; omega) HE3.out.2 HV3.out HTM.out.2 HP.out.1.2 HLM.out.2 HP.out.2.2)
          have HI4 : Hid (∀ e4, (paintM s k e3 M K b r f3).2 = some e4 → e3 < e4 ∧ e4 ≤ s.size) := Lib.hid (paintM_end s k e3 M K b r f3)
          generalize paintM s k e3 M K b r f3 = z4 at HC4 HI4 HE
          obtain ⟨f4, o4⟩ := z4
          go_wp2_with (fail)
          refine HC4.out.mono ?_
          rintro e w4 ⟨v4, rfl, hv4, hg4⟩
          have HV4 := Lib.hid hv4
          have HG4 := Lib.hid (HG3.out.trans hg4)
          clear hv4 hg4 HC4
          cases o4 with
          | none =>
            have HR : Hid (R = (f4, none)) := HE
            have hm : endI (f4, (none : Option Nat)).2 = -1 := rfl
            rw [hm]
            go_wp2
            go_ret2
            exact ⟨_, by rw [HR.out]; rfl, by rw [HR.out]; exact HV4.out, HG4.out⟩
          | some e4 =>
            have he := HE.out
            simp only at he
            have HE := Lib.hid he
            clear he
            have hm : endI (f4, some e4).2 = (e4 : Int) := rfl
            rw [hm]
            have HE4 := Lib.hid (HI4.out e4 rfl)
            clear hm
            have h40 : (0 : Int) ≤ (e4 : Int) := by omega
            by_cases hz : e4 < s.size
            · obtain ⟨c4, ec4⟩ : ∃ c, cdS s e4 = c := ⟨_, rfl⟩
              have hi4 : ∀ W : World, (Instr.index 9 (.string s) (.int .i64 (e4 : Int))).run Tryd.prog W = .ok (.int .u8 (c4 : Int)) W := fun W => by rw [← ec4]; exact run_index_cd 9 s e4 Tryd.underlying9 hz
              by_cases hc4 : c4 = 41
              · have HR : Hid (R = (f4, some (e4 + 1))) := Lib.hid (HE.out.trans (if_pos ⟨hz, by rw [ec4]; exact hc4⟩))
                have hb4 : (e4 : Int) + 1 ≤ 9223372036854775807 := by have := HS.out; omega
                subst hc4
                clear ec4
                go_wp2
                go_ret2
                exact ⟨_, by rw [HR.out, show endI (f4, some (e4 + 1)).2 = (e4 : Int) + 1 from Int.natCast_succ e4]; rfl, by rw [HR.out]; exact HV4.out, HG4.out⟩
              · have HR : Hid (R = (f4, none)) := Lib.hid (HE.out.trans (if_neg fun h => hc4 (by rw [← ec4]; exact h.2)))
                have hcc : ((c4 : Int) == 41) = false := by simp; omega
                have hcd : ¬ ((c4 : Int) = 41) := by omega
                clear ec4 hc4
                go_wp2
                go_ret2
                exact ⟨_, by rw [HR.out]; rfl, by rw [HR.out]; exact HV4.out, HG4.out⟩
            · have HR : Hid (R = (f4, none)) := Lib.hid (HE.out.trans (if_neg fun h => hz h.1))
              go_wp2
              go_ret2
              exact ⟨_, by rw [HR.out]; rfl, by rw [HR.out]; exact HV4.out, HG4.out⟩
  exact paint_leaf s HS.out n m HB.out.1.1 HB.out.1.2 HB.out.2.1 HB.out.2.2 a t l b r f v w HSZ.out HV.out (by have := HP.out.1.1; omega) HP.out.1.2 (by have := HP.out.2.1; omega) HP.out.2.2 (by rw [ec]; exact hc) _ (by rw [show paintM s (k + 1) a t l b r f = _ by unfold paintM; rw [if_neg hsz, if_neg h0, if_neg (by rw [ec]; exact hc)]])
end Go.Proofs.YtlfoimjohdaofaaDoor
