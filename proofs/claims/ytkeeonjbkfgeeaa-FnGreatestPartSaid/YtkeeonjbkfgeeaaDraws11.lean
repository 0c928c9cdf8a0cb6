/- The contracts of the draws of GreatestPart and SumIn. -/
import Derived.Test.YtkeeonjbkfgeeaaSomeG
namespace Go.Proofs.Ytkeeonjbkfgeeaa
open Go.RowKit

theorem IntsO.litAt11 (E lo blk hi n : Nat) (w : World) (xs : List Int) (cs : Array Value) (h : cs.toList = xs.map (.int .i64)) (hb : blk = w.heap.size) (hn : n = xs.length) (hlo : lo ≤ blk) (hhi : blk < hi) (hl : xs.length ≤ maxLen) :
    IntsO E lo hi (w.alloc (.cells cs E)) (.slice (some ⟨blk, 0, none⟩) n n) xs := by
  subst hb hn
  exact (IntsO.lit E lo w xs cs h hlo hl).wide (Nat.le_refl _) hhi
/-- A drawn grid in new memory, and a number. -/
def DrawnLess (w : World) (e : Ending) (w' : World) : Prop := ∃ v H i, e = .returned (.tuple #[v, .int .i64 i]) ∧ RowsO 27 3 w.heap.size w'.heap.size w' v H ∧ Drawn H ∧ (-1 ≤ i ∧ i ≤ 13) ∧ Grew w w'

set_option maxRecDepth 100000 in
set_option maxHeartbeats 1000000 in
theorem DrawGreatestPart_any (v : Value) (bs : List Int) (w : World) (hv : NumsV .u8 w v bs) (hb : ∀ i, i < bs.length → 0 ≤ bs.getD i 0 ∧ bs.getD i 0 ≤ 255) :
    Calls Try.prog 22 #[v] w (DrawnLess w) := by
  have HN := Lib.hid (newReader_any v bs w hv hb)
  clear hv hb
  go_enter Try.func22, Try.ntmps22
  go_wp2_with (fail)
  refine HN.out.mono ?_
  rintro e w1 ⟨rfl, hr⟩
  have HR := Lib.hid hr
  have hl1 := hr.lt
  clear hr
  go_wp2_with (fail)
  refine (someGrid_any w w1 w.heap.size 0 HR.out (by omega)).mono ?_
  rintro e w2 ⟨v2, H, q, rfl, hO, hd, hr2, hq, hw2⟩
  have HS := Lib.hid (And.intro hO (And.intro hd hr2))
  have hs2 := hw2.size
  have hs0 : w.heap.size ≤ w1.heap.size := HR.out.grew.size
  have hq9 : q ≤ 90000 := by omega
  obtain ⟨a3, n3, c3, rfl⟩ : ∃ a n c, v2 = .slice a n c := by
    rcases hO.shape with ⟨rfl, _⟩ | ⟨g, c, rfl, _⟩ <;> exact ⟨_, _, _, rfl⟩
  clear hO hd hr2 hw2 hq
  go_wp2_with (fail)
  refine (one_any w _ w.heap.size q (w2.heap.size + 1) _ [2, 3, 1, 4, 0, 6, 12, 13, -1] (HS.out.2.2.later ((Grew.refl _).alloc _)) (by omega) (IntsO.litAt11 _ _ _ _ _ _ [2, 3, 1, 4, 0, 6, 12, 13, -1] _ rfl (by simp) rfl (by omega) (by omega) (by simp [maxLen])) (by simp) (by simp)).mono ?_
  rintro e w3 ⟨x, hx, rfl, hr3, hw3⟩
  have hx' : -1 ≤ x ∧ x ≤ 13 := by
    simp at hx
    omega
  have hs3 := hw3.size
  simp at hs3
  have HF : Hid (DrawnLess w (.returned (.tuple #[.slice a3 n3 c3, .int .i64 x])) w3) :=
    ⟨_, H, x, rfl, ((HS.out.1.grew ((Grew.refl _).alloc _)).within hw3 (.inr (by omega))).wide (by omega) (by omega), HS.out.2.1, hx', hr3.grew⟩
  clear hr3 hw3 hx
  go_wp2
  go_ret2
  exact HF.out

/-- A drawn grid in new memory, and four numbers. -/
def DrawnPart (w : World) (e : Ending) (w' : World) : Prop := ∃ v H t l b r, e = .returned (.tuple #[v, .int .i64 t, .int .i64 l, .int .i64 b, .int .i64 r]) ∧ RowsO 27 3 w.heap.size w'.heap.size w' v H ∧ Drawn H ∧ ((0 ≤ t ∧ t ≤ 100) ∧ (0 ≤ l ∧ l ≤ 100) ∧ (0 ≤ b ∧ b ≤ 100) ∧ (0 ≤ r ∧ r ≤ 100)) ∧ Grew w w'
theorem results_tmp5 {fn : Func} {t u v x y : Tmp} (h : fn.results = #[.tmp t, .tmp u, .tmp v, .tmp x, .tmp y]) (tmps : Array Value) (P : Program) (w : World) :
    (results fn tmps).run P w = .ok (.tuple #[tmps.getD t undef, tmps.getD u undef, tmps.getD v undef, tmps.getD x undef, tmps.getD y undef]) w := by
  simp [results, h]
set_option maxRecDepth 100000 in
set_option maxHeartbeats 2000000 in
theorem DrawSumIn_any (v : Value) (bs : List Int) (w : World) (hv : NumsV .u8 w v bs) (hb : ∀ i, i < bs.length → 0 ≤ bs.getD i 0 ∧ bs.getD i 0 ≤ 255) :
    Calls Try.prog 18 #[v] w (DrawnPart w) := by
  have HN := Lib.hid (newReader_any v bs w hv hb)
  clear hv hb
  go_enter Try.func18, Try.ntmps18
  go_wp2_with (fail)
  refine HN.out.mono ?_
  rintro e w1 ⟨rfl, hr⟩
  have HR := Lib.hid hr
  have hl1 := hr.lt
  clear hr
  go_wp2_with (fail)
  refine (someGrid_any w w1 w.heap.size 0 HR.out (by omega)).mono ?_
  rintro e w2 ⟨v2, H, q, rfl, hO, hd, hr2, hq, hw2⟩
  have hH6 : H.length ≤ 6 := hd.1
  have hq9 : q ≤ 900 := by omega
  have HW2 := Lib.hid (And.intro hw2.size hr2.lt)
  obtain ⟨a3, c3, rfl⟩ : ∃ a c, v2 = .slice a H.length c := hO.sh
  obtain ⟨n, en⟩ : ∃ n, H.length = n := ⟨_, rfl⟩
  have HFN : Hid (∀ (t l b r : Int) W, 0 ≤ t ∧ t ≤ 100 → 0 ≤ l ∧ l ≤ 100 → 0 ≤ b ∧ b ≤ 100 → 0 ≤ r ∧ r ≤ 100 → Rdr w W w.heap.size (q + 1 + 1 + 1 + 1 + 1) → Within w.heap.size (w.heap.size + 1) w2 W → DrawnPart w (.returned (.tuple #[.slice a3 n c3, .int .i64 t, .int .i64 l, .int .i64 b, .int .i64 r])) W) := Lib.hid fun t l b r W h1 h2 h3 h4 hr hW => by
    rw [← en]
    exact ⟨_, H, t, l, b, r, rfl, (hO.within hW (.inr (by have := hl1; omega))).wide (by have := HR.out.grew.size; omega) hW.size, hd, ⟨h1, h2, h3, h4⟩, hr.grew⟩
  have HR0 : Hid (Rdr w w2 w.heap.size q ∧ Within w.heap.size (w.heap.size + 1) w2 w2) := Lib.hid ⟨hr2, Within.refl _ _ _⟩
  by_cases h0 : 0 < H.length
  · obtain ⟨g, c, e, _⟩ := hO.pos h0
    obtain ⟨u, hc, hu⟩ := hO.at e h0
    obtain ⟨a', c', rfl⟩ : ∃ a c, u = .slice a (H.getD 0 []).length c := by
      rcases hu.shape with ⟨rfl, e2⟩ | ⟨g2, c2, rfl, _⟩
      · exact ⟨none, 0, by rw [e2]; rfl⟩
      · exact ⟨_, _, rfl⟩
    obtain ⟨m, em⟩ : ∃ m, (H.getD 0 []).length = m := ⟨_, rfl⟩
    have hm5 := (hd.2.1 0 h0).1
    rw [em] at hc hm5
    simp only [Value.slice.injEq, true_and] at e
    obtain ⟨rfl, rfl⟩ := e
    rw [en] at h0 hH6 ⊢
    have h0i : (0 : Int) < n := by omega
    clear hO hd hr2 hq hw2 hu em en
    go_wp2_with (fail)
    refine (pick_any w _ w.heap.size (q) _ HR0.out.1 (by omega) (by omega)).mono ?_
    rintro e w3 ⟨x1, rfl, hx1, hy1, hr1, hw1⟩
    have HR1 : Hid (Rdr w w3 w.heap.size (q + 1) ∧ Within w.heap.size (w.heap.size + 1) w2 w3) := Lib.hid ⟨hr1, HR0.out.2.trans hw1⟩
    clear hr1 hw1
    have hb1 : 0 ≤ x1 ∧ x1 ≤ 6 := by omega
    go_wp2_with (fail)
    refine (pick_any w _ w.heap.size (q + 1) _ HR1.out.1 (by omega) (by omega)).mono ?_
    rintro e w4 ⟨x2, rfl, hx2, hy2, hr2, hw2⟩
    have HR2 : Hid (Rdr w w4 w.heap.size (q + 1 + 1) ∧ Within w.heap.size (w.heap.size + 1) w2 w4) := Lib.hid ⟨hr2, HR1.out.2.trans hw2⟩
    clear hr2 hw2
    have hb2 : 0 ≤ x2 ∧ x2 ≤ 6 := by omega
    go_wp2_with (fail)
    refine (pick_any w _ w.heap.size (q + 1 + 1) _ HR2.out.1 (by omega) (by omega)).mono ?_
    rintro e w5 ⟨x3, rfl, hx3, hy3, hr3, hw3⟩
    have HR3 : Hid (Rdr w w5 w.heap.size (q + 1 + 1 + 1) ∧ Within w.heap.size (w.heap.size + 1) w2 w5) := Lib.hid ⟨hr3, HR2.out.2.trans hw3⟩
    clear hr3 hw3
    have hb3 : 0 ≤ x3 ∧ x3 ≤ 7 := by omega
    go_wp2_with (fail)
    refine (pick_any w _ w.heap.size (q + 1 + 1 + 1) _ HR3.out.1 (by omega) (by omega)).mono ?_
    rintro e w6 ⟨x4, rfl, hx4, hy4, hr4, hw4⟩
    have HR4 : Hid (Rdr w w6 w.heap.size (q + 1 + 1 + 1 + 1) ∧ Within w.heap.size (w.heap.size + 1) w2 w6) := Lib.hid ⟨hr4, HR3.out.2.trans hw4⟩
    clear hr4 hw4
    have hb4 : 0 ≤ x4 ∧ x4 ≤ 7 := by omega
    go_wp2_with (fail)
    refine (pick_any w _ w.heap.size (q + 1 + 1 + 1 + 1) _ HR4.out.1 (by omega) (by omega)).mono ?_
    rintro e w7 ⟨x5, rfl, hx5, hy5, hr5, hw5⟩
    have HR5 : Hid (Rdr w w7 w.heap.size (q + 1 + 1 + 1 + 1 + 1) ∧ Within w.heap.size (w.heap.size + 1) w2 w7) := Lib.hid ⟨hr5, HR4.out.2.trans hw5⟩
    clear hr5 hw5
    by_cases e0 : x5 = 0
    · have f0 : (x5 == 0) = true := by simp [e0]
      clear e0
      go_wp2
      refine bodyPost_ret (results_tmp5 rfl _ _ _) rfl ?_
      exact HFN.out _ _ _ _ _ ⟨by omega, by omega⟩ ⟨by omega, by omega⟩ ⟨by omega, by omega⟩ ⟨by omega, by omega⟩ HR5.out.1 HR5.out.2
    · have f0 : (x5 == 0) = false := by simp [e0]
      by_cases e1 : x5 = 1
      · have f1 : (x5 == 1) = true := by simp [e1]
        clear e0 e1
        go_wp2
        refine bodyPost_ret (results_tmp5 rfl _ _ _) rfl ?_
        exact HFN.out _ _ _ _ _ ⟨by omega, by omega⟩ ⟨by omega, by omega⟩ ⟨by omega, by omega⟩ ⟨by omega, by omega⟩ HR5.out.1 HR5.out.2
      · have f1 : (x5 == 1) = false := by simp [e1]
        clear e0 e1
        go_wp2
        refine bodyPost_ret (results_tmp5 rfl _ _ _) rfl ?_
        exact HFN.out _ _ _ _ _ ⟨by omega, by omega⟩ ⟨by omega, by omega⟩ ⟨by omega, by omega⟩ ⟨by omega, by omega⟩ HR5.out.1 HR5.out.2
  · have hn0 : n = 0 := by omega
    rw [en] at hH6 ⊢
    subst hn0
    clear hO hd hr2 hq hw2 en h0
    have hm5 : 0 ≤ 5 := by omega
    go_wp2_with (fail)
    refine (pick_any w _ w.heap.size (q) _ HR0.out.1 (by omega) (by omega)).mono ?_
    rintro e w3 ⟨x1, rfl, hx1, hy1, hr1, hw1⟩
    have HR1 : Hid (Rdr w w3 w.heap.size (q + 1) ∧ Within w.heap.size (w.heap.size + 1) w2 w3) := Lib.hid ⟨hr1, HR0.out.2.trans hw1⟩
    clear hr1 hw1
    have hb1 : 0 ≤ x1 ∧ x1 ≤ 6 := by omega
    go_wp2_with (fail)
    refine (pick_any w _ w.heap.size (q + 1) _ HR1.out.1 (by omega) (by omega)).mono ?_
    rintro e w4 ⟨x2, rfl, hx2, hy2, hr2, hw2⟩
    have HR2 : Hid (Rdr w w4 w.heap.size (q + 1 + 1) ∧ Within w.heap.size (w.heap.size + 1) w2 w4) := Lib.hid ⟨hr2, HR1.out.2.trans hw2⟩
    clear hr2 hw2
    have hb2 : 0 ≤ x2 ∧ x2 ≤ 6 := by omega
    go_wp2_with (fail)
    refine (pick_any w _ w.heap.size (q + 1 + 1) _ HR2.out.1 (by omega) (by omega)).mono ?_
    rintro e w5 ⟨x3, rfl, hx3, hy3, hr3, hw3⟩
    have HR3 : Hid (Rdr w w5 w.heap.size (q + 1 + 1 + 1) ∧ Within w.heap.size (w.heap.size + 1) w2 w5) := Lib.hid ⟨hr3, HR2.out.2.trans hw3⟩
    clear hr3 hw3
    have hb3 : 0 ≤ x3 ∧ x3 ≤ 7 := by omega
    go_wp2_with (fail)
    refine (pick_any w _ w.heap.size (q + 1 + 1 + 1) _ HR3.out.1 (by omega) (by omega)).mono ?_
    rintro e w6 ⟨x4, rfl, hx4, hy4, hr4, hw4⟩
    have HR4 : Hid (Rdr w w6 w.heap.size (q + 1 + 1 + 1 + 1) ∧ Within w.heap.size (w.heap.size + 1) w2 w6) := Lib.hid ⟨hr4, HR3.out.2.trans hw4⟩
    clear hr4 hw4
    have hb4 : 0 ≤ x4 ∧ x4 ≤ 7 := by omega
    go_wp2_with (fail)
    refine (pick_any w _ w.heap.size (q + 1 + 1 + 1 + 1) _ HR4.out.1 (by omega) (by omega)).mono ?_
    rintro e w7 ⟨x5, rfl, hx5, hy5, hr5, hw5⟩
    have HR5 : Hid (Rdr w w7 w.heap.size (q + 1 + 1 + 1 + 1 + 1) ∧ Within w.heap.size (w.heap.size + 1) w2 w7) := Lib.hid ⟨hr5, HR4.out.2.trans hw5⟩
    clear hr5 hw5
    by_cases e0 : x5 = 0
    · have f0 : (x5 == 0) = true := by simp [e0]
      clear e0
      go_wp2
      refine bodyPost_ret (results_tmp5 rfl _ _ _) rfl ?_
      exact HFN.out _ _ _ _ _ ⟨by omega, by omega⟩ ⟨by omega, by omega⟩ ⟨by omega, by omega⟩ ⟨by omega, by omega⟩ HR5.out.1 HR5.out.2
    · have f0 : (x5 == 0) = false := by simp [e0]
      by_cases e1 : x5 = 1
      · have f1 : (x5 == 1) = true := by simp [e1]
        clear e0 e1
        go_wp2
        refine bodyPost_ret (results_tmp5 rfl _ _ _) rfl ?_
        exact HFN.out _ _ _ _ _ ⟨by omega, by omega⟩ ⟨by omega, by omega⟩ ⟨by omega, by omega⟩ ⟨by omega, by omega⟩ HR5.out.1 HR5.out.2
      · have f1 : (x5 == 1) = false := by simp [e1]
        clear e0 e1
        go_wp2
        refine bodyPost_ret (results_tmp5 rfl _ _ _) rfl ?_
        exact HFN.out _ _ _ _ _ ⟨by omega, by omega⟩ ⟨by omega, by omega⟩ ⟨by omega, by omega⟩ ⟨by omega, by omega⟩ HR5.out.1 HR5.out.2
end Go.Proofs.Ytkeeonjbkfgeeaa
