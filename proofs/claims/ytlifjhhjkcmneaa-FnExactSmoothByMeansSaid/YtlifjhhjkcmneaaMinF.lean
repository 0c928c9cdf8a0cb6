/- The contracts of slices.MinFunc and slices.MaxFunc over fractions, with compareFracs. -/
import Derived.Test.YtlifjhhjkcmneaaBlk
import Derived.Deep.RegionHeld3
namespace Go.Proofs.Ytlifjhhjkcmneaa
open Go.RowKit

/-- Is the fraction a less than b? -/
def ltF (a b : Int × Int) : Prop := a.1 * b.2 < b.1 * a.2
instance (a b : Int × Int) : Decidable (ltF a b) := by unfold ltF; infer_instance
/-- The first least of the first k + 1. -/
def minF (q : List (Int × Int)) : Nat → Int × Int
  | 0 => q.getD 0 (0, 0)
  | k + 1 => if ltF (q.getD (k + 1) (0, 0)) (minF q k) then q.getD (k + 1) (0, 0) else minF q k
def maxF (q : List (Int × Int)) : Nat → Int × Int
  | 0 => q.getD 0 (0, 0)
  | k + 1 => if ltF (maxF q k) (q.getD (k + 1) (0, 0)) then q.getD (k + 1) (0, 0) else maxF q k
def okF (e : Int × Int) : Prop := (-1000000 ≤ e.1 ∧ e.1 ≤ 1000000) ∧ -1000000 ≤ e.2 ∧ e.2 ≤ 1000000
theorem minF_ok {q : List (Int × Int)} (h : ∀ i, i < q.length → okF (q.getD i (0, 0))) : ∀ k, k < q.length → okF (minF q k)
  | 0, hk => h 0 hk
  | k + 1, hk => by rw [minF]; split
                    · exact h _ hk
                    · exact minF_ok h k (by omega)
theorem maxF_ok {q : List (Int × Int)} (h : ∀ i, i < q.length → okF (q.getD i (0, 0))) : ∀ k, k < q.length → okF (maxF q k)
  | 0, hk => h 0 hk
  | k + 1, hk => by rw [maxF]; split
                    · exact h _ hk
                    · exact maxF_ok h k (by omega)
theorem cmpF_lt (x y : Int) : cmpF x y < 0 ↔ x < y := by unfold cmpF; split <;> (try split) <;> omega
theorem cmpF_gt (x y : Int) : 0 < cmpF x y ↔ y < x := by unfold cmpF; split <;> (try split) <;> omega
set_option maxRecDepth 100000 in
set_option maxHeartbeats 4000000 in
theorem slicesMinFunc_any (v : Value) (q : List (Int × Int)) (w : World) (hv : FrV w v q) (h1 : 1 ≤ q.length) (hl : q.length ≤ 1000) (hok : ∀ i, i < q.length → okF (q.getD i (0, 0))) :
    Calls Try.prog 92 #[v, .func (.func 65) #[] #[]] w fun e w' => e = .returned (frV (minF q (q.length - 1))) ∧ Grew w w' := by
  obtain ⟨a, b, o, c, rfl, ⟨hlc, hcb⟩, ha, HC⟩ := hv.shape
  obtain rfl := ha h1
  have HOK := Lib.hid hok
  have HMO := Lib.hid (minF_ok hok)
  have hc0 := HC.out 0 h1
  rw [Nat.zero_mul, Nat.add_zero] at hc0
  obtain ⟨e0, ee0⟩ : ∃ e0, q.getD 0 (0, 0) = e0 := ⟨_, rfl⟩
  rw [ee0] at hc0
  obtain ⟨hc01, hc02⟩ := hc0
  have HE0 := Lib.hid ee0
  have hb0 := World.block_lt_of_cell? _ _ hc01
  simp only [] at hb0
  have hnl : ¬ (q.length : Int) < 1 := by omega
  have hpos : (0 : Int) < q.length := by omega
  clear hv ha hok ee0
  go_enter Try.func92, Try.ntmps92
  go_wp2
  have H0 : Hid (((w.alloc (.cells #[.int .i64 0, .int .i64 0] 29)).alloc (.cells #[.int .i64 e0.1, .int .i64 e0.2] 29)).heap[w.heap.size + 1]? = some (.cells #[.int .i64 (minF q 0).1, .int .i64 (minF q 0).2] 29 (0, 0)) ∧
      ((w.alloc (.cells #[.int .i64 0, .int .i64 0] 29)).alloc (.cells #[.int .i64 e0.1, .int .i64 e0.2] 29)).heap[w.heap.size]? = some (.cells #[.int .i64 0, .int .i64 0] 29 (0, 0)) ∧ Grew w ((w.alloc (.cells #[.int .i64 0, .int .i64 0] 29)).alloc (.cells #[.int .i64 e0.1, .int .i64 e0.2] 29))) := by
    refine ⟨?_, ?_, ((Grew.refl _).alloc _).alloc _⟩
    · have := heap_alloc_new (w.alloc (.cells #[.int .i64 0, .int .i64 0] 29)) (.cells #[.int .i64 e0.1, .int .i64 e0.2] 29)
      simp only [minF, HE0.out]
      simpa using this
    · rw [((Grew.refl (w.alloc (.cells #[.int .i64 0, .int .i64 0] 29))).alloc _).block (by simp)]
      exact heap_alloc_new w _
  go_loopw [6] (fun i wr => ∃ k : Nat, 1 ≤ k ∧ k ≤ q.length ∧ i = .int .i64 k ∧ Hid (wr.heap[w.heap.size + 1]? = some (.cells #[.int .i64 (minF q (k - 1)).1, .int .i64 (minF q (k - 1)).2] 29 (0, 0)) ∧ wr.heap[w.heap.size]? = some (.cells #[.int .i64 0, .int .i64 0] 29 (0, 0)) ∧ Grew w wr)) (fun i _ => q.length - (intOf i).toNat)
  case atStart => exact ⟨1, Nat.le_refl _, h1, rfl, H0.out⟩
  case round =>
    obtain ⟨k, hk1, hk, rfl, HI⟩ := hrel
    clear H0
    by_cases hlt : k < q.length
    · have hx1 := HI.out.2.2.cell (HC.out k hlt).1
      have hx2 := HI.out.2.2.cell (HC.out k hlt).2
      have hxo := HOK.out k hlt
      have hmo := HMO.out (k - 1) (by omega)
      have hst : minF q k = if ltF (q.getD k (0, 0)) (minF q (k - 1)) then q.getD k (0, 0) else minF q (k - 1) := by
        obtain ⟨k1, rfl⟩ : ∃ k1, k = k1 + 1 := ⟨k - 1, by omega⟩
        rfl
      have hB := HI.out.1
      obtain ⟨x, ex⟩ : ∃ x, q.getD k (0, 0) = x := ⟨_, rfl⟩
      obtain ⟨m, em⟩ : ∃ m, minF q (k - 1) = m := ⟨_, rfl⟩
      rw [ex] at hx1 hx2 hxo hst
      rw [em] at hmo hst hB
      obtain ⟨x1, x2⟩ := x
      obtain ⟨m1, m2⟩ := m
      obtain ⟨hxa, hxb⟩ := hxo
      obtain ⟨hma, hmb⟩ := hmo
      have HCF := Lib.hid (compareFracs_any x1 x2 m1 m2 wr.drew hxa hxb hma hmb)
      obtain ⟨R, eR⟩ : ∃ R, cmpF (x1 * m2) (m1 * x2) = R := ⟨_, rfl⟩
      have hRl : R < 0 ↔ ltF (x1, x2) (m1, m2) := by rw [← eR]; exact cmpF_lt _ _
      rw [eR] at HCF
      have hm1 : wr.cell? ⟨w.heap.size + 1, 0, none⟩ = some (.int .i64 m1) := by simp [World.cell?, hB]
      have hm2 : wr.cell? ⟨w.heap.size + 1, 1, none⟩ = some (.int .i64 m2) := by simp [World.cell?, hB]
      have HS0 : Hid (wr.cell? ⟨b, o + k * 2, none⟩ = some (.int .i64 x1) ∧ wr.cell? ⟨b, o + k * 2 + 1, none⟩ = some (.int .i64 x2) ∧ wr.cell? ⟨w.heap.size + 1, 0, none⟩ = some (.int .i64 m1) ∧ wr.cell? ⟨w.heap.size + 1, 1, none⟩ = some (.int .i64 m2)) := ⟨hx1, hx2, hm1, hm2⟩
      have HST := Lib.hid (And.intro hst hRl)
      have HBB := Lib.hid hB
      have r1 : (k : Int) < q.length := by omega
      have r2 : (0 : Int) ≤ k := by omega
      clear ex em eR hst hRl hB hx1 hx2 hm1 hm2
      unfold frV at HCF
      go_wp2_with (fail)
      go_region_held3 (fun W => W.cell? ⟨b, o + k * 2, none⟩ = some (.int .i64 x1) ∧ W.cell? ⟨b, o + k * 2 + 1, none⟩ = some (.int .i64 x2) ∧ W.cell? ⟨w.heap.size + 1, 0, none⟩ = some (.int .i64 m1) ∧ W.cell? ⟨w.heap.size + 1, 1, none⟩ = some (.int .i64 m2))
        (first
          | exact HS0.out
          | assumption
          | exact h5c)
        (first
          | (go_at_call 65; refine HCF.out.mono ?_; rintro e5 w5 ⟨rfl, hg5⟩; have hg5 := ((Grew.refl wr).drew).trans hg5; have h5c := And.intro (hg5.cell HS0.out.1) (And.intro (hg5.cell HS0.out.2.1) (And.intro (hg5.cell HS0.out.2.2.1) (hg5.cell HS0.out.2.2.2)))))
      obtain ⟨hc1, hc2, hc3, hc4⟩ := h5c
      have hB5 : w5.heap[w.heap.size + 1]? = some (.cells #[.int .i64 m1, .int .i64 m2] 29 (0, 0)) := by rw [hg5.block (World.block_lt_of_cell? _ _ HS0.out.2.2.1)]; exact HBB.out
      have hR5 : w5.heap[w.heap.size]? = some (.cells #[.int .i64 0, .int .i64 0] 29 (0, 0)) := by
        rw [hg5.block ?_]
        · exact HI.out.2.1
        · have := World.block_lt_of_cell? _ _ HS0.out.2.2.1
          simp only [] at this
          omega
      have H5 := Lib.hid (And.intro hB5 (And.intro hR5 (HI.out.2.2.trans hg5)))
      have hf0 : w5.frozen? ⟨w.heap.size + 1, 0, none⟩ = false := by simp [World.frozen?, hB5]
      have hf1 : w5.frozen? ⟨w.heap.size + 1, 1, none⟩ = false := by simp [World.frozen?, hB5]
      clear hB5 hR5 hg5
      by_cases hR : R < 0
      · have HN : Hid (((w5.setCell ⟨w.heap.size + 1, 0, none⟩ (.int .i64 x1)).setCell ⟨w.heap.size + 1, 1, none⟩ (.int .i64 x2)).heap[w.heap.size + 1]? = some (.cells #[.int .i64 (minF q (k + 1 - 1)).1, .int .i64 (minF q (k + 1 - 1)).2] 29 (0, 0)) ∧
            ((w5.setCell ⟨w.heap.size + 1, 0, none⟩ (.int .i64 x1)).setCell ⟨w.heap.size + 1, 1, none⟩ (.int .i64 x2)).heap[w.heap.size]? = some (.cells #[.int .i64 0, .int .i64 0] 29 (0, 0)) ∧ Grew w ((w5.setCell ⟨w.heap.size + 1, 0, none⟩ (.int .i64 x1)).setCell ⟨w.heap.size + 1, 1, none⟩ (.int .i64 x2))) := by
          refine ⟨?_, ?_, two_grewF (by omega) H5.out.2.2⟩
          · rw [show k + 1 - 1 = k by omega, HST.out.1, if_pos (HST.out.2.1 hR)]
            exact two_heapF H5.out.1
          · have hw : Within (w.heap.size + 1) (w.heap.size + 2) w5 ((w5.setCell ⟨w.heap.size + 1, 0, none⟩ (.int .i64 x1)).setCell ⟨w.heap.size + 1, 1, none⟩ (.int .i64 x2)) :=
              ((Within.refl _ _ _).setCell (p := ⟨w.heap.size + 1, 0, none⟩) (Nat.le_refl _) (Nat.lt_succ_self _) _).setCell (p := ⟨w.heap.size + 1, 1, none⟩) (Nat.le_refl _) (Nat.lt_succ_self _) _
            rw [hw.block w.heap.size (Array.getElem?_eq_some_iff.1 H5.out.2.1).1 (.inl (Nat.lt_succ_self _))]
            exact H5.out.2.1
        clear HST
        go_wp2
        go_roundw
        case rel => exact ⟨k + 1, by omega, by omega, by go_num, HN.out⟩
        case measure => simp [intOf]; omega
      · have HN : Hid (w5.heap[w.heap.size + 1]? = some (.cells #[.int .i64 (minF q (k + 1 - 1)).1, .int .i64 (minF q (k + 1 - 1)).2] 29 (0, 0)) ∧ w5.heap[w.heap.size]? = some (.cells #[.int .i64 0, .int .i64 0] 29 (0, 0)) ∧ Grew w w5) := by
          refine ⟨?_, H5.out.2.1, H5.out.2.2⟩
          rw [show k + 1 - 1 = k by omega, HST.out.1, if_neg (fun c => hR (HST.out.2.2 c))]
          exact H5.out.1
        clear HST
        go_wp2
        go_roundw
        case rel => exact ⟨k + 1, by omega, by omega, by go_num, HN.out⟩
        case measure => simp [intOf]; omega
    · obtain rfl : k = q.length := by omega
      have hB := HI.out.1
      have hB3 := HI.out.2.1
      obtain ⟨m, em⟩ : ∃ m, minF q (q.length - 1) = m := ⟨_, rfl⟩
      rw [em] at hB
      obtain ⟨m1, m2⟩ := m
      have HM := Lib.hid em
      have hm1 : wr.cell? ⟨w.heap.size + 1, 0, none⟩ = some (.int .i64 m1) := by simp [World.cell?, hB]
      have hm2 : wr.cell? ⟨w.heap.size + 1, 1, none⟩ = some (.int .i64 m2) := by simp [World.cell?, hB]
      have hz0 : wr.cell? ⟨w.heap.size, 0, none⟩ = some (.int .i64 0) := by simp [World.cell?, hB3]
      have hz1 : wr.cell? ⟨w.heap.size, 1, none⟩ = some (.int .i64 0) := by simp [World.cell?, hB3]
      have hf0 : wr.frozen? ⟨w.heap.size, 0, none⟩ = false := by simp [World.frozen?, hB3]
      have hf1 : wr.frozen? ⟨w.heap.size, 1, none⟩ = false := by simp [World.frozen?, hB3]
      have HB3 := Lib.hid (And.intro hB3 HI.out.2.2)
      clear hB hB3 em
      go_wp2
      exact bodyPost_ret (v := .agg #[.int .i64 m1, .int .i64 m2]) (results_cell_row (P := Try.prog) rfl _ _ w.heap.size 29 _ (0, 0) _ rfl (two_heapF HB3.out.1) Try.underlying29 rfl (by kernel_rfl)) rfl ⟨by rw [HM.out]; rfl, two_grewF (Nat.le_refl _) HB3.out.2⟩
set_option maxRecDepth 100000 in
set_option maxHeartbeats 4000000 in
theorem slicesMaxFunc_any (v : Value) (q : List (Int × Int)) (w : World) (hv : FrV w v q) (h1 : 1 ≤ q.length) (hl : q.length ≤ 1000) (hok : ∀ i, i < q.length → okF (q.getD i (0, 0))) :
    Calls Try.prog 64 #[v, .func (.func 65) #[] #[]] w fun e w' => e = .returned (frV (maxF q (q.length - 1))) ∧ Grew w w' := by
  obtain ⟨a, b, o, c, rfl, ⟨hlc, hcb⟩, ha, HC⟩ := hv.shape
  obtain rfl := ha h1
  have HOK := Lib.hid hok
  have HMO := Lib.hid (maxF_ok hok)
  have hc0 := HC.out 0 h1
  rw [Nat.zero_mul, Nat.add_zero] at hc0
  obtain ⟨e0, ee0⟩ : ∃ e0, q.getD 0 (0, 0) = e0 := ⟨_, rfl⟩
  rw [ee0] at hc0
  obtain ⟨hc01, hc02⟩ := hc0
  have HE0 := Lib.hid ee0
  have hb0 := World.block_lt_of_cell? _ _ hc01
  simp only [] at hb0
  have hnl : ¬ (q.length : Int) < 1 := by omega
  have hpos : (0 : Int) < q.length := by omega
  clear hv ha hok ee0
  go_enter Try.func64, Try.ntmps64
  go_wp2
  have H0 : Hid (((w.alloc (.cells #[.int .i64 0, .int .i64 0] 29)).alloc (.cells #[.int .i64 e0.1, .int .i64 e0.2] 29)).heap[w.heap.size + 1]? = some (.cells #[.int .i64 (maxF q 0).1, .int .i64 (maxF q 0).2] 29 (0, 0)) ∧
      ((w.alloc (.cells #[.int .i64 0, .int .i64 0] 29)).alloc (.cells #[.int .i64 e0.1, .int .i64 e0.2] 29)).heap[w.heap.size]? = some (.cells #[.int .i64 0, .int .i64 0] 29 (0, 0)) ∧ Grew w ((w.alloc (.cells #[.int .i64 0, .int .i64 0] 29)).alloc (.cells #[.int .i64 e0.1, .int .i64 e0.2] 29))) := by
    refine ⟨?_, ?_, ((Grew.refl _).alloc _).alloc _⟩
    · have := heap_alloc_new (w.alloc (.cells #[.int .i64 0, .int .i64 0] 29)) (.cells #[.int .i64 e0.1, .int .i64 e0.2] 29)
      simp only [maxF, HE0.out]
      simpa using this
    · rw [((Grew.refl (w.alloc (.cells #[.int .i64 0, .int .i64 0] 29))).alloc _).block (by simp)]
      exact heap_alloc_new w _
  go_loopw [6] (fun i wr => ∃ k : Nat, 1 ≤ k ∧ k ≤ q.length ∧ i = .int .i64 k ∧ Hid (wr.heap[w.heap.size + 1]? = some (.cells #[.int .i64 (maxF q (k - 1)).1, .int .i64 (maxF q (k - 1)).2] 29 (0, 0)) ∧ wr.heap[w.heap.size]? = some (.cells #[.int .i64 0, .int .i64 0] 29 (0, 0)) ∧ Grew w wr)) (fun i _ => q.length - (intOf i).toNat)
  case atStart => exact ⟨1, Nat.le_refl _, h1, rfl, H0.out⟩
  case round =>
    obtain ⟨k, hk1, hk, rfl, HI⟩ := hrel
    clear H0
    by_cases hlt : k < q.length
    · have hx1 := HI.out.2.2.cell (HC.out k hlt).1
      have hx2 := HI.out.2.2.cell (HC.out k hlt).2
      have hxo := HOK.out k hlt
      have hmo := HMO.out (k - 1) (by omega)
      have hst : maxF q k = if ltF (maxF q (k - 1)) (q.getD k (0, 0)) then q.getD k (0, 0) else maxF q (k - 1) := by
        obtain ⟨k1, rfl⟩ : ∃ k1, k = k1 + 1 := ⟨k - 1, by omega⟩
        rfl
      have hB := HI.out.1
      obtain ⟨x, ex⟩ : ∃ x, q.getD k (0, 0) = x := ⟨_, rfl⟩
      obtain ⟨m, em⟩ : ∃ m, maxF q (k - 1) = m := ⟨_, rfl⟩
      rw [ex] at hx1 hx2 hxo hst
      rw [em] at hmo hst hB
      obtain ⟨x1, x2⟩ := x
      obtain ⟨m1, m2⟩ := m
      obtain ⟨hxa, hxb⟩ := hxo
      obtain ⟨hma, hmb⟩ := hmo
      have HCF := Lib.hid (compareFracs_any x1 x2 m1 m2 wr.drew hxa hxb hma hmb)
      obtain ⟨R, eR⟩ : ∃ R, cmpF (x1 * m2) (m1 * x2) = R := ⟨_, rfl⟩
      have hRl : 0 < R ↔ ltF (m1, m2) (x1, x2) := by rw [← eR]; exact cmpF_gt _ _
      rw [eR] at HCF
      have hm1 : wr.cell? ⟨w.heap.size + 1, 0, none⟩ = some (.int .i64 m1) := by simp [World.cell?, hB]
      have hm2 : wr.cell? ⟨w.heap.size + 1, 1, none⟩ = some (.int .i64 m2) := by simp [World.cell?, hB]
      have HS0 : Hid (wr.cell? ⟨b, o + k * 2, none⟩ = some (.int .i64 x1) ∧ wr.cell? ⟨b, o + k * 2 + 1, none⟩ = some (.int .i64 x2) ∧ wr.cell? ⟨w.heap.size + 1, 0, none⟩ = some (.int .i64 m1) ∧ wr.cell? ⟨w.heap.size + 1, 1, none⟩ = some (.int .i64 m2)) := ⟨hx1, hx2, hm1, hm2⟩
      have HST := Lib.hid (And.intro hst hRl)
      have HBB := Lib.hid hB
      have r1 : (k : Int) < q.length := by omega
      have r2 : (0 : Int) ≤ k := by omega
      clear ex em eR hst hRl hB hx1 hx2 hm1 hm2
      unfold frV at HCF
      go_wp2_with (fail)
      go_region_held3 (fun W => W.cell? ⟨b, o + k * 2, none⟩ = some (.int .i64 x1) ∧ W.cell? ⟨b, o + k * 2 + 1, none⟩ = some (.int .i64 x2) ∧ W.cell? ⟨w.heap.size + 1, 0, none⟩ = some (.int .i64 m1) ∧ W.cell? ⟨w.heap.size + 1, 1, none⟩ = some (.int .i64 m2))
        (first
          | exact HS0.out
          | assumption
          | exact h5c)
        (first
          | (go_at_call 65; refine HCF.out.mono ?_; rintro e5 w5 ⟨rfl, hg5⟩; have hg5 := ((Grew.refl wr).drew).trans hg5; have h5c := And.intro (hg5.cell HS0.out.1) (And.intro (hg5.cell HS0.out.2.1) (And.intro (hg5.cell HS0.out.2.2.1) (hg5.cell HS0.out.2.2.2)))))
      obtain ⟨hc1, hc2, hc3, hc4⟩ := h5c
      have hB5 : w5.heap[w.heap.size + 1]? = some (.cells #[.int .i64 m1, .int .i64 m2] 29 (0, 0)) := by rw [hg5.block (World.block_lt_of_cell? _ _ HS0.out.2.2.1)]; exact HBB.out
      have hR5 : w5.heap[w.heap.size]? = some (.cells #[.int .i64 0, .int .i64 0] 29 (0, 0)) := by
        rw [hg5.block ?_]
        · exact HI.out.2.1
        · have := World.block_lt_of_cell? _ _ HS0.out.2.2.1
          simp only [] at this
          omega
      have H5 := Lib.hid (And.intro hB5 (And.intro hR5 (HI.out.2.2.trans hg5)))
      have hf0 : w5.frozen? ⟨w.heap.size + 1, 0, none⟩ = false := by simp [World.frozen?, hB5]
      have hf1 : w5.frozen? ⟨w.heap.size + 1, 1, none⟩ = false := by simp [World.frozen?, hB5]
      clear hB5 hR5 hg5
      by_cases hR : 0 < R
      · have HN : Hid (((w5.setCell ⟨w.heap.size + 1, 0, none⟩ (.int .i64 x1)).setCell ⟨w.heap.size + 1, 1, none⟩ (.int .i64 x2)).heap[w.heap.size + 1]? = some (.cells #[.int .i64 (maxF q (k + 1 - 1)).1, .int .i64 (maxF q (k + 1 - 1)).2] 29 (0, 0)) ∧
            ((w5.setCell ⟨w.heap.size + 1, 0, none⟩ (.int .i64 x1)).setCell ⟨w.heap.size + 1, 1, none⟩ (.int .i64 x2)).heap[w.heap.size]? = some (.cells #[.int .i64 0, .int .i64 0] 29 (0, 0)) ∧ Grew w ((w5.setCell ⟨w.heap.size + 1, 0, none⟩ (.int .i64 x1)).setCell ⟨w.heap.size + 1, 1, none⟩ (.int .i64 x2))) := by
          refine ⟨?_, ?_, two_grewF (by omega) H5.out.2.2⟩
          · rw [show k + 1 - 1 = k by omega, HST.out.1, if_pos (HST.out.2.1 hR)]
            exact two_heapF H5.out.1
          · have hw : Within (w.heap.size + 1) (w.heap.size + 2) w5 ((w5.setCell ⟨w.heap.size + 1, 0, none⟩ (.int .i64 x1)).setCell ⟨w.heap.size + 1, 1, none⟩ (.int .i64 x2)) :=
              ((Within.refl _ _ _).setCell (p := ⟨w.heap.size + 1, 0, none⟩) (Nat.le_refl _) (Nat.lt_succ_self _) _).setCell (p := ⟨w.heap.size + 1, 1, none⟩) (Nat.le_refl _) (Nat.lt_succ_self _) _
            rw [hw.block w.heap.size (Array.getElem?_eq_some_iff.1 H5.out.2.1).1 (.inl (Nat.lt_succ_self _))]
            exact H5.out.2.1
        clear HST
        go_wp2
        go_roundw
        case rel => exact ⟨k + 1, by omega, by omega, by go_num, HN.out⟩
        case measure => simp [intOf]; omega
      · have HN : Hid (w5.heap[w.heap.size + 1]? = some (.cells #[.int .i64 (maxF q (k + 1 - 1)).1, .int .i64 (maxF q (k + 1 - 1)).2] 29 (0, 0)) ∧ w5.heap[w.heap.size]? = some (.cells #[.int .i64 0, .int .i64 0] 29 (0, 0)) ∧ Grew w w5) := by
          refine ⟨?_, H5.out.2.1, H5.out.2.2⟩
          rw [show k + 1 - 1 = k by omega, HST.out.1, if_neg (fun c => hR (HST.out.2.2 c))]
          exact H5.out.1
        clear HST
        go_wp2
        go_roundw
        case rel => exact ⟨k + 1, by omega, by omega, by go_num, HN.out⟩
        case measure => simp [intOf]; omega
    · obtain rfl : k = q.length := by omega
      have hB := HI.out.1
      have hB3 := HI.out.2.1
      obtain ⟨m, em⟩ : ∃ m, maxF q (q.length - 1) = m := ⟨_, rfl⟩
      rw [em] at hB
      obtain ⟨m1, m2⟩ := m
      have HM := Lib.hid em
      have hm1 : wr.cell? ⟨w.heap.size + 1, 0, none⟩ = some (.int .i64 m1) := by simp [World.cell?, hB]
      have hm2 : wr.cell? ⟨w.heap.size + 1, 1, none⟩ = some (.int .i64 m2) := by simp [World.cell?, hB]
      have hz0 : wr.cell? ⟨w.heap.size, 0, none⟩ = some (.int .i64 0) := by simp [World.cell?, hB3]
      have hz1 : wr.cell? ⟨w.heap.size, 1, none⟩ = some (.int .i64 0) := by simp [World.cell?, hB3]
      have hf0 : wr.frozen? ⟨w.heap.size, 0, none⟩ = false := by simp [World.frozen?, hB3]
      have hf1 : wr.frozen? ⟨w.heap.size, 1, none⟩ = false := by simp [World.frozen?, hB3]
      have HB3 := Lib.hid (And.intro hB3 HI.out.2.2)
      clear hB hB3 em
      go_wp2
      exact bodyPost_ret (v := .agg #[.int .i64 m1, .int .i64 m2]) (results_cell_row (P := Try.prog) rfl _ _ w.heap.size 29 _ (0, 0) _ rfl (two_heapF HB3.out.1) Try.underlying29 rfl (by kernel_rfl)) rfl ⟨by rw [HM.out]; rfl, two_grewF (Nat.le_refl _) HB3.out.2⟩
end Go.Proofs.Ytlifjhhjkcmneaa
