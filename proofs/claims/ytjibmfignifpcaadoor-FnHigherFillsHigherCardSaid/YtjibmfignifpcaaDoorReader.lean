/- The contracts of spec.newReader, pick and one. -/
import Derived.Test.YtjibmfignifpcaaDoorRows
import Derived.Test.YtjibmfignifpcaaDoorBase
namespace Go.Proofs.YtjibmfignifpcaaDoor
open Go.RowKit

/-- Block rb is a reader of bytes that lay in the world w0; p numbers have been picked. -/
structure Rdr (w0 w : World) (rb p : Nat) : Prop where
  base : w0.heap.size ≤ rb
  grew : Grew w0 w
  blk : ∃ v bs, w.heap[rb]? = some (.cells #[v, .int .i64 p] 69 (0, 0)) ∧ NumsV .u8 w0 v bs ∧ (∀ i, i < bs.length → 0 ≤ bs.getD i 0 ∧ bs.getD i 0 ≤ 255) ∧ bs.length ≤ 2000

theorem cell_of_block {w : World} {b : Nat} {cs : Array Value} {t : TypeId} {fr : Nat × Nat} (h : w.heap[b]? = some (.cells cs t fr)) (o : Nat) : w.cell? ⟨b, o, none⟩ = cs[o]? := by
  simp [World.cell?, h]

theorem newReader_any (v : Value) (bs : List Int) (w : World) (hv : NumsV .u8 w v bs) (hb : ∀ i, i < bs.length → 0 ≤ bs.getD i 0 ∧ bs.getD i 0 ≤ 255) :
    Calls Tryd.prog 49 #[v] w fun e w' => e = .returned (.pointer (some ⟨w.heap.size, 0, none⟩)) ∧ Rdr w w' w.heap.size 0 := by
  obtain ⟨a, b, o, c, rfl, ⟨hlc, hcb⟩, ha, HC⟩ := hv.shape
  have HB := Lib.hid hb
  clear hb
  have HVV := Lib.hid hv
  clear hv ha
  by_cases h2 : 2000 < bs.length
  · go_enter Tryd.func49, Tryd.ntmps49
    go_wp2
    go_ret
    refine ⟨rfl, Nat.le_refl _, (Grew.refl w).alloc _, .slice a 2000 c, bs.take 2000, heap_alloc_new w _, ?_, ?_, by simp; omega⟩
    · obtain ⟨a', b', o', c', e, _, hc⟩ := HVV.out
      cases e
      have ht : (bs.take 2000).length = 2000 := by simp; omega
      refine ⟨a, b', o', c, by rw [ht], ⟨by rw [ht]; omega, hcb⟩, fun i hi => ?_⟩
      rw [ht] at hi
      have := hc i (by omega)
      rw [this.2]
      refine ⟨this.1, ?_⟩
      simp [hi, List.getD]
    · intro i hi
      have hi' : i < 2000 := by simp at hi; omega
      have := HB.out i (by simp at hi; omega)
      simpa [List.getD, hi'] using this
  · go_enter Tryd.func49, Tryd.ntmps49
    go_wp2
    go_ret
    refine ⟨rfl, Nat.le_refl _, (Grew.refl w).alloc _, _, bs, ?_, HVV.out, HB.out, by omega⟩
    exact heap_alloc_new w _

theorem xor_i64_some (x y : Int) (hx : 0 ≤ x ∧ x < 4294967296) (hy : 0 ≤ y ∧ y < 4294967296) : ∃ z, bits .xor .i64 x y = z ∧ 0 ≤ z ∧ z < 4294967296 := by
  obtain ⟨a, rfl⟩ := Int.eq_ofNat_of_zero_le hx.1
  obtain ⟨b, rfl⟩ := Int.eq_ofNat_of_zero_le hy.1
  have ha : a < 2 ^ 32 := by omega
  have hb : b < 2 ^ 32 := by omega
  have hab : a ^^^ b < 2 ^ 32 := Nat.xor_lt_two_pow ha hb
  refine ⟨((a ^^^ b : Nat) : Int), ?_, by omega, by omega⟩
  have h1 : (BitVec.ofInt 64 (a : Int)).toNat = a := by rw [BitVec.ofInt_natCast, BitVec.toNat_ofNat]; exact Nat.mod_eq_of_lt (by omega)
  have h2 : (BitVec.ofInt 64 (b : Int)).toNat = b := by rw [BitVec.ofInt_natCast, BitVec.toNat_ofNat]; exact Nat.mod_eq_of_lt (by omega)
  show IntKind.i64.wrap ((BitVec.ofInt 64 (a : Int) ^^^ BitVec.ofInt 64 (b : Int)).toNat : Int) = _
  rw [BitVec.toNat_xor, h1, h2, IntKind.wrap_i64]
  omega

set_option maxHeartbeats 1000000 in
theorem pick_any (w0 w : World) (rb p : Nat) (n : Int) (hr : Rdr w0 w rb p) (hp : p ≤ 100000) (hn : n ≤ 1000000) :
    Calls Tryd.prog 87 #[.pointer (some ⟨rb, 0, none⟩), .int .i64 n] w fun e w' => ∃ m : Int, e = .returned (.int .i64 m) ∧ 0 ≤ m ∧ (m < n ∨ n < 1 ∧ m = 0) ∧ Rdr w0 w' rb (p + 1) ∧ Within rb (rb + 1) w w' := by
  obtain ⟨hbase, hg, v, bs, hblk, hv, hb, hbl⟩ := hr
  have hc0 : w.cell? ⟨rb, 0, none⟩ = some v := cell_of_block hblk 0
  have hc1 : w.cell? ⟨rb, 1, none⟩ = some (.int .i64 p) := cell_of_block hblk 1
  have hf1 : w.frozen? ⟨rb, 1, none⟩ = false := by simp [World.frozen?, hblk]
  obtain ⟨a, b, o, c, rfl, ⟨hlc, hcb⟩, ha, HC⟩ := hv.shape
  have hg0 : Grew w0 (w.setCell ⟨rb, 1, none⟩ (.int .i64 ((p : Int) + 1))) := Below.setCell hg hbase _
  have hblk' : (w.setCell ⟨rb, 1, none⟩ (.int .i64 ((p : Int) + 1))).heap[rb]? = some (.cells #[.slice a bs.length c, .int .i64 ((p : Int) + 1)] 69 (0, 0)) := by
    rw [heap_setCell_same w rb 1 _ _ _ hblk]; rfl
  have HR : Hid (Rdr w0 (w.setCell ⟨rb, 1, none⟩ (.int .i64 ((p : Int) + 1))) rb (p + 1) ∧ Within rb (rb + 1) w (w.setCell ⟨rb, 1, none⟩ (.int .i64 ((p : Int) + 1)))) :=
    ⟨⟨hbase, hg0, _, bs, hblk', hv, hb, hbl⟩, (Within.refl _ _ _).setCell (p := ⟨rb, 1, none⟩) (Nat.le_refl _) (Nat.lt_succ_self _) _⟩
  have HG := Lib.hid hg0
  have HB := Lib.hid hb
  clear hblk hblk' hv hb hg hg0
  by_cases h1 : n < 1
  · clear ha
    go_enter Tryd.func87, Tryd.ntmps87
    go_wp2
    go_ret
    exact ⟨0, rfl, by omega, .inr ⟨h1, rfl⟩, HR.out⟩
  · by_cases h0 : bs.length = 0
    · have h0' : ((bs.length : Int) == 0) = true := by simp [h0]
      clear h0 ha
      go_enter Tryd.func87, Tryd.ntmps87
      go_wp2
      go_ret
      exact ⟨0, rfl, by omega, .inl (by omega), HR.out⟩
    · have h0' : ((bs.length : Int) == 0) = false := beq_eq_false_iff_ne.2 (by omega)
      obtain rfl := ha (by omega)
      clear ha
      by_cases hlt : p < bs.length
      · have hcp := HG.out.cell (HC.out p hlt)
        have hbp := HB.out p hlt
        obtain ⟨x, ex⟩ : ∃ x, bs.getD p 0 = x := ⟨_, rfl⟩
        rw [ex] at hcp hbp
        clear ex
        go_enter Tryd.func87, Tryd.ntmps87
        go_wp2
        go_ret
        exact ⟨x % n, rfl, Int.emod_nonneg _ (by omega), .inl (Int.emod_lt_of_pos _ (by omega)), HR.out⟩
      · go_enter Tryd.func87, Tryd.ntmps87
        go_wp2
        obtain ⟨i1, e1⟩ : ∃ i1, p % bs.length = i1 := ⟨_, rfl⟩
        obtain ⟨i2, e2⟩ : ∃ i2, (p * 7 + 3) % bs.length = i2 := ⟨_, rfl⟩
        have hi1 : i1 < bs.length := by rw [← e1]; exact Nat.mod_lt _ (by omega)
        have hi2 : i2 < bs.length := by rw [← e2]; exact Nat.mod_lt _ (by omega)
        have t1 : (p : Int).tmod bs.length = (i1 : Int) := by rw [← e1]; exact (Int.ofNat_tmod _ _).symm
        have t2 : ((p : Int) * 7 + 3).tmod bs.length = (i2 : Int) := by
          rw [← e2]
          exact (Int.ofNat_tmod (p * 7 + 3) _).symm
        obtain ⟨x1, ex1⟩ : ∃ x, bs.getD i1 0 = x := ⟨_, rfl⟩
        obtain ⟨x2, ex2⟩ : ∃ x, bs.getD i2 0 = x := ⟨_, rfl⟩
        have hcp := HG.out.cell (HC.out i1 hi1)
        have hcq := HG.out.cell (HC.out i2 hi2)
        have hb1 := HB.out i1 hi1
        have hb2 := HB.out i2 hi2
        rw [ex1] at hcp hb1
        rw [ex2] at hcq hb2
        have r1 : (i1 : Int) < bs.length := by omega
        have r2 : (i2 : Int) < bs.length := by omega
        have r3 : (0 : Int) ≤ i1 := by omega
        have r4 : (0 : Int) ≤ i2 := by omega
        obtain ⟨q, eq⟩ : ∃ q, (p : Int) / bs.length = q := ⟨_, rfl⟩
        have hq0 : 0 ≤ q := by rw [← eq]; exact Int.ediv_nonneg (by omega) (by omega)
        have hq1 : q ≤ 100000 := by rw [← eq]; exact Int.le_trans (Int.ediv_le_self _ (by omega)) (by omega)
        obtain ⟨X, eX⟩ : ∃ X, x1 * 131 + x2 * 1117 + ↑p * 29 + q * 53 = X := ⟨_, rfl⟩
        have hX0 : 0 ≤ X := by omega
        have hX1 : X < 4294967296 := by omega
        obtain ⟨Y, eY, hY0, hY1⟩ := xor_i64_some X (X / 64) ⟨hX0, hX1⟩ ⟨by omega, by omega⟩
        have HX := Lib.hid eX
        clear e1 e2 ex1 ex2 eX
        go_quiet (fail)
        rw [HX.out]
        clear t1 t2 r1 r2 r3 r4 hcp hcq eq hq0 hq1 hb1 hb2 h0' hc0 hc1 hf1
        go_wp2
        go_ret
        exact ⟨Y % n, rfl, Int.emod_nonneg _ (by omega), .inl (Int.emod_lt_of_pos _ (by omega)), ⟨HR.out.1.base, HR.out.1.grew.drewN _, HR.out.1.blk⟩, HR.out.2.trans ((Grew.refl _).drewN _ |>.within _ _)⟩

theorem Rdr.within {w0 w w' : World} {rb p lo hi : Nat} (h : Rdr w0 w rb p) (hw : Within lo hi w w') (hd : rb < lo) : Rdr w0 w' rb p := by
  obtain ⟨v, bs, h1, h2, h3, h4⟩ := h.blk
  exact ⟨h.base, Below.trans h.grew ⟨hw.os, hw.tape, hw.output, hw.size, fun k hk => hw.block k (Nat.lt_of_lt_of_le hk h.grew.size) (.inl (by have := h.base; omega))⟩, v, bs,
    (hw.block rb (Array.getElem?_eq_some_iff.1 h1).1 (.inl hd)).trans h1, h2, h3, h4⟩
theorem Rdr.later {w0 w w' : World} {rb p : Nat} (h : Rdr w0 w rb p) (hw : Grew w w') : Rdr w0 w' rb p := by
  obtain ⟨v, bs, h1, h2, h3, h4⟩ := h.blk
  exact ⟨h.base, h.grew.trans hw, v, bs, (hw.block (Array.getElem?_eq_some_iff.1 h1).1).trans h1, h2, h3, h4⟩
theorem Rdr.lt {w0 w : World} {rb p : Nat} (h : Rdr w0 w rb p) : rb < w.heap.size := by
  obtain ⟨v, bs, h1, h2, h3, h4⟩ := h.blk
  exact (Array.getElem?_eq_some_iff.1 h1).1

set_option maxHeartbeats 1000000 in
theorem one_any (w0 w : World) (rb p hi : Nat) (v : Value) (xs : List Int) (hr : Rdr w0 w rb p) (hp : p ≤ 100000) (hx : IntsO 3 (rb + 1) hi w v xs) (h1 : 1 ≤ xs.length) (h2 : xs.length ≤ 1000) :
    Calls Tryd.prog 88 #[.pointer (some ⟨rb, 0, none⟩), v] w fun e w' => ∃ x : Int, x ∈ xs ∧ e = .returned (.int .i64 x) ∧ Rdr w0 w' rb (p + 1) ∧ Within rb (rb + 1) w w' := by
  rcases hx.shape with ⟨rfl, rfl⟩ | ⟨g, c, rfl, _, _, hlc, hcm⟩
  · simp at h1
  unfold maxLen at hcm
  have HP := Lib.hid (pick_any w0 w rb p xs.length hr hp (by omega))
  have HXX := Lib.hid hx
  clear hx hr
  go_enter Tryd.func88, Tryd.ntmps88
  go_wp2_with (fail)
  refine HP.out.mono ?_
  rintro e w' ⟨m, rfl, hm0, hm1, hr', hw⟩
  obtain ⟨m, rfl⟩ := Int.eq_ofNat_of_zero_le hm0
  have hm : m < xs.length := by omega
  obtain ⟨_, b, o, _, e, _, hc⟩ := (HXX.out.within hw (.inr (Nat.le_refl _))).toV
  cases e
  have hcm := (hc m hm).2
  have hao := (hc 0 (by omega)).1
  cases hao
  obtain ⟨x, ex⟩ : ∃ x, xs.getD m 0 = x := ⟨_, rfl⟩
  rw [ex] at hcm
  rw [Nat.zero_add] at hcm
  have HE : Hid (x ∈ xs) := by
    have : xs.getD m 0 = xs[m] := by simp [hm]
    rw [← ex, this]; exact List.getElem_mem hm
  have HQ := Lib.hid (And.intro hr' hw)
  clear ex hc hr' hw hm1
  go_wp2
  go_ret
  exact ⟨x, HE.out, rfl, HQ.out⟩
end Go.Proofs.YtjibmfignifpcaaDoor
