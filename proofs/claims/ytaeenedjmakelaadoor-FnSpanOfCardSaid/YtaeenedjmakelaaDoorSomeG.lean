/- The reader of codes and the grids that it draws. -/
import Derived.Test.YtaeenedjmakelaaDoorRows
import Derived.Test.YtaeenedjmakelaaDoorBase
/- The contracts of spec.newReader, pick and one. -/
namespace Go.Proofs.YtaeenedjmakelaaDoor
open Go.RowKit

/-- Block rb is a reader of bytes that lay in the world w0; p numbers have been picked. -/
structure Rdr (w0 w : World) (rb p : Nat) : Prop where
  base : w0.heap.size ≤ rb
  grew : Grew w0 w
  blk : ∃ v bs, w.heap[rb]? = some (.cells #[v, .int .i64 p] 80 (0, 0)) ∧ NumsV .u8 w0 v bs ∧ (∀ i, i < bs.length → 0 ≤ bs.getD i 0 ∧ bs.getD i 0 ≤ 255) ∧ bs.length ≤ 2000

theorem cell_of_block {w : World} {b : Nat} {cs : Array Value} {t : TypeId} {fr : Nat × Nat} (h : w.heap[b]? = some (.cells cs t fr)) (o : Nat) : w.cell? ⟨b, o, none⟩ = cs[o]? := by
  simp [World.cell?, h]

set_option maxRecDepth 100000 in
theorem newReader_any (v : Value) (bs : List Int) (w : World) (hv : NumsV .u8 w v bs) (hb : ∀ i, i < bs.length → 0 ≤ bs.getD i 0 ∧ bs.getD i 0 ≤ 255) :
    Calls Tryd.prog 54 #[v] w fun e w' => e = .returned (.pointer (some ⟨w.heap.size, 0, none⟩)) ∧ Rdr w w' w.heap.size 0 := by
  obtain ⟨a, b, o, c, rfl, ⟨hlc, hcb⟩, ha, HC⟩ := hv.shape
  have HB := Lib.hid hb
  clear hb
  have HVV := Lib.hid hv
  clear hv ha
  by_cases h2 : 2000 < bs.length
  · go_enter Tryd.func54, Tryd.ntmps54
    go_wp2
    go_ret
    refine ⟨rfl, Nat.le_refl _, (Grew.refl w).alloc _, .slice a 2000 c, bs.take 2000, heap_alloc_new w _, ?_, ?_, by simp; omega⟩
    · obtain ⟨a', b', o', c', e, _, hc⟩ := HVV.out
      cases e
      have ht : (bs.take 2000).length = 2000 := by simp; omega
      refine ⟨a, b', o', c, by rw [ht], ⟨by rw [ht]; omega, hcb⟩, fun i hi => ?_⟩
      rw [ht] at hi
      have := hc i (by omega)
      rw [this.2]
      refine ⟨this.1, ?_⟩
      simp [hi, List.getD]
    · intro i hi
      have hi' : i < 2000 := by simp at hi; omega
      have := HB.out i (by simp at hi; omega)
      simpa [List.getD, hi'] using this
  · go_enter Tryd.func54, Tryd.ntmps54
    go_wp2
    go_ret
    refine ⟨rfl, Nat.le_refl _, (Grew.refl w).alloc _, _, bs, ?_, HVV.out, HB.out, by omega⟩
    exact heap_alloc_new w _

theorem xor_i64_some (x y : Int) (hx : 0 ≤ x ∧ x < 4294967296) (hy : 0 ≤ y ∧ y < 4294967296) : ∃ z, bits .xor .i64 x y = z ∧ 0 ≤ z ∧ z < 4294967296 := by
  obtain ⟨a, rfl⟩ := Int.eq_ofNat_of_zero_le hx.1
  obtain ⟨b, rfl⟩ := Int.eq_ofNat_of_zero_le hy.1
  have ha : a < 2 ^ 32 := by omega
  have hb : b < 2 ^ 32 := by omega
  have hab : a ^^^ b < 2 ^ 32 := Nat.xor_lt_two_pow ha hb
  refine ⟨((a ^^^ b : Nat) : Int), ?_, by omega, by omega⟩
  have h1 : (BitVec.ofInt 64 (a : Int)).toNat = a := by rw [BitVec.ofInt_natCast, BitVec.toNat_ofNat]; exact Nat.mod_eq_of_lt (by omega)
  have h2 : (BitVec.ofInt 64 (b : Int)).toNat = b := by rw [BitVec.ofInt_natCast, BitVec.toNat_ofNat]; exact Nat.mod_eq_of_lt (by omega)
  show IntKind.i64.wrap ((BitVec.ofInt 64 (a : Int) ^^^ BitVec.ofInt 64 (b : Int)).toNat : Int) = _
  rw [BitVec.toNat_xor, h1, h2, IntKind.wrap_i64]
  omega

set_option maxRecDepth 100000 in
set_option maxHeartbeats 1000000 in
theorem pick_any (w0 w : World) (rb p : Nat) (n : Int) (hr : Rdr w0 w rb p) (hp : p ≤ 100000) (hn : n ≤ 1000000) :
    Calls Tryd.prog 85 #[.pointer (some ⟨rb, 0, none⟩), .int .i64 n] w fun e w' => ∃ m : Int, e = .returned (.int .i64 m) ∧ 0 ≤ m ∧ (m < n ∨ n < 1 ∧ m = 0) ∧ Rdr w0 w' rb (p + 1) ∧ Within rb (rb + 1) w w' := by
  obtain ⟨hbase, hg, v, bs, hblk, hv, hb, hbl⟩ := hr
  have hc0 : w.cell? ⟨rb, 0, none⟩ = some v := cell_of_block hblk 0
  have hc1 : w.cell? ⟨rb, 1, none⟩ = some (.int .i64 p) := cell_of_block hblk 1
  have hf1 : w.frozen? ⟨rb, 1, none⟩ = false := by simp [World.frozen?, hblk]
  obtain ⟨a, b, o, c, rfl, ⟨hlc, hcb⟩, ha, HC⟩ := hv.shape
  have hg0 : Grew w0 (w.setCell ⟨rb, 1, none⟩ (.int .i64 ((p : Int) + 1))) := Below.setCell hg hbase _
  have hblk' : (w.setCell ⟨rb, 1, none⟩ (.int .i64 ((p : Int) + 1))).heap[rb]? = some (.cells #[.slice a bs.length c, .int .i64 ((p : Int) + 1)] 80 (0, 0)) := by
    rw [heap_setCell_same w rb 1 _ _ _ hblk]; rfl
  have HR : Hid (Rdr w0 (w.setCell ⟨rb, 1, none⟩ (.int .i64 ((p : Int) + 1))) rb (p + 1) ∧ Within rb (rb + 1) w (w.setCell ⟨rb, 1, none⟩ (.int .i64 ((p : Int) + 1)))) :=
    ⟨⟨hbase, hg0, _, bs, hblk', hv, hb, hbl⟩, (Within.refl _ _ _).setCell (p := ⟨rb, 1, none⟩) (Nat.le_refl _) (Nat.lt_succ_self _) _⟩
  have HG := Lib.hid hg0
  have HB := Lib.hid hb
  clear hblk hblk' hv hb hg hg0
  by_cases h1 : n < 1
  · clear ha
    go_enter Tryd.func85, Tryd.ntmps85
    go_wp2
    go_ret
    exact ⟨0, rfl, by omega, .inr ⟨h1, rfl⟩, HR.out⟩
  · by_cases h0 : bs.length = 0
    · have h0' : ((bs.length : Int) == 0) = true := by simp [h0]
      clear h0 ha
      go_enter Tryd.func85, Tryd.ntmps85
      go_wp2
      go_ret
      exact ⟨0, rfl, by omega, .inl (by omega), HR.out⟩
    · have h0' : ((bs.length : Int) == 0) = false := beq_eq_false_iff_ne.2 (by omega)
      obtain rfl := ha (by omega)
      clear ha
      by_cases hlt : p < bs.length
      · have hcp := HG.out.cell (HC.out p hlt)
        have hbp := HB.out p hlt
        obtain ⟨x, ex⟩ : ∃ x, bs.getD p 0 = x := ⟨_, rfl⟩
        rw [ex] at hcp hbp
        clear ex
        go_enter Tryd.func85, Tryd.ntmps85
        go_wp2
        go_ret
        exact ⟨x % n, rfl, Int.emod_nonneg _ (by omega), .inl (Int.emod_lt_of_pos _ (by omega)), HR.out⟩
      · go_enter Tryd.func85, Tryd.ntmps85
        go_wp2
        obtain ⟨i1, e1⟩ : ∃ i1, p % bs.length = i1 := ⟨_, rfl⟩
        obtain ⟨i2, e2⟩ : ∃ i2, (p * 7 + 3) % bs.length = i2 := ⟨_, rfl⟩
        have hi1 : i1 < bs.length := by rw [← e1]; exact Nat.mod_lt _ (by omega)
        have hi2 : i2 < bs.length := by rw [← e2]; exact Nat.mod_lt _ (by omega)
        have t1 : (p : Int).tmod bs.length = (i1 : Int) := by rw [← e1]; exact (Int.ofNat_tmod _ _).symm
        have t2 : ((p : Int) * 7 + 3).tmod bs.length = (i2 : Int) := by
          rw [← e2]
          exact (Int.ofNat_tmod (p * 7 + 3) _).symm
        obtain ⟨x1, ex1⟩ : ∃ x, bs.getD i1 0 = x := ⟨_, rfl⟩
        obtain ⟨x2, ex2⟩ : ∃ x, bs.getD i2 0 = x := ⟨_, rfl⟩
        have hcp := HG.out.cell (HC.out i1 hi1)
        have hcq := HG.out.cell (HC.out i2 hi2)
        have hb1 := HB.out i1 hi1
        have hb2 := HB.out i2 hi2
        rw [ex1] at hcp hb1
        rw [ex2] at hcq hb2
        have r1 : (i1 : Int) < bs.length := by omega
        have r2 : (i2 : Int) < bs.length := by omega
        have r3 : (0 : Int) ≤ i1 := by omega
        have r4 : (0 : Int) ≤ i2 := by omega
        obtain ⟨q, eq⟩ : ∃ q, (p : Int) / bs.length = q := ⟨_, rfl⟩
        have hq0 : 0 ≤ q := by rw [← eq]; exact Int.ediv_nonneg (by omega) (by omega)
        have hq1 : q ≤ 100000 := by rw [← eq]; exact Int.le_trans (Int.ediv_le_self _ (by omega)) (by omega)
        obtain ⟨X, eX⟩ : ∃ X, x1 * 131 + x2 * 1117 + ↑p * 29 + q * 53 = X := ⟨_, rfl⟩
        have hX0 : 0 ≤ X := by omega
        have hX1 : X < 4294967296 := by omega
        obtain ⟨Y, eY, hY0, hY1⟩ := xor_i64_some X (X / 64) ⟨hX0, hX1⟩ ⟨by omega, by omega⟩
        have HX := Lib.hid eX
        clear e1 e2 ex1 ex2 eX
        go_quiet (fail)
        rw [HX.out]
        clear t1 t2 r1 r2 r3 r4 hcp hcq eq hq0 hq1 hb1 hb2 h0' hc0 hc1 hf1
        go_wp2
        go_ret
        exact ⟨Y % n, rfl, Int.emod_nonneg _ (by omega), .inl (Int.emod_lt_of_pos _ (by omega)), ⟨HR.out.1.base, HR.out.1.grew.drewN _, HR.out.1.blk⟩, HR.out.2.trans ((Grew.refl _).drewN _ |>.within _ _)⟩

theorem Rdr.within {w0 w w' : World} {rb p lo hi : Nat} (h : Rdr w0 w rb p) (hw : Within lo hi w w') (hd : rb < lo) : Rdr w0 w' rb p := by
  obtain ⟨v, bs, h1, h2, h3, h4⟩ := h.blk
  exact ⟨h.base, Below.trans h.grew ⟨hw.os, hw.tape, hw.output, hw.size, fun k hk => hw.block k (Nat.lt_of_lt_of_le hk h.grew.size) (.inl (by have := h.base; omega))⟩, v, bs,
    (hw.block rb (Array.getElem?_eq_some_iff.1 h1).1 (.inl hd)).trans h1, h2, h3, h4⟩
theorem Rdr.later {w0 w w' : World} {rb p : Nat} (h : Rdr w0 w rb p) (hw : Grew w w') : Rdr w0 w' rb p := by
  obtain ⟨v, bs, h1, h2, h3, h4⟩ := h.blk
  exact ⟨h.base, h.grew.trans hw, v, bs, (hw.block (Array.getElem?_eq_some_iff.1 h1).1).trans h1, h2, h3, h4⟩
theorem Rdr.lt {w0 w : World} {rb p : Nat} (h : Rdr w0 w rb p) : rb < w.heap.size := by
  obtain ⟨v, bs, h1, h2, h3, h4⟩ := h.blk
  exact (Array.getElem?_eq_some_iff.1 h1).1

set_option maxRecDepth 100000 in
set_option maxHeartbeats 1000000 in
theorem one_any (w0 w : World) (rb p hi : Nat) (v : Value) (xs : List Int) (hr : Rdr w0 w rb p) (hp : p ≤ 100000) (hx : IntsO 3 (rb + 1) hi w v xs) (h1 : 1 ≤ xs.length) (h2 : xs.length ≤ 1000) :
    Calls Tryd.prog 73 #[.pointer (some ⟨rb, 0, none⟩), v] w fun e w' => ∃ x : Int, x ∈ xs ∧ e = .returned (.int .i64 x) ∧ Rdr w0 w' rb (p + 1) ∧ Within rb (rb + 1) w w' := by
  rcases hx.shape with ⟨rfl, rfl⟩ | ⟨g, c, rfl, _, _, hlc, hcm⟩
  · simp at h1
  unfold maxLen at hcm
  have HP := Lib.hid (pick_any w0 w rb p xs.length hr hp (by omega))
  have HXX := Lib.hid hx
  clear hx hr
  go_enter Tryd.func73, Tryd.ntmps73
  go_wp2_with (fail)
  refine HP.out.mono ?_
  rintro e w' ⟨m, rfl, hm0, hm1, hr', hw⟩
  obtain ⟨m, rfl⟩ := Int.eq_ofNat_of_zero_le hm0
  have hm : m < xs.length := by omega
  obtain ⟨_, b, o, _, e, _, hc⟩ := (HXX.out.within hw (.inr (Nat.le_refl _))).toV
  cases e
  have hcm := (hc m hm).2
  have hao := (hc 0 (by omega)).1
  cases hao
  obtain ⟨x, ex⟩ : ∃ x, xs.getD m 0 = x := ⟨_, rfl⟩
  rw [ex] at hcm
  rw [Nat.zero_add] at hcm
  have HE : Hid (x ∈ xs) := by
    have : xs.getD m 0 = xs[m] := by simp [hm]
    rw [← ex, this]; exact List.getElem_mem hm
  have HQ := Lib.hid (And.intro hr' hw)
  clear ex hc hr' hw hm1
  go_wp2
  go_ret
  exact ⟨x, HE.out, rfl, HQ.out⟩
end Go.Proofs.YtaeenedjmakelaaDoor

/- The contracts of spec.goodGrid. -/
namespace Go.Proofs.YtaeenedjmakelaaDoor
open Go.RowKit

theorem Tryd.infoInt : (Tryd.prog.info? 3).map (fun i => (i.zero, i.size, i.bytes)) = some (some (.int .i64 0), 1, 8) := by kernel_rfl
theorem Tryd.infoInts : (Tryd.prog.info? 22).map (fun i => (i.zero, i.size, i.bytes)) = some (some (.slice none 0 0), 1, 24) := by kernel_rfl

/-- Every row has m numbers in 0 .. 12. -/
def RowsOk (m : Nat) (H : List (List Int)) : Prop := ∀ r, r < H.length → (H.getD r []).length = m ∧ ∀ x ∈ H.getD r [], 0 ≤ x ∧ x ≤ 12
theorem rowsOk_snoc {m : Nat} {H : List (List Int)} {xs : List Int} (h : RowsOk m H) (hl : xs.length = m) (hx : ∀ x ∈ xs, 0 ≤ x ∧ x ≤ 12) : RowsOk m (H ++ [xs]) := by
  intro r hr
  rw [List.length_append, List.length_singleton] at hr
  by_cases hlt : r < H.length
  · rw [getD_append_l _ _ _ _ hlt]; exact h r hlt
  · obtain rfl : r = H.length := by omega
    rw [getD_append_r]; exact ⟨hl, hx⟩
def GoodPost (w0 w : World) (rb p : Nat) (e : Ending) (w' : World) : Prop :=
  ∃ v H n m q, e = .returned v ∧ RowsO 22 3 w.heap.size w'.heap.size w' v H ∧ (1 ≤ n ∧ n ≤ 5 ∧ 1 ≤ m ∧ m ≤ 5 ∧ H.length = n ∧ RowsOk m H) ∧ Rdr w0 w' rb q ∧ q ≤ p + 200 ∧ Within rb (rb + 1) w w'

theorem mem_set_of {α : Type} {l : List α} {i : Nat} {a x : α} (h : x ∈ l.set i a) : x ∈ l ∨ x = a := List.mem_or_eq_of_mem_set h

/-- One round's store. -/
theorem draw_set {w0 wr w5 : World} (w : World) (rb : Nat) {p q'' b i j M g gr cr n c : Nat} {H'' : List (List Int)} {row : List Int} {x : Int}
    (hO : RowsO 22 3 w.heap.size wr.heap.size wr.drew (.slice (some ⟨g, 0, none⟩) n c) H'') (hn : H''.length = n) (hok : RowsOk M H'') (hW : Within rb (rb + 1) w wr)
    (hr5 : Rdr w0 w5 rb p) (hw5 : Within rb (rb + 1) wr.drew w5) (hlt : rb < w.heap.size) (_hgl : w.heap.size ≤ g) (hi : i < n) (hE : H''.getD i [] = row) (hlo : w.heap.size ≤ gr) (_hhi : gr < wr.heap.size) (_hj : j < row.length)
    (hcu : wr.cell? ⟨g, i, none⟩ = some (.slice (some ⟨gr, 0, none⟩) row.length cr)) (hx0 : 0 ≤ x) (hx1 : x ≤ 12) (hb : q'' ≤ b) :
    Hid (RowsO 22 3 w.heap.size (w5.setCell ⟨gr, j, none⟩ (.int .i64 x)).heap.size (w5.setCell ⟨gr, j, none⟩ (.int .i64 x)) (.slice (some ⟨g, 0, none⟩) n c) (H''.set i (row.set j x)) ∧ (H''.set i (row.set j x)).length = n ∧
      RowsOk M (H''.set i (row.set j x)) ∧ Rdr w0 (w5.setCell ⟨gr, j, none⟩ (.int .i64 x)) rb p ∧ q'' ≤ b ∧ Within rb (rb + 1) w (w5.setCell ⟨gr, j, none⟩ (.int .i64 x))) := by
  have h5 := (hO.within hw5 (.inr (by omega))).wide (Nat.le_refl _) hw5.size
  have hs : (w5.setCell ⟨gr, j, none⟩ (.int .i64 x)).heap.size = w5.heap.size := by simp [World.setCell]
  have hset := h5.set (by decide) rfl (by omega) (hw5.cell (a := wr.drew) hcu (.inr (by show rb + 1 ≤ g; omega))) j x
  rw [hE] at hset
  have hWs : Within gr (gr + 1) w5 (w5.setCell ⟨gr, j, none⟩ (.int .i64 x)) := (Within.refl _ _ _).setCell (p := ⟨gr, j, none⟩) (Nat.le_refl _) (Nat.lt_succ_self _) _
  refine ⟨by rw [hs]; exact hset, by rw [List.length_set]; exact hn, ?_, hr5.within hWs (by omega), hb, (hW.trans (((Grew.refl wr).drew.within _ _).trans hw5)).after hWs hlo⟩
  intro r hr
  rw [List.length_set] at hr
  by_cases e : r = i
  · subst e
    rw [List.getD_eq_getElem?_getD, List.getElem?_set_self hr, Option.getD_some, List.length_set]
    have := hok r hr
    rw [hE] at this
    refine ⟨this.1, fun z hz => ?_⟩
    rcases mem_set_of hz with h | rfl
    · exact this.2 z h
    · exact ⟨hx0, hx1⟩
  · rw [List.getD_eq_getElem?_getD, List.getElem?_set_ne (by omega), ← List.getD_eq_getElem?_getD]
    exact hok r hr

set_option maxRecDepth 100000 in
set_option maxHeartbeats 2000000 in
theorem goodGrid_any (w0 w : World) (rb p : Nat) (hr : Rdr w0 w rb p) (hp : p ≤ 1000) :
    Calls Tryd.prog 100 #[.pointer (some ⟨rb, 0, none⟩)] w (GoodPost w0 w rb p) := by
  have hlt := hr.lt
  have HR := Lib.hid hr
  clear hr
  go_enter Tryd.func100, Tryd.ntmps100
  go_wp2_with (fail)
  refine (one_any w0 _ rb p (w.heap.size + 1) _ [3, 4, 5, 3, 2, 1] (HR.out.later ((Grew.refl _).alloc _)) (by omega) (IntsO.lit _ _ w [3, 4, 5, 3, 2, 1] _ rfl (by omega) (by decide)) (by decide) (by decide)).mono ?_
  rintro e w1 ⟨n, hn, rfl, hr1, hw1⟩
  have hn' : 1 ≤ n ∧ n ≤ 5 := by simp at hn; omega
  have hs1 := hw1.size
  simp at hs1
  have HQ1 := Lib.hid (And.intro hr1 ((((Grew.refl w).alloc _).within _ _).trans hw1))
  clear hn hr1 hw1
  go_wp2_with (fail)
  refine (one_any w0 _ rb (p + 1) (w1.heap.size + 1) _ [3, 4, 5, 3, 2, 1] (HQ1.out.1.later ((Grew.refl _).alloc _)) (by omega) (IntsO.lit _ _ w1 [3, 4, 5, 3, 2, 1] _ rfl (by omega) (by decide)) (by decide) (by decide)).mono ?_
  rintro e w2 ⟨m, hm, rfl, hr2, hw2⟩
  have hm' : 1 ≤ m ∧ m ≤ 5 := by simp at hm; omega
  have hs2 := hw2.size
  simp at hs2
  have HQ2 := Lib.hid (And.intro hr2 (HQ1.out.2.trans ((((Grew.refl w1).alloc _).within _ _).trans hw2)))
  clear hm hr2 hw2 HQ1
  go_wp2_with (fail)
  refine (one_any w0 _ rb (p + 2) (w2.heap.size + 1) _ [5, 9, 3, 12, 2] (HQ2.out.1.later ((Grew.refl _).alloc _)) (by omega) (IntsO.lit _ _ w2 [5, 9, 3, 12, 2] _ rfl (by omega) (by decide)) (by decide) (by decide)).mono ?_
  rintro e w3 ⟨most, hmo, rfl, hr3, hw3⟩
  have hmo' : 2 ≤ most ∧ most ≤ 12 := by simp at hmo; omega
  have hs3 := hw3.size
  simp at hs3
  have HQ3 := Lib.hid (And.intro hr3 (HQ2.out.2.trans ((((Grew.refl w2).alloc _).within _ _).trans hw3)))
  clear hmo hr3 hw3 HQ2
  obtain ⟨N, rfl⟩ := Int.eq_ofNat_of_zero_le (show 0 ≤ n by omega)
  obtain ⟨M, rfl⟩ := Int.eq_ofNat_of_zero_le (show 0 ≤ m by omega)
  have hN : 1 ≤ N ∧ N ≤ 5 := by omega
  have hM : 1 ≤ M ∧ M ≤ 5 := by omega
  clear hn' hm'
  obtain ⟨iI, hiI, hzI, hsI, hbI⟩ := info_parts Tryd.infoInt
  obtain ⟨iS, hiS, hzS, hsS, hbS⟩ := info_parts Tryd.infoInts
  go_wp2_with (fail)
  have h0 := RowsO.lit0 22 3 w.heap.size w3 (by omega)
  have H0 : Hid (RowsO 22 3 w.heap.size (w3.alloc (.cells #[] 22)).heap.size (w3.alloc (.cells #[] 22)) (.slice (some ⟨w3.heap.size, 0, none⟩) 0 0) [] ∧ RowsOk M [] ∧ Rdr w0 (w3.alloc (.cells #[] 22)) rb (p + 3) ∧ p + 3 ≤ p + 3 + 0 ∧ Within rb (rb + 1) w (w3.alloc (.cells #[] 22))) :=
    ⟨by simpa using h0, fun r hr => absurd hr (Nat.not_lt_zero _), HQ3.out.1.later ((Grew.refl _).alloc _), Nat.le_refl _, HQ3.out.2.alloc _⟩
  clear h0
  go_loopg [6] N (fun gk v wr => ∃ H g c q, v = .slice (some ⟨g, 0, none⟩) (List.length H) c ∧ List.length H ≤ N ∧ N ≤ gk + List.length H ∧
    Hid (RowsO 22 3 w.heap.size wr.heap.size wr v H ∧ RowsOk M H ∧ Rdr w0 wr rb q ∧ q ≤ p + 3 + 5 * List.length H ∧ Within rb (rb + 1) w wr))
  case atStart => exact ⟨[], _, _, _, rfl, Nat.zero_le _, Nat.le_refl _, H0⟩
  case round =>
    obtain ⟨H, g, c, q, rfl, hH1, hH2, HI⟩ := hrel
    clear H0 HQ3
    by_cases hlt2 : H.length < N
    · obtain ⟨wo, rfl⟩ : ∃ wo : World, wo = wr := ⟨_, rfl⟩
      obtain ⟨gn, rfl⟩ : ∃ gn : Nat, gn = gk := ⟨_, rfl⟩
      have hsw : w.heap.size ≤ wo.heap.size := HI.out.2.2.2.2.size
      go_wp2_with (fail)
      have h0 := IntsO.lit 3 wo.heap.size wo [] #[] rfl (Nat.le_refl _) (by decide)
      have H0 : Hid (IntsO 3 wo.heap.size (wo.alloc (.cells #[] 3)).heap.size (wo.alloc (.cells #[] 3)) (.slice (some ⟨wo.heap.size, 0, none⟩) 0 0) [] ∧ (∀ x ∈ ([] : List Int), 0 ≤ x ∧ x ≤ 12) ∧ Rdr w0 (wo.alloc (.cells #[] 3)) rb q ∧ q ≤ q + 0 ∧ Within rb (rb + 1) wo (wo.alloc (.cells #[] 3))) :=
        ⟨by simpa using h0, fun x hx => by simp at hx, HI.out.2.2.1.later ((Grew.refl _).alloc _), Nat.le_refl _, (Within.refl _ _ _).alloc _⟩
      clear h0
      go_loopg [7] M (fun gk v wi => ∃ xs g' c' q', v = .slice (some ⟨g', 0, none⟩) (List.length xs) c' ∧ List.length xs ≤ M ∧ M ≤ gk + List.length xs ∧
        Hid (IntsO 3 wo.heap.size wi.heap.size wi v xs ∧ (∀ x ∈ xs, 0 ≤ x ∧ x ≤ 12) ∧ Rdr w0 wi rb q' ∧ q' ≤ q + List.length xs ∧ Within rb (rb + 1) wo wi))
      case atStart => exact ⟨[], _, _, _, rfl, Nat.zero_le _, Nat.le_refl _, H0⟩
      case round =>
        obtain ⟨xs, g', c', q', rfl, hx1, hx2, HX⟩ := hrel
        clear H0
        by_cases hltx : xs.length < M
        · have hqb : q' ≤ 100000 := by have := HI.out.2.2.2.1; have := HX.out.2.2.2.1; omega
          go_wp2_with (fail)
          refine (pick_any w0 _ rb q' _ HX.out.2.2.1 hqb (by omega)).mono ?_
          rintro e w4 ⟨x, rfl, hx0, hxm, hr4, hw4⟩
          have hx12 : x ≤ 12 := by omega
          have hs4 : wo.heap.size ≤ w4.heap.size := Nat.le_trans HX.out.2.2.2.2.size hw4.size
          have HO := Lib.hid (HX.out.1.within hw4 (.inr (by omega)))
          have HW := Lib.hid (And.intro hr4 (HX.out.2.2.2.2.trans hw4))
          have hsx := hw4.size
          clear hr4 hw4 hxm
          go_wp2_with (at_builtin; refine wpList_append_int rfl (.tmp 29) (.tmp 34) 22 rfl Tryd.underlying22 Tryd.infoInt rfl rfl rfl HO.out (by omega) (by omega) ?_; intro g5 c5 w5 hO5 hW5 hS5)
          have HF := Lib.hid (And.intro hO5 hW5)
          clear hO5 hW5
          go_wp2
          go_roundg (gk - 1)
          case measure => omega
          case rel => exact ⟨xs ++ [x], g5, c5, q' + 1, by simp, by simp; omega, by simp; omega, HF.out.1, by
            intro z hz
            rcases List.mem_append.1 hz with h | h
            · exact HX.out.2.1 z h
            · simp at h; omega, HW.out.1.within HF.out.2 (by omega), by have := HX.out.2.2.2.1; simp; omega, HW.out.2.after HF.out.2 (Nat.le_refl _)⟩
        · go_wp2_with (at_builtin; refine wpList_append_row rfl (.tmp 36) (.tmp 38) 32 rfl (by decide) Tryd.underlying32 Tryd.infoInts rfl rfl rfl (HI.out.1.within HX.out.2.2.2.2 (.inr (by omega))) HX.out.1 (by omega) (by have := HX.out.2.2.2.2.size; omega) hsw ?_; intro g5 c5 w5 hO5 hW5 hS5)
          have HF := Lib.hid (And.intro hO5 hW5)
          clear hO5 hW5
          go_wp2
          go_roundg (gn - 1)
          case measure => omega
          case rel => exact ⟨H ++ [xs], g5, c5, q', by simp, by simp; omega, by simp; omega, HF.out.1, rowsOk_snoc HI.out.2.1 (by omega) HX.out.2.1,
            HX.out.2.2.1.within HF.out.2 (by omega), by have := HI.out.2.2.2.1; have := HX.out.2.2.2.1; simp; omega, (HI.out.2.2.2.2.trans HX.out.2.2.2.2).after HF.out.2 (Nat.le_refl _)⟩
    · obtain rfl : N = H.length := by omega
      have hq : q ≤ p + 30 := by have := HI.out.2.2.2.1; omega
      have hsw : w.heap.size ≤ wr.heap.size := HI.out.2.2.2.2.size
      clear hH1 hH2 hlt2
      by_cases h33 : 2 < H.length ∧ 2 < M
      · obtain ⟨h3a, h3b⟩ := h33
        go_wp2_with (fail)
        refine (pick_any w0 _ rb q _ HI.out.2.2.1 (by omega) (by omega)).mono ?_
        rintro e w4 ⟨x, rfl, hx0, hxm, hr4, hw4⟩
        have HK : Hid (RowsO 22 3 w.heap.size w4.heap.size w4 (.slice (some ⟨g, 0, none⟩) H.length c) H ∧ RowsOk M H ∧ Rdr w0 w4 rb (q + 1) ∧ Within rb (rb + 1) w w4) :=
          ⟨(HI.out.1.within hw4 (.inr (by omega))).wide (Nat.le_refl _) hw4.size, HI.out.2.1, hr4, HI.out.2.2.2.2.trans hw4⟩
        clear hr4 hw4
        by_cases hx : x = 0
        · subst hx
          clear hx0 hxm
          go_wp2_with (fail)
          go_loopg [8] H.length (fun gk v wr => ∃ i H' q', v = .int .i64 ((i : Nat) : Int) ∧ 1 ≤ i ∧ i ≤ H.length ∧ H.length ≤ gk + i ∧
            Hid (RowsO 22 3 w.heap.size wr.heap.size wr (.slice (some ⟨g, 0, none⟩) H.length c) H' ∧ H'.length = H.length ∧ RowsOk M H' ∧ Rdr w0 wr rb q' ∧ q' ≤ q + 1 + 5 * i ∧ Within rb (rb + 1) w wr))
          case atStart => exact ⟨1, H, q + 1, rfl, Nat.le_refl _, by omega, by omega, HK.out.1, rfl, HK.out.2.1, HK.out.2.2.1, by omega, HK.out.2.2.2⟩
          case round =>
            clear HK HI
            obtain ⟨i, H', q', rfl, hi1, hi2, hi3, HI⟩ := hrel
            by_cases hlt3 : i + 1 < H.length
            · obtain ⟨wo, rfl⟩ : ∃ wo : World, wo = wr := ⟨_, rfl⟩
              obtain ⟨gn, rfl⟩ : ∃ gn : Nat, gn = gk := ⟨_, rfl⟩
              have hd3 : decide ((i : Int) + 1 < (H.length : Int)) = true := by simp; omega
              go_wp2_with (fail)
              go_loopg [9] M (fun gk v wr => ∃ j H'' q'', v = .int .i64 ((j : Nat) : Int) ∧ 1 ≤ j ∧ j ≤ M ∧ M ≤ gk + j ∧
                Hid (RowsO 22 3 w.heap.size wr.heap.size wr (.slice (some ⟨g, 0, none⟩) H.length c) H'' ∧ H''.length = H.length ∧ RowsOk M H'' ∧ Rdr w0 wr rb q'' ∧ q'' ≤ q' + j ∧ Within rb (rb + 1) w wr))
              case atStart => exact ⟨1, H', q', rfl, Nat.le_refl _, by omega, by omega, HI.out.1, HI.out.2.1, HI.out.2.2.1, HI.out.2.2.2.1, by omega, HI.out.2.2.2.2.2⟩
              case round =>
                obtain ⟨j, H'', q'', rfl, hj1, hj2, hj3, HJ⟩ := hrel
                by_cases hlt4 : j + 1 < M
                · obtain ⟨u, hcu, hu⟩ := HJ.out.1.at rfl (i := i) (by have := HJ.out.2.1; omega)
                  have hrow := HJ.out.2.2.1 i (by have := HJ.out.2.1; omega)
                  obtain ⟨row, er⟩ : ∃ row, H''.getD i [] = row := ⟨_, rfl⟩
                  rw [er] at hu hrow
                  have HE := Lib.hid er
                  obtain ⟨gr, cr, rfl, hlo, hhi, hlc, hcc⟩ := hu.pos (by have := hrow.1; omega)
                  have hjr : j < row.length := by have := hrow.1; omega
                  obtain ⟨hel, hfr⟩ := hu.at rfl (i := j) hjr
                  obtain ⟨y, ey⟩ : ∃ y, row.getD j 0 = y := ⟨_, rfl⟩
                  have hy : 0 ≤ y ∧ y ≤ 12 := hrow.2 y (by rw [← ey]; have : row.getD j 0 = row[j] := by simp [hjr]
                                                           rw [this]; exact List.getElem_mem hjr)
                  rw [ey] at hel
                  have HRow := Lib.hid hrow
                  have HCU := Lib.hid hcu
                  have HU := Lib.hid hu
                  clear er ey hu hrow
                  have hg := HJ.out.1
                  have hgl : w.heap.size ≤ g := by
                    obtain ⟨g2, c2, e2, l2, _⟩ := HJ.out.1.pos (by have := HJ.out.2.1; omega)
                    simp at e2; omega
                  clear hg
                  have hqb : q'' ≤ 100000 := by have := HJ.out.2.2.2.2.1; have := HI.out.2.2.2.2.1; omega
                  have b1 : (i : Int) < H.length := by omega
                  have b2 : (j : Int) < row.length := by omega
                  have hwr : IntKind.i64.wrap (y + 1) = y + 1 := IntWalk.i64_in _ (by omega)
                  go_wp2_with (fail)
                  go_region_with (first | (go_at_call 85; refine (pick_any w0 _ rb q'' _ (by first | exact HJ.out.2.2.2.1 | exact HJ.out.2.2.2.1.later ((Grew.refl _).drew)) hqb (by omega)).mono ?_; rintro e w5 ⟨x, rfl, hx0, hxm, hr5, hw5⟩; have hcu5 := hw5.cell hcu (.inr (by show rb + 1 ≤ g; omega)); have hel5 := hw5.cell hel (.inr (by show rb + 1 ≤ gr; omega)); have hfr5 := hw5.frozen hel hfr (.inr (by show rb + 1 ≤ gr; omega))))
                  all_goals
                    clear hcu hel hfr hcu5 hel5 hfr5 hwr
                    have HF := Lib.hid (And.intro hr5 hw5)
                    clear hr5 hw5
                    go_wp2_with (fail)
                    go_roundg (gk - 1)
                    case measure => omega
                    case rel => exact ⟨j + 1, H''.set i (row.set j x), q'' + 1, by go_num, by omega, by omega, by omega, draw_set w rb (HJ.out.1.grew ((Grew.refl _).drew)) HJ.out.2.1 HJ.out.2.2.1 HJ.out.2.2.2.2.2 HF.out.1 HF.out.2 hlt hgl (by omega) HE.out hlo hhi hjr HCU.out hx0 (by omega) (by have := HJ.out.2.2.2.2.1; omega)⟩
                · go_wp2_with (fail)
                  go_roundg (gn - 1)
                  case measure => omega
                  case rel => exact ⟨i + 1, H'', q'', by go_num, by omega, by omega, by omega, HJ.out.1, HJ.out.2.1, HJ.out.2.2.1, HJ.out.2.2.2.1, by have := HJ.out.2.2.2.2.1; have := HI.out.2.2.2.2.1; omega, HJ.out.2.2.2.2.2⟩
            · go_wp2
              go_ret
              exact ⟨_, H', H.length, M, q', rfl, HI.out.1, ⟨by omega, by omega, by omega, by omega, HI.out.2.1, HI.out.2.2.1⟩, HI.out.2.2.2.1, by have := HI.out.2.2.2.2.1; omega, HI.out.2.2.2.2.2⟩
        · have hx' : (x == 0) = false := beq_eq_false_iff_ne.2 hx
          clear hxm hx
          go_wp2
          go_ret
          exact ⟨_, H, H.length, M, q + 1, rfl, HK.out.1, ⟨by omega, by omega, by omega, by omega, rfl, HK.out.2.1⟩, HK.out.2.2.1, by omega, HK.out.2.2.2⟩
      · by_cases h3a : 2 < H.length
        all_goals
          go_wp2
          go_ret
          exact ⟨_, H, H.length, M, q, rfl, HI.out.1, ⟨by omega, by omega, by omega, by omega, rfl, HI.out.2.1⟩, HI.out.2.2.1, by omega, HI.out.2.2.2.2⟩
end Go.Proofs.YtaeenedjmakelaaDoor

/- The contracts of spec.someGrid and of the draws of grids. -/
namespace Go.Proofs.YtaeenedjmakelaaDoor
open Go.RowKit

/-- At most six rows of one to five numbers in -1 .. 13. -/
def Drawn (H : List (List Int)) : Prop := H.length ≤ 6 ∧ (∀ r, r < H.length → (H.getD r []).length ≤ 5 ∧ ∀ x ∈ H.getD r [], -1 ≤ x ∧ x ≤ 13) ∧ ∀ r, r < H.length → 1 ≤ (H.getD r []).length
def SomePost (w0 w : World) (rb p : Nat) (e : Ending) (w' : World) : Prop :=
  ∃ v H q, e = .returned v ∧ RowsO 22 3 w.heap.size w'.heap.size w' v H ∧ Drawn H ∧ Rdr w0 w' rb q ∧ q ≤ p + 300 ∧ Within rb (rb + 1) w w'
theorem Drawn.ok {m : Nat} {H : List (List Int)} (h : RowsOk m H) (h1 : 1 ≤ m) (hm : m ≤ 5) (hn : H.length ≤ 5) : Drawn H :=
  ⟨by omega, fun r hr => ⟨by have := (h r hr).1; omega, fun x hx => by have := (h r hr).2 x hx; omega⟩, fun r hr => by have := (h r hr).1; omega⟩
theorem Drawn.snoc {H : List (List Int)} {xs : List Int} (h : Drawn H) (hn : H.length ≤ 5) (hl1 : 1 ≤ xs.length) (hl : xs.length ≤ 5) (hx : ∀ x ∈ xs, -1 ≤ x ∧ x ≤ 13) : Drawn (H ++ [xs]) := by
  refine ⟨by simp; omega, fun r hr => ?_, fun r hr => ?_⟩
  all_goals
    rw [List.length_append, List.length_singleton] at hr
    by_cases hlt : r < H.length
    · rw [getD_append_l _ _ _ _ hlt]; first | exact h.2.1 r hlt | exact h.2.2 r hlt
    · obtain rfl : r = H.length := by omega
      rw [getD_append_r]; first | exact ⟨hl, hx⟩ | exact hl1
theorem Drawn.set {H : List (List Int)} (h : Drawn H) (i j : Nat) (x : Int) (hi : i < H.length) (hx : -1 ≤ x ∧ x ≤ 13) : Drawn (H.set i ((H.getD i []).set j x)) := by
  refine ⟨by rw [List.length_set]; exact h.1, fun r hr => ?_, fun r hr => ?_⟩
  · rw [List.length_set] at hr
    by_cases e : r = i
    · subst e
      rw [List.getD_eq_getElem?_getD, List.getElem?_set_self hr, Option.getD_some, List.length_set]
      refine ⟨(h.2.1 r hr).1, fun z hz => ?_⟩
      rcases mem_set_of hz with h' | rfl
      · exact (h.2.1 r hr).2 z h'
      · exact hx
    · rw [List.getD_eq_getElem?_getD, List.getElem?_set_ne (by omega), ← List.getD_eq_getElem?_getD]
      exact h.2.1 r hr
  · rw [List.length_set] at hr
    by_cases e : r = i
    · subst e
      rw [List.getD_eq_getElem?_getD, List.getElem?_set_self hr, Option.getD_some, List.length_set]
      exact h.2.2 r hr
    · rw [List.getD_eq_getElem?_getD, List.getElem?_set_ne (by omega), ← List.getD_eq_getElem?_getD]
      exact h.2.2 r hr

theorem some_set {w0 w2 wa w5 : World} {o : Obj} (e0 : wa = (w2.alloc o).drew) (w : World) (rb : Nat) {p p0 g gr cr c n : Nat} {H : List (List Int)} {x : Int}
    (hO : RowsO 22 3 w.heap.size w2.heap.size w2 (.slice (some ⟨g, 0, none⟩) H.length c) H) (hok : Drawn H) (hW : Within rb (rb + 1) w w2)
    (hr5 : Rdr w0 w5 rb p) (hw5 : Within rb (rb + 1) wa w5) (hlt : rb < w.heap.size) (hgl : w.heap.size ≤ g) (hi : 0 < H.length) (hlo : w.heap.size ≤ gr)
    (hcu : w2.cell? ⟨g, 0, none⟩ = some (.slice (some ⟨gr, 0, none⟩) n cr)) (hx : -1 ≤ x ∧ x ≤ 13) (hb : p ≤ p0 + 300) :
    SomePost w0 w rb p0 (.returned (.slice (some ⟨g, 0, none⟩) H.length c)) (w5.setCell ⟨gr, 0, none⟩ (.int .i64 x)) := by
  subst e0
  have ga : Grew w2 (w2.alloc o).drew := ((Grew.refl w2).alloc o).drew
  have h5 := (((hO.grew ga).within hw5 (.inr (by omega))).wide (Nat.le_refl _) (Nat.le_trans ga.size hw5.size))
  have hs : (w5.setCell ⟨gr, 0, none⟩ (.int .i64 x)).heap.size = w5.heap.size := by simp [World.setCell]
  have hset := h5.set (by decide) rfl hi (hw5.cell (ga.cell hcu) (.inr (by show rb + 1 ≤ g; omega))) 0 x
  have hWs : Within gr (gr + 1) w5 (w5.setCell ⟨gr, 0, none⟩ (.int .i64 x)) := (Within.refl _ _ _).setCell (p := ⟨gr, 0, none⟩) (Nat.le_refl _) (Nat.lt_succ_self _) _
  exact ⟨_, _, p, rfl, by rw [hs]; exact hset, hok.set 0 0 x hi hx, hr5.within hWs (by omega), hb, (hW.trans ((ga.within _ _).trans hw5)).after hWs hlo⟩

set_option maxRecDepth 100000 in
set_option maxHeartbeats 2000000 in
theorem someGrid_any (w0 w : World) (rb p : Nat) (hr : Rdr w0 w rb p) (hp : p ≤ 1000) :
    Calls Tryd.prog 62 #[.pointer (some ⟨rb, 0, none⟩)] w (SomePost w0 w rb p) := by
  have hlt := hr.lt
  have HR := Lib.hid hr
  clear hr
  go_enter Tryd.func62, Tryd.ntmps62
  go_wp2_with (fail)
  refine (goodGrid_any w0 _ rb p HR.out hp).mono ?_
  rintro e w1 ⟨v, H, n, m, q, rfl, hO, ⟨hn1, hn5, hm1, hm5, hHn, hok⟩, hr1, hq, hw1⟩
  obtain ⟨g, c, rfl, hgl, hgh, hlc, hcc⟩ := hO.pos (by omega)
  subst hHn
  have hs1 := hw1.size
  have HO := Lib.hid (And.intro hO (And.intro hok (And.intro hr1 hw1)))
  clear hO hok hr1 hw1
  go_wp2_with (fail)
  refine (pick_any w0 _ rb q _ HO.out.2.2.1 (by omega) (by omega)).mono ?_
  rintro e w2 ⟨x, rfl, hx0, hxm, hr2, hw2⟩
  have hs2 := hw2.size
  have HO2 : Hid (RowsO 22 3 w.heap.size w2.heap.size w2 (.slice (some ⟨g, 0, none⟩) H.length c) H ∧ Drawn H ∧ Rdr w0 w2 rb (q + 1) ∧ Within rb (rb + 1) w w2) :=
    ⟨(HO.out.1.within hw2 (.inr (by omega))).wide (Nat.le_refl _) hs2, Drawn.ok HO.out.2.1 hm1 hm5 hn5, hr2, HO.out.2.2.2.trans hw2⟩
  have HOK := Lib.hid HO.out.2.1
  clear hr2 hw2 HO hxm
  by_cases h0 : x = 0
  · subst h0
    clear hx0
    obtain ⟨u, hcu, hu⟩ := HO2.out.1.at rfl (i := 0) (by omega)
    have hrow := HOK.out 0 (by omega)
    obtain ⟨row, er⟩ : ∃ row, H.getD 0 [] = row := ⟨_, rfl⟩
    rw [er] at hu hrow
    obtain ⟨gr, cr, rfl, hlo, hhi, hlc', hcc'⟩ := hu.pos (by omega)
    obtain ⟨hel, hfr⟩ := hu.at rfl (i := 0) (by omega)
    have HE := Lib.hid (And.intro er (And.intro hrow hu))
    have hrl : 0 < row.length := by omega
    have hHl : 0 < H.length := by omega
    have hg2 : g < w2.heap.size := by omega
    have b1 : (0 : Int) < H.length := by omega
    have b2 : (0 : Int) < row.length := by omega
    have HCU := Lib.hid hcu
    clear er hrow hu
    go_wp2_with (fail)
    have HKK := Lib.hid (one_any w0 (w2.alloc (.cells #[.int .i64 (-1), .int .i64 13] 3)).drew rb (q + 1) (w2.heap.size + 1) (.slice (some ⟨w2.heap.size, 0, none⟩) 2 2) [-1, 13] (HO2.out.2.2.1.later (((Grew.refl _).alloc _).drew)) (by omega) ((IntsO.lit _ _ w2 [-1, 13] _ rfl (by omega) (by decide)).grew ((Grew.refl _).drew)) (by decide) (by decide))
    have HC5 : Hid (∀ w5, Within rb (rb + 1) (w2.alloc (.cells #[.int .i64 (-1), .int .i64 13] 3)).drew w5 → w5.cell? ⟨g, 0, none⟩ = some (.slice (some ⟨gr, 0, none⟩) row.length cr) ∧ (∃ z, w5.cell? ⟨gr, 0, none⟩ = some (.int .i64 z)) ∧ w5.frozen? ⟨gr, 0, none⟩ = false) := fun w5 hw5 =>
      ⟨hw5.cell (((Grew.refl w2).alloc _).drew.cell hcu) (.inr (by show rb + 1 ≤ g; omega)), ⟨_, hw5.cell (((Grew.refl w2).alloc _).drew.cell hel) (.inr (by show rb + 1 ≤ gr; omega))⟩,
        hw5.frozen (((Grew.refl w2).alloc _).drew.cell hel) ((Below.frozen (((Grew.refl w2).alloc (.cells #[.int .i64 (-1), .int .i64 13] 3)).drew) (World.block_lt_of_cell? _ _ hel)).trans hfr) (.inr (by show rb + 1 ≤ gr; omega))⟩
    go_region_with (first | (go_at_call 73; refine HKK.out.mono ?_; rintro e w5 ⟨x, hx, rfl, hr5, hw5⟩; obtain ⟨hcu5, ⟨z, hel5⟩, hfr5⟩ := HC5.out w5 hw5; have HX := Lib.hid hx; have HRW := Lib.hid (And.intro hr5 hw5); clear hx hr5 hw5))
    all_goals
      clear hcu hel hfr hcu5 hel5 hfr5
      go_wp2
      go_ret
      exact some_set rfl w rb HO2.out.1 HO2.out.2.1 HO2.out.2.2.2 HRW.out.1 HRW.out.2 hlt hgl hHl hlo HCU.out (by have := HX.out; simp at this; omega) (by omega)
  · have h0' : (x == 0) = false := beq_eq_false_iff_ne.2 h0
    by_cases h1 : x = 1
    · subst h1
      clear hx0 h0 h0'
      have hu2 := IntsO.lit 3 w2.heap.size w2 [1] #[.int .i64 1] rfl (Nat.le_refl _) (by decide)
      have HO3 := Lib.hid (And.intro (HO2.out.1.grew ((Grew.refl w2).alloc (.cells #[.int .i64 1] 3))) hu2)
      clear hu2
      go_wp2_with (at_builtin; refine wpList_append_row rfl (.tmp 19) (.tmp 21) 32 rfl (by decide) Tryd.underlying32 Tryd.infoInts rfl rfl (by simp) HO3.out.1 HO3.out.2 (by omega) (by simp; omega) (by omega) ?_; intro g5 c5 w5 hO5 hW5 hS5)
      have HF := Lib.hid (And.intro hO5 hW5)
      clear hO5 hW5
      go_wp2
      go_ret
      exact ⟨_, H ++ [[1]], q + 1, rfl, HF.out.1, HO2.out.2.1.snoc (by omega) (by simp) (by simp) (fun x hx => by simp at hx; omega), (HO2.out.2.2.1.later ((Grew.refl _).alloc _)).within HF.out.2 (by omega), by omega, (HO2.out.2.2.2.trans (((Grew.refl w2).alloc _).within _ _)).after HF.out.2 (Nat.le_refl _)⟩
    · have h1' : (x == 1) = false := beq_eq_false_iff_ne.2 h1
      by_cases h2 : x = 2
      · subst h2
        clear hx0 h0 h0' h1 h1'
        go_wp2
        go_ret
        exact ⟨_, [], q + 1, rfl, (by simpa using (RowsO.lit0 22 3 w2.heap.size w2 (Nat.le_refl _)).wide (Nat.le_trans hs1 hs2) (Nat.le_refl _)), ⟨by simp, fun r hr => absurd hr (Nat.not_lt_zero _), fun r hr => absurd hr (Nat.not_lt_zero _)⟩, HO2.out.2.2.1.later ((Grew.refl _).alloc _), by omega, HO2.out.2.2.2.alloc _⟩
      · have h2' : (x == 2) = false := beq_eq_false_iff_ne.2 h2
        clear h0 h1 h2
        go_wp2
        go_ret
        exact ⟨_, H, q + 1, rfl, HO2.out.1, HO2.out.2.1, HO2.out.2.2.1, by omega, HO2.out.2.2.2⟩
end Go.Proofs.YtaeenedjmakelaaDoor
