/- The reader of codes and the grids that it draws. -/
import Derived.Test.YthljmolkicfdaaaRows
import Derived.Test.YthljmolkicfdaaaBase
/- The contracts of spec.newReader, pick and one. -/
namespace Go.Proofs.Ythljmolkicfdaaa
open Go.RowKit

/-- Block rb is a reader of bytes that lay in the world w0; p numbers have been picked. -/
structure Rdr (w0 w : World) (rb p : Nat) : Prop where
  base : w0.heap.size ≤ rb
  grew : Grew w0 w
  blk : ∃ v bs, w.heap[rb]? = some (.cells #[v, .int .i64 p] 54 (0, 0)) ∧ NumsV .u8 w0 v bs ∧ (∀ i, i < bs.length → 0 ≤ bs.getD i 0 ∧ bs.getD i 0 ≤ 255) ∧ bs.length ≤ 2000

theorem cell_of_block {w : World} {b : Nat} {cs : Array Value} {t : TypeId} {fr : Nat × Nat} (h : w.heap[b]? = some (.cells cs t fr)) (o : Nat) : w.cell? ⟨b, o, none⟩ = cs[o]? := by
  simp [World.cell?, h]

set_option maxRecDepth 100000 in
theorem newReader_any (v : Value) (bs : List Int) (w : World) (hv : NumsV .u8 w v bs) (hb : ∀ i, i < bs.length → 0 ≤ bs.getD i 0 ∧ bs.getD i 0 ≤ 255) :
    Calls Try.prog 35 #[v] w fun e w' => e = .returned (.pointer (some ⟨w.heap.size, 0, none⟩)) ∧ Rdr w w' w.heap.size 0 := by
  obtain ⟨a, b, o, c, rfl, ⟨hlc, hcb⟩, ha, HC⟩ := hv.shape
  have HB := Lib.hid hb
  clear hb
  have HVV := Lib.hid hv
  clear hv ha
  by_cases h2 : 2000 < bs.length
  · go_enter Try.func35, Try.ntmps35
    go_wp2
    go_ret
    refine ⟨rfl, Nat.le_refl _, (Grew.refl w).alloc _, .slice a 2000 c, bs.take 2000, heap_alloc_new w _, ?_, ?_, by simp; omega⟩
    · obtain ⟨a', b', o', c', e, _, hc⟩ := HVV.out
      cases e
      have ht : (bs.take 2000).length = 2000 := by simp; omega
      refine ⟨a, b', o', c, by rw [ht], ⟨by rw [ht]; omega, hcb⟩, fun i hi => ?_⟩
      rw [ht] at hi
      have := hc i (by omega)
      rw [this.2]
      refine ⟨this.1, ?_⟩
      simp [hi, List.getD]
    · intro i hi
      have hi' : i < 2000 := by simp at hi; omega
      have := HB.out i (by simp at hi; omega)
      simpa [List.getD, hi'] using this
  · go_enter Try.func35, Try.ntmps35
    go_wp2
    go_ret
    refine ⟨rfl, Nat.le_refl _, (Grew.refl w).alloc _, _, bs, ?_, HVV.out, HB.out, by omega⟩
    exact heap_alloc_new w _

theorem xor_i64_some (x y : Int) (hx : 0 ≤ x ∧ x < 4294967296) (hy : 0 ≤ y ∧ y < 4294967296) : ∃ z, bits .xor .i64 x y = z ∧ 0 ≤ z ∧ z < 4294967296 := by
  obtain ⟨a, rfl⟩ := Int.eq_ofNat_of_zero_le hx.1
  obtain ⟨b, rfl⟩ := Int.eq_ofNat_of_zero_le hy.1
  have ha : a < 2 ^ 32 := by omega
  have hb : b < 2 ^ 32 := by omega
  have hab : a ^^^ b < 2 ^ 32 := Nat.xor_lt_two_pow ha hb
  refine ⟨((a ^^^ b : Nat) : Int), ?_, by omega, by omega⟩
  have h1 : (BitVec.ofInt 64 (a : Int)).toNat = a := by rw [BitVec.ofInt_natCast, BitVec.toNat_ofNat]; exact Nat.mod_eq_of_lt (by omega)
  have h2 : (BitVec.ofInt 64 (b : Int)).toNat = b := by rw [BitVec.ofInt_natCast, BitVec.toNat_ofNat]; exact Nat.mod_eq_of_lt (by omega)
  show IntKind.i64.wrap ((BitVec.ofInt 64 (a : Int) ^^^ BitVec.ofInt 64 (b : Int)).toNat : Int) = _
  rw [BitVec.toNat_xor, h1, h2, IntKind.wrap_i64]
  omega

set_option maxRecDepth 100000 in
set_option maxHeartbeats 1000000 in
theorem pick_any (w0 w : World) (rb p : Nat) (n : Int) (hr : Rdr w0 w rb p) (hp : p ≤ 100000) (hn : n ≤ 1000000) :
    Calls Try.prog 42 #[.pointer (some ⟨rb, 0, none⟩), .int .i64 n] w fun e w' => ∃ m : Int, e = .returned (.int .i64 m) ∧ 0 ≤ m ∧ (m < n ∨ n < 1 ∧ m = 0) ∧ Rdr w0 w' rb (p + 1) ∧ Within rb (rb + 1) w w' := by
  obtain ⟨hbase, hg, v, bs, hblk, hv, hb, hbl⟩ := hr
  have hc0 : w.cell? ⟨rb, 0, none⟩ = some v := cell_of_block hblk 0
  have hc1 : w.cell? ⟨rb, 1, none⟩ = some (.int .i64 p) := cell_of_block hblk 1
  have hf1 : w.frozen? ⟨rb, 1, none⟩ = false := by simp [World.frozen?, hblk]
  obtain ⟨a, b, o, c, rfl, ⟨hlc, hcb⟩, ha, HC⟩ := hv.shape
  have hg0 : Grew w0 (w.setCell ⟨rb, 1, none⟩ (.int .i64 ((p : Int) + 1))) := Below.setCell hg hbase _
  have hblk' : (w.setCell ⟨rb, 1, none⟩ (.int .i64 ((p : Int) + 1))).heap[rb]? = some (.cells #[.slice a bs.length c, .int .i64 ((p : Int) + 1)] 54 (0, 0)) := by
    rw [heap_setCell_same w rb 1 _ _ _ hblk]; rfl
  have HR : Hid (Rdr w0 (w.setCell ⟨rb, 1, none⟩ (.int .i64 ((p : Int) + 1))) rb (p + 1) ∧ Within rb (rb + 1) w (w.setCell ⟨rb, 1, none⟩ (.int .i64 ((p : Int) + 1)))) :=
    ⟨⟨hbase, hg0, _, bs, hblk', hv, hb, hbl⟩, (Within.refl _ _ _).setCell (p := ⟨rb, 1, none⟩) (Nat.le_refl _) (Nat.lt_succ_self _) _⟩
  have HG := Lib.hid hg0
  have HB := Lib.hid hb
  clear hblk hblk' hv hb hg hg0
  by_cases h1 : n < 1
  · clear ha
    go_enter Try.func42, Try.ntmps42
    go_wp2
    go_ret
    exact ⟨0, rfl, by omega, .inr ⟨h1, rfl⟩, HR.out⟩
  · by_cases h0 : bs.length = 0
    · have h0' : ((bs.length : Int) == 0) = true := by simp [h0]
      clear h0 ha
      go_enter Try.func42, Try.ntmps42
      go_wp2
      go_ret
      exact ⟨0, rfl, by omega, .inl (by omega), HR.out⟩
    · have h0' : ((bs.length : Int) == 0) = false := beq_eq_false_iff_ne.2 (by omega)
      obtain rfl := ha (by omega)
      clear ha
      by_cases hlt : p < bs.length
      · have hcp := HG.out.cell (HC.out p hlt)
        have hbp := HB.out p hlt
        obtain ⟨x, ex⟩ : ∃ x, bs.getD p 0 = x := ⟨_, rfl⟩
        rw [ex] at hcp hbp
        clear ex
        go_enter Try.func42, Try.ntmps42
        go_wp2
        go_ret
        exact ⟨x % n, rfl, Int.emod_nonneg _ (by omega), .inl (Int.emod_lt_of_pos _ (by omega)), HR.out⟩
      · go_enter Try.func42, Try.ntmps42
        go_wp2
        obtain ⟨i1, e1⟩ : ∃ i1, p % bs.length = i1 := ⟨_, rfl⟩
        obtain ⟨i2, e2⟩ : ∃ i2, (p * 7 + 3) % bs.length = i2 := ⟨_, rfl⟩
        have hi1 : i1 < bs.length := by rw [← e1]; exact Nat.mod_lt _ (by omega)
        have hi2 : i2 < bs.length := by rw [← e2]; exact Nat.mod_lt _ (by omega)
        have t1 : (p : Int).tmod bs.length = (i1 : Int) := by rw [← e1]; exact (Int.ofNat_tmod _ _).symm
        have t2 : ((p : Int) * 7 + 3).tmod bs.length = (i2 : Int) := by
          rw [← e2]
          exact (Int.ofNat_tmod (p * 7 + 3) _).symm
        obtain ⟨x1, ex1⟩ : ∃ x, bs.getD i1 0 = x := ⟨_, rfl⟩
        obtain ⟨x2, ex2⟩ : ∃ x, bs.getD i2 0 = x := ⟨_, rfl⟩
        have hcp := HG.out.cell (HC.out i1 hi1)
        have hcq := HG.out.cell (HC.out i2 hi2)
        have hb1 := HB.out i1 hi1
        have hb2 := HB.out i2 hi2
        rw [ex1] at hcp hb1
        rw [ex2] at hcq hb2
        have r1 : (i1 : Int) < bs.length := by omega
        have r2 : (i2 : Int) < bs.length := by omega
        have r3 : (0 : Int) ≤ i1 := by omega
        have r4 : (0 : Int) ≤ i2 := by omega
        obtain ⟨q, eq⟩ : ∃ q, (p : Int) / bs.length = q := ⟨_, rfl⟩
        have hq0 : 0 ≤ q := by rw [← eq]; exact Int.ediv_nonneg (by omega) (by omega)
        have hq1 : q ≤ 100000 := by rw [← eq]; exact Int.le_trans (Int.ediv_le_self _ (by omega)) (by omega)
        obtain ⟨X, eX⟩ : ∃ X, x1 * 131 + x2 * 1117 + ↑p * 29 + q * 53 = X := ⟨_, rfl⟩
        have hX0 : 0 ≤ X := by omega
        have hX1 : X < 4294967296 := by omega
        obtain ⟨Y, eY, hY0, hY1⟩ := xor_i64_some X (X / 64) ⟨hX0, hX1⟩ ⟨by omega, by omega⟩
        have HX := Lib.hid eX
        clear e1 e2 ex1 ex2 eX
        go_quiet (fail)
        rw [HX.out]
        clear t1 t2 r1 r2 r3 r4 hcp hcq eq hq0 hq1 hb1 hb2 h0' hc0 hc1 hf1
        go_wp2
        go_ret
        exact ⟨Y % n, rfl, Int.emod_nonneg _ (by omega), .inl (Int.emod_lt_of_pos _ (by omega)), ⟨HR.out.1.base, HR.out.1.grew.drewN _, HR.out.1.blk⟩, HR.out.2.trans ((Grew.refl _).drewN _ |>.within _ _)⟩

theorem Rdr.within {w0 w w' : World} {rb p lo hi : Nat} (h : Rdr w0 w rb p) (hw : Within lo hi w w') (hd : rb < lo) : Rdr w0 w' rb p := by
  obtain ⟨v, bs, h1, h2, h3, h4⟩ := h.blk
  exact ⟨h.base, Below.trans h.grew ⟨hw.os, hw.tape, hw.output, hw.size, fun k hk => hw.block k (Nat.lt_of_lt_of_le hk h.grew.size) (.inl (by have := h.base; omega))⟩, v, bs,
    (hw.block rb (Array.getElem?_eq_some_iff.1 h1).1 (.inl hd)).trans h1, h2, h3, h4⟩
theorem Rdr.later {w0 w w' : World} {rb p : Nat} (h : Rdr w0 w rb p) (hw : Grew w w') : Rdr w0 w' rb p := by
  obtain ⟨v, bs, h1, h2, h3, h4⟩ := h.blk
  exact ⟨h.base, h.grew.trans hw, v, bs, (hw.block (Array.getElem?_eq_some_iff.1 h1).1).trans h1, h2, h3, h4⟩
theorem Rdr.lt {w0 w : World} {rb p : Nat} (h : Rdr w0 w rb p) : rb < w.heap.size := by
  obtain ⟨v, bs, h1, h2, h3, h4⟩ := h.blk
  exact (Array.getElem?_eq_some_iff.1 h1).1

set_option maxRecDepth 100000 in
set_option maxHeartbeats 1000000 in
theorem one_any (w0 w : World) (rb p hi : Nat) (v : Value) (xs : List Int) (hr : Rdr w0 w rb p) (hp : p ≤ 100000) (hx : IntsO 3 (rb + 1) hi w v xs) (h1 : 1 ≤ xs.length) (h2 : xs.length ≤ 1000) :
    Calls Try.prog 41 #[.pointer (some ⟨rb, 0, none⟩), v] w fun e w' => ∃ x : Int, x ∈ xs ∧ e = .returned (.int .i64 x) ∧ Rdr w0 w' rb (p + 1) ∧ Within rb (rb + 1) w w' := by
  rcases hx.shape with ⟨rfl, rfl⟩ | ⟨g, c, rfl, _, _, hlc, hcm⟩
  · simp at h1
  unfold maxLen at hcm
  have HP := Lib.hid (pick_any w0 w rb p xs.length hr hp (by omega))
  have HXX := Lib.hid hx
  clear hx hr
  go_enter Try.func41, Try.ntmps41
  go_wp2_with (fail)
  refine HP.out.mono ?_
  rintro e w' ⟨m, rfl, hm0, hm1, hr', hw⟩
  obtain ⟨m, rfl⟩ := Int.eq_ofNat_of_zero_le hm0
  have hm : m < xs.length := by omega
  obtain ⟨_, b, o, _, e, _, hc⟩ := (HXX.out.within hw (.inr (Nat.le_refl _))).toV
  cases e
  have hcm := (hc m hm).2
  have hao := (hc 0 (by omega)).1
  cases hao
  obtain ⟨x, ex⟩ : ∃ x, xs.getD m 0 = x := ⟨_, rfl⟩
  rw [ex] at hcm
  rw [Nat.zero_add] at hcm
  have HE : Hid (x ∈ xs) := by
    have : xs.getD m 0 = xs[m] := by simp [hm]
    rw [← ex, this]; exact List.getElem_mem hm
  have HQ := Lib.hid (And.intro hr' hw)
  clear ex hc hr' hw hm1
  go_wp2
  go_ret
  exact ⟨x, HE.out, rfl, HQ.out⟩
end Go.Proofs.Ythljmolkicfdaaa

/- The contracts of spec.goodGrid. -/
namespace Go.Proofs.Ythljmolkicfdaaa
open Go.RowKit

theorem Try.infoInt : (Try.prog.info? 3).map (fun i => (i.zero, i.size, i.bytes)) = some (some (.int .i64 0), 1, 8) := by kernel_rfl
theorem Try.infoInts : (Try.prog.info? 23).map (fun i => (i.zero, i.size, i.bytes)) = some (some (.slice none 0 0), 1, 24) := by kernel_rfl

/-- Every row has m numbers in 0 .. 12. -/
def RowsOk (m : Nat) (H : List (List Int)) : Prop := ∀ r, r < H.length → (H.getD r []).length = m ∧ ∀ x ∈ H.getD r [], 0 ≤ x ∧ x ≤ 12
theorem rowsOk_snoc {m : Nat} {H : List (List Int)} {xs : List Int} (h : RowsOk m H) (hl : xs.length = m) (hx : ∀ x ∈ xs, 0 ≤ x ∧ x ≤ 12) : RowsOk m (H ++ [xs]) := by
  intro r hr
  rw [List.length_append, List.length_singleton] at hr
  by_cases hlt : r < H.length
  · rw [getD_append_l _ _ _ _ hlt]; exact h r hlt
  · obtain rfl : r = H.length := by omega
    rw [getD_append_r]; exact ⟨hl, hx⟩
def GoodPost (w0 w : World) (rb p : Nat) (e : Ending) (w' : World) : Prop :=
  ∃ v H n m q, e = .returned v ∧ RowsO 23 3 w.heap.size w'.heap.size w' v H ∧ (1 ≤ n ∧ n ≤ 5 ∧ 1 ≤ m ∧ m ≤ 5 ∧ H.length = n ∧ RowsOk m H) ∧ Rdr w0 w' rb q ∧ q ≤ p + 200 ∧ Within rb (rb + 1) w w'

theorem mem_set_of {α : Type} {l : List α} {i : Nat} {a x : α} (h : x ∈ l.set i a) : x ∈ l ∨ x = a := List.mem_or_eq_of_mem_set h

/-- One round's store. -/
theorem draw_set {w0 wr w5 : World} (w : World) (rb : Nat) {p q'' b i j M g gr cr n c : Nat} {H'' : List (List Int)} {row : List Int} {x : Int}
    (hO : RowsO 23 3 w.heap.size wr.heap.size wr.drew (.slice (some ⟨g, 0, none⟩) n c) H'') (hn : H''.length = n) (hok : RowsOk M H'') (hW : Within rb (rb + 1) w wr)
    (hr5 : Rdr w0 w5 rb p) (hw5 : Within rb (rb + 1) wr.drew w5) (hlt : rb < w.heap.size) (_hgl : w.heap.size ≤ g) (hi : i < n) (hE : H''.getD i [] = row) (hlo : w.heap.size ≤ gr) (_hhi : gr < wr.heap.size) (_hj : j < row.length)
    (hcu : wr.cell? ⟨g, i, none⟩ = some (.slice (some ⟨gr, 0, none⟩) row.length cr)) (hx0 : 0 ≤ x) (hx1 : x ≤ 12) (hb : q'' ≤ b) :
    Hid (RowsO 23 3 w.heap.size (w5.setCell ⟨gr, j, none⟩ (.int .i64 x)).heap.size (w5.setCell ⟨gr, j, none⟩ (.int .i64 x)) (.slice (some ⟨g, 0, none⟩) n c) (H''.set i (row.set j x)) ∧ (H''.set i (row.set j x)).length = n ∧
      RowsOk M (H''.set i (row.set j x)) ∧ Rdr w0 (w5.setCell ⟨gr, j, none⟩ (.int .i64 x)) rb p ∧ q'' ≤ b ∧ Within rb (rb + 1) w (w5.setCell ⟨gr, j, none⟩ (.int .i64 x))) := by
  have h5 := (hO.within hw5 (.inr (by omega))).wide (Nat.le_refl _) hw5.size
  have hs : (w5.setCell ⟨gr, j, none⟩ (.int .i64 x)).heap.size = w5.heap.size := by simp [World.setCell]
  have hset := h5.set (by decide) rfl (by omega) (hw5.cell (a := wr.drew) hcu (.inr (by show rb + 1 ≤ g; omega))) j x
  rw [hE] at hset
  have hWs : Within gr (gr + 1) w5 (w5.setCell ⟨gr, j, none⟩ (.int .i64 x)) := (Within.refl _ _ _).setCell (p := ⟨gr, j, none⟩) (Nat.le_refl _) (Nat.lt_succ_self _) _
  refine ⟨by rw [hs]; exact hset, by rw [List.length_set]; exact hn, ?_, hr5.within hWs (by omega), hb, (hW.trans (((Grew.refl wr).drew.within _ _).trans hw5)).after hWs hlo⟩
  intro r hr
  rw [List.length_set] at hr
  by_cases e : r = i
  · subst e
    rw [List.getD_eq_getElem?_getD, List.getElem?_set_self hr, Option.getD_some, List.length_set]
    have := hok r hr
    rw [hE] at this
    refine ⟨this.1, fun z hz => ?_⟩
    rcases mem_set_of hz with h | rfl
    · exact this.2 z h
    · exact ⟨hx0, hx1⟩
  · rw [List.getD_eq_getElem?_getD, List.getElem?_set_ne (by omega), ← List.getD_eq_getElem?_getD]
    exact hok r hr

end Go.Proofs.Ythljmolkicfdaaa

/- The contracts of spec.someGrid and of the draws of grids. -/
namespace Go.Proofs.Ythljmolkicfdaaa
open Go.RowKit

/-- At most six rows of one to five numbers in -1 .. 13. -/
def Drawn (H : List (List Int)) : Prop := H.length ≤ 6 ∧ (∀ r, r < H.length → (H.getD r []).length ≤ 5 ∧ ∀ x ∈ H.getD r [], -1 ≤ x ∧ x ≤ 13) ∧ ∀ r, r < H.length → 1 ≤ (H.getD r []).length
def SomePost (w0 w : World) (rb p : Nat) (e : Ending) (w' : World) : Prop :=
  ∃ v H q, e = .returned v ∧ RowsO 23 3 w.heap.size w'.heap.size w' v H ∧ Drawn H ∧ Rdr w0 w' rb q ∧ q ≤ p + 300 ∧ Within rb (rb + 1) w w'
theorem Drawn.ok {m : Nat} {H : List (List Int)} (h : RowsOk m H) (h1 : 1 ≤ m) (hm : m ≤ 5) (hn : H.length ≤ 5) : Drawn H :=
  ⟨by omega, fun r hr => ⟨by have := (h r hr).1; omega, fun x hx => by have := (h r hr).2 x hx; omega⟩, fun r hr => by have := (h r hr).1; omega⟩
theorem Drawn.snoc {H : List (List Int)} {xs : List Int} (h : Drawn H) (hn : H.length ≤ 5) (hl1 : 1 ≤ xs.length) (hl : xs.length ≤ 5) (hx : ∀ x ∈ xs, -1 ≤ x ∧ x ≤ 13) : Drawn (H ++ [xs]) := by
  refine ⟨by simp; omega, fun r hr => ?_, fun r hr => ?_⟩
  all_goals
    rw [List.length_append, List.length_singleton] at hr
    by_cases hlt : r < H.length
    · rw [getD_append_l _ _ _ _ hlt]; first | exact h.2.1 r hlt | exact h.2.2 r hlt
    · obtain rfl : r = H.length := by omega
      rw [getD_append_r]; first | exact ⟨hl, hx⟩ | exact hl1
theorem Drawn.set {H : List (List Int)} (h : Drawn H) (i j : Nat) (x : Int) (hi : i < H.length) (hx : -1 ≤ x ∧ x ≤ 13) : Drawn (H.set i ((H.getD i []).set j x)) := by
  refine ⟨by rw [List.length_set]; exact h.1, fun r hr => ?_, fun r hr => ?_⟩
  · rw [List.length_set] at hr
    by_cases e : r = i
    · subst e
      rw [List.getD_eq_getElem?_getD, List.getElem?_set_self hr, Option.getD_some, List.length_set]
      refine ⟨(h.2.1 r hr).1, fun z hz => ?_⟩
      rcases mem_set_of hz with h' | rfl
      · exact (h.2.1 r hr).2 z h'
      · exact hx
    · rw [List.getD_eq_getElem?_getD, List.getElem?_set_ne (by omega), ← List.getD_eq_getElem?_getD]
      exact h.2.1 r hr
  · rw [List.length_set] at hr
    by_cases e : r = i
    · subst e
      rw [List.getD_eq_getElem?_getD, List.getElem?_set_self hr, Option.getD_some, List.length_set]
      exact h.2.2 r hr
    · rw [List.getD_eq_getElem?_getD, List.getElem?_set_ne (by omega), ← List.getD_eq_getElem?_getD]
      exact h.2.2 r hr

theorem some_set {w0 w2 wa w5 : World} {o : Obj} (e0 : wa = (w2.alloc o).drew) (w : World) (rb : Nat) {p p0 g gr cr c n : Nat} {H : List (List Int)} {x : Int}
    (hO : RowsO 23 3 w.heap.size w2.heap.size w2 (.slice (some ⟨g, 0, none⟩) H.length c) H) (hok : Drawn H) (hW : Within rb (rb + 1) w w2)
    (hr5 : Rdr w0 w5 rb p) (hw5 : Within rb (rb + 1) wa w5) (hlt : rb < w.heap.size) (hgl : w.heap.size ≤ g) (hi : 0 < H.length) (hlo : w.heap.size ≤ gr)
    (hcu : w2.cell? ⟨g, 0, none⟩ = some (.slice (some ⟨gr, 0, none⟩) n cr)) (hx : -1 ≤ x ∧ x ≤ 13) (hb : p ≤ p0 + 300) :
    SomePost w0 w rb p0 (.returned (.slice (some ⟨g, 0, none⟩) H.length c)) (w5.setCell ⟨gr, 0, none⟩ (.int .i64 x)) := by
  subst e0
  have ga : Grew w2 (w2.alloc o).drew := ((Grew.refl w2).alloc o).drew
  have h5 := (((hO.grew ga).within hw5 (.inr (by omega))).wide (Nat.le_refl _) (Nat.le_trans ga.size hw5.size))
  have hs : (w5.setCell ⟨gr, 0, none⟩ (.int .i64 x)).heap.size = w5.heap.size := by simp [World.setCell]
  have hset := h5.set (by decide) rfl hi (hw5.cell (ga.cell hcu) (.inr (by show rb + 1 ≤ g; omega))) 0 x
  have hWs : Within gr (gr + 1) w5 (w5.setCell ⟨gr, 0, none⟩ (.int .i64 x)) := (Within.refl _ _ _).setCell (p := ⟨gr, 0, none⟩) (Nat.le_refl _) (Nat.lt_succ_self _) _
  exact ⟨_, _, p, rfl, by rw [hs]; exact hset, hok.set 0 0 x hi hx, hr5.within hWs (by omega), hb, (hW.trans ((ga.within _ _).trans hw5)).after hWs hlo⟩

end Go.Proofs.Ythljmolkicfdaaa
