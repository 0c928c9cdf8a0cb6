/- Blocks: the contracts of impl.blocksOf, sumOf over blocks, together, block.mean. -/
import Derived.Test.YtlifjhhjkcmneaaFrac2
import Derived.Test.YtlifjhhjkcmneaaRiseM
import Derived.Test.YtlifjhhjkcmneaaProf
import Derived.Shelf.Abstract
namespace Go.Proofs.Ytlifjhhjkcmneaa
open Go.RowKit

theorem Try.infoBlk : (Try.prog.info? 56).map (fun i => (i.zero, i.size, i.bytes)) = some (some (.agg #[.int .i64 0, .int .i64 0]), 2, 16) := by kernel_rfl
theorem Try.infoFrac : (Try.prog.info? 29).map (fun i => (i.zero, i.size, i.bytes)) = some (some (.agg #[.int .i64 0, .int .i64 0]), 2, 16) := by kernel_rfl
/-- A block for each number. -/
def blkL (xs : List Int) : List (Int × Int) := xs.map fun x => (x, 1)
theorem blkL_len (xs : List Int) : (blkL xs).length = xs.length := by simp [blkL]
theorem blkL_snoc (xs : List Int) (k : Nat) (h : k < xs.length) : blkL (xs.take (k + 1)) = blkL (xs.take k) ++ [(xs.getD k 0, 1)] := by
  unfold blkL
  rw [List.take_succ_eq_append_getElem h, List.map_append]
  simp [h]

set_option maxRecDepth 100000 in
set_option maxHeartbeats 2000000 in
theorem blocksOf_any (v : Value) (xs : List Int) (w : World) (hv : IntsV w v xs) (hl : xs.length ≤ 1000) :
    Calls Try.prog 55 #[v] w fun e w' => ∃ a c, e = .returned (.slice a xs.length c) ∧ FrO 56 w.heap.size w'.heap.size w' (.slice a xs.length c) (blkL xs) ∧ Grew w w' := by
  obtain ⟨a, b, o, c, rfl, ⟨hlc, hcb⟩, ha, HC⟩ := hv.shape
  have HA := Lib.hid ha
  clear hv ha
  go_enter Try.func55, Try.ntmps55
  go_wp2
  go_loopw [3, 8] (fun v i wr => ∃ (k : Nat) (sa : Option Addr) (sc : Nat), v = .slice sa k sc ∧ i = .int .i64 k ∧ k ≤ xs.length ∧ Hid (FrO 56 w.heap.size wr.heap.size wr v (blkL (xs.take k)) ∧ Grew w wr)) (fun _ i _ => xs.length - (intOf i).toNat)
  case atStart => exact ⟨0, none, 0, rfl, rfl, Nat.zero_le _, FrO.nil _ _ _ _, Grew.refl _⟩
  case round =>
    obtain ⟨k, sa, sc, rfl, rfl, hk, HI⟩ := hrel
    by_cases hlt : k < xs.length
    · obtain rfl := HA.out (by omega)
      have hc := HI.out.2.cell (HC.out k hlt)
      have hst := blkL_snoc xs k hlt
      have hln : (blkL (xs.take k)).length = k := by rw [blkL_len]; simp; omega
      obtain ⟨x, ex⟩ : ∃ x, xs.getD k 0 = x := ⟨_, rfl⟩
      rw [ex] at hc hst
      obtain ⟨X, hX⟩ : ∃ X, blkL (xs.take k) = X := ⟨_, rfl⟩
      rw [hX] at hst hln
      have HST := Lib.hid (And.intro hst hln)
      have HO : Hid (FrO 56 w.heap.size wr.heap.size wr (.slice sa k sc) X) := by rw [← hX]; exact HI.out.1
      have hsz := HI.out.2.size
      clear ex hX hst hln
      go_wp2_with (at_builtin; refine wpList_append_fr rfl (.tmp 12) (.tmp 15) 53 rfl Try.underlying53 Try.infoBlk rfl rfl rfl HO.out (by rw [HST.out.2]; omega) hsz ?_; rw [HST.out.2]; intro g5 c5 w5 hO5 hW5 hS5)
      have HF : Hid (FrO 56 w.heap.size w5.heap.size w5 (.slice (some ⟨g5, 0, none⟩) (k + 1) c5) (blkL (xs.take (k + 1))) ∧ Grew w w5) := by
        rw [HST.out.1]; exact ⟨hO5, Within.grew HI.out.2 hW5 (Nat.le_refl _)⟩
      clear hO5 hW5 hS5
      go_wp2
      go_roundw
      case rel => exact ⟨k + 1, some ⟨g5, 0, none⟩, c5, rfl, by go_num, by omega, HF.out⟩
      case measure => simp [intOf]; omega
    · obtain rfl : k = xs.length := by omega
      have HF : Hid (FrO 56 w.heap.size wr.heap.size wr (.slice sa xs.length sc) (blkL xs) ∧ Grew w wr) := by
        have h := HI.out
        rw [List.take_of_length_le (Nat.le_refl _)] at h
        exact h
      clear HI
      go_wp2
      go_ret
      exact ⟨_, _, rfl, HF.out⟩

/-- A function value that gives f of the pairs, in new memory at most. -/
def GivesP (fk : Nat) (f : Int × Int → Int) : Prop := ∀ (e : Int × Int) (W : World), Calls Try.prog fk #[frV e] W fun e' w' => e' = .returned (.int .i64 (f e)) ∧ Grew W w'
set_option maxRecDepth 100000 in
set_option maxHeartbeats 2000000 in
theorem sumOfB_any (fk : Nat) (eg : ∀ (args : Array Value) (w : World), (callFunc fk args).run Try.prog w = .ok (.enter fk args) w) (f : Int × Int → Int)
    (v : Value) (q : List (Int × Int)) (w : World) (hv : FrV w v q) (hl : q.length ≤ 1000) (hC : GivesP fk f) (hb : ∀ i, i < q.length → -1000 ≤ f (q.getD i (0, 0)) ∧ f (q.getD i (0, 0)) ≤ 1000) :
    Calls Try.prog 86 #[.func (.func fk) #[] #[], v] w fun e w' => e = .returned (.int .i64 (sumTo (fun i => f (q.getD i (0, 0))) q.length)) ∧ Grew w w' := by
  obtain ⟨a, b, o, c, rfl, ⟨hlc, hcb⟩, ha, HC⟩ := hv.shape
  have HA := Lib.hid ha
  have HB := Lib.hid hb
  have HF := Lib.hid hC
  clear hv ha hb hC
  go_enter Try.func86, Try.ntmps86
  go_wp2
  go_loopw [5, 10] (fun s i wr => ∃ (k : Nat) (n : Int), k ≤ q.length ∧ i = .int .i64 k ∧ s = .int .i64 n ∧ -1000 * (k : Int) ≤ n ∧ n ≤ 1000 * (k : Int) ∧ Hid (n = sumTo (fun i => f (q.getD i (0, 0))) k ∧ Grew w wr)) (fun _ i _ => q.length - (intOf i).toNat)
  case atStart => exact ⟨0, 0, Nat.zero_le _, rfl, rfl, by omega, by omega, rfl, Grew.refl _⟩
  case round =>
    obtain ⟨k, n, hk, rfl, rfl, hn0, hn1, HI⟩ := hrel
    by_cases hlt : k < q.length
    · obtain rfl := HA.out (by omega)
      have hc1 := HI.out.2.cell (HC.out k hlt).1
      have hc2 := HI.out.2.cell (HC.out k hlt).2
      have hx := HB.out k hlt
      obtain ⟨e, ee⟩ : ∃ e, q.getD k (0, 0) = e := ⟨_, rfl⟩
      rw [ee] at hc1 hc2 hx
      have HX := Lib.hid ee
      obtain ⟨y, ey⟩ : ∃ y, f e = y := ⟨_, rfl⟩
      rw [ey] at hx
      have HY := Lib.hid ey
      have HCK : Hid (∀ W, Calls Try.prog fk #[.agg #[.int .i64 e.1, .int .i64 e.2]] W fun e' w' => e' = .returned (.int .i64 y) ∧ Grew W w') := fun W => by
        have := HF.out e W
        rw [ey] at this
        exact this
      clear ee ey
      go_wp2_with (fail)
      refine (HCK.out _).mono ?_
      rintro e9 w2 ⟨rfl, hg2⟩
      have HQ : Hid (Grew w w2) := HI.out.2.trans (((Grew.refl wr).alloc _).trans hg2)
      clear hg2
      go_wp2
      go_roundw
      case rel => exact ⟨k + 1, n + y, by omega, by go_num, rfl, by omega, by omega, by rw [sumTo, ← HI.out.1, HX.out, HY.out], HQ.out⟩
      case measure => simp [intOf]; omega
    · obtain rfl : k = q.length := by omega
      go_wp2
      go_ret
      exact ⟨ret_int HI.out.1, HI.out.2⟩
set_option maxRecDepth 100000 in
theorem blkSum_any : GivesP 87 (fun e => e.1) := fun e W => by
  obtain ⟨x, y⟩ := e
  unfold frV
  have hG : Hid (Grew W (W.alloc (.cells #[.int .i64 x, .int .i64 y] 56))) := (Grew.refl _).alloc _
  go_enter Try.func87, Try.ntmps87
  go_wp2
  go_ret
  exact ⟨rfl, hG.out⟩
set_option maxRecDepth 100000 in
theorem blkPlaces_any : GivesP 88 (fun e => e.2) := fun e W => by
  obtain ⟨x, y⟩ := e
  unfold frV
  have hG : Hid (Grew W (W.alloc (.cells #[.int .i64 x, .int .i64 y] 56))) := (Grew.refl _).alloc _
  go_enter Try.func88, Try.ntmps88
  go_wp2
  go_ret
  exact ⟨rfl, hG.out⟩
/-- What blocks are together. -/
def sumB (q : List (Int × Int)) : Int × Int := (sumTo (fun i => (q.getD i (0, 0)).1) q.length, sumTo (fun i => (q.getD i (0, 0)).2) q.length)
set_option maxRecDepth 100000 in
set_option maxHeartbeats 2000000 in
theorem together_any (v : Value) (q : List (Int × Int)) (w : World) (hv : FrV w v q) (hl : q.length ≤ 1000) (hb : ∀ i, i < q.length → (0 ≤ (q.getD i (0, 0)).1 ∧ (q.getD i (0, 0)).1 ≤ 1000) ∧ 0 ≤ (q.getD i (0, 0)).2 ∧ (q.getD i (0, 0)).2 ≤ 1000) :
    Calls Try.prog 57 #[v] w fun e w' => e = .returned (frV (sumB q)) ∧ Grew w w' := by
  have H1 := Lib.hid fun W (hW : Grew w W) => sumOfB_any 87 (fun _ _ => rfl) (fun e => e.1) v q W (hv.grew hW) hl blkSum_any (fun i hi => by have := (hb i hi).1; omega)
  have H2 := Lib.hid fun W (hW : Grew w W) => sumOfB_any 88 (fun _ _ => rfl) (fun e => e.2) v q W (hv.grew hW) hl blkPlaces_any (fun i hi => by have := (hb i hi).2; omega)
  obtain ⟨a, b, o, c, rfl, _, _, _⟩ := hv.shape
  unfold sumB frV
  obtain ⟨s, es⟩ : ∃ s, sumTo (fun i => (q.getD i (0, 0)).1) q.length = s := ⟨_, rfl⟩
  obtain ⟨t, et⟩ : ∃ t, sumTo (fun i => (q.getD i (0, 0)).2) q.length = t := ⟨_, rfl⟩
  rw [es] at H1 ⊢
  rw [et] at H2 ⊢
  clear hv hb es et
  go_enter Try.func57, Try.ntmps57
  go_wp2_with (fail)
  refine (H1.out _ ((Grew.refl w).alloc _)).mono ?_
  rintro e w2 ⟨rfl, hg2⟩
  have HG2 : Hid (Grew (w.alloc (.cells #[.int .i64 0, .int .i64 0] 56)) w2) := hg2
  clear hg2
  go_wp2_with (fail)
  refine (H2.out _ (((Grew.refl w).alloc _).trans HG2.out)).mono ?_
  rintro e w3 ⟨rfl, hg3⟩
  have hgg := HG2.out.trans hg3
  have hB3 : w3.heap[w.heap.size]? = some (.cells #[.int .i64 0, .int .i64 0] 56 (0, 0)) := by rw [hgg.block (by simp)]; exact heap_alloc_new w _
  have hz0 : w3.cell? ⟨w.heap.size, 0, none⟩ = some (.int .i64 0) := by simp [World.cell?, hB3]
  have hz1 : w3.cell? ⟨w.heap.size, 1, none⟩ = some (.int .i64 0) := by simp [World.cell?, hB3]
  have hf0 : w3.frozen? ⟨w.heap.size, 0, none⟩ = false := by simp [World.frozen?, hB3]
  have hf1 : w3.frozen? ⟨w.heap.size, 1, none⟩ = false := by simp [World.frozen?, hB3]
  have HG3 : Hid (Grew w w3) := ((Grew.refl w).alloc _).trans hgg
  have HB3 := Lib.hid hB3
  clear hg3 hgg hB3
  go_wp2
  exact bodyPost_ret (v := .agg #[.int .i64 s, .int .i64 t]) (results_cell_row (P := Try.prog) rfl _ _ w.heap.size 56 _ (0, 0) _ rfl (two_heapF HB3.out) Try.underlying56 rfl (by kernel_rfl)) rfl ⟨rfl, two_grewF (Nat.le_refl _) HG3.out⟩
set_option maxRecDepth 100000 in
set_option maxHeartbeats 2000000 in
theorem mean_any (s t : Nat) (w : World) (hs : s ≤ 1000000) (ht : t ≤ 1000000) (ht1 : 1 ≤ t) :
    Calls Try.prog 59 #[frV ((s : Int), (t : Int))] w fun e w' => e = .returned (frV (frL s t)) ∧ Grew w w' := by
  have HL := Lib.hid (fun W => fracOf_any s t W (by omega) (by omega) ht1)
  obtain ⟨F, eF⟩ : ∃ F, frL s t = F := ⟨_, rfl⟩
  rw [eF] at HL ⊢
  obtain ⟨f1, f2⟩ := F
  clear eF
  unfold frV at HL ⊢
  go_enter Try.func59, Try.ntmps59
  go_wp2_with (fail)
  refine (HL.out _).mono ?_
  rintro e w3 ⟨rfl, hg3⟩
  have hB3 : w3.heap[w.heap.size + 1]? = some (.cells #[.int .i64 0, .int .i64 0] 29 (0, 0)) := by
    rw [hg3.block (by simp)]
    have := heap_alloc_new (w.alloc (.cells #[.int .i64 s, .int .i64 t] 56)) (.cells #[.int .i64 0, .int .i64 0] 29)
    simpa using this
  have hz0 : w3.cell? ⟨w.heap.size + 1, 0, none⟩ = some (.int .i64 0) := by simp [World.cell?, hB3]
  have hz1 : w3.cell? ⟨w.heap.size + 1, 1, none⟩ = some (.int .i64 0) := by simp [World.cell?, hB3]
  have hf0 : w3.frozen? ⟨w.heap.size + 1, 0, none⟩ = false := by simp [World.frozen?, hB3]
  have hf1 : w3.frozen? ⟨w.heap.size + 1, 1, none⟩ = false := by simp [World.frozen?, hB3]
  have HG3 : Hid (Grew w w3) := (((Grew.refl w).alloc _).alloc _).trans hg3
  have HB3 := Lib.hid hB3
  clear hg3 hB3
  go_wp2
  exact bodyPost_ret (v := .agg #[.int .i64 f1, .int .i64 f2]) (results_cell_row (P := Try.prog) rfl _ _ (w.heap.size + 1) 29 _ (0, 0) _ rfl (two_heapF HB3.out) Try.underlying29 rfl (by kernel_rfl)) rfl ⟨rfl, two_grewF (by omega) HG3.out⟩
end Go.Proofs.Ytlifjhhjkcmneaa
