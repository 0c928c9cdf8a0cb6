/- The contract of (*impl.quadReader).read. -/
import Derived.Test.YtlfoimjohdaofaaDoorTake
import Derived.Test.YtlfoimjohdaofaaDoorSetTo
import Derived.Test.YtlfoimjohdaofaaDoorStepAppend
import Derived.Deep.AppendLies
import Derived.Test.YtlfoimjohdaofaaDoorHeldMono
namespace Go.Proofs.YtlfoimjohdaofaaDoor
open Go.RowKit

theorem QR.within {B : Nat} {lo hi : Nat} {w w' : World} {hv lv : Value} {num : Int} (h : QR B w hv lv num) (hg : Within lo hi w w') (hB : B < lo ∨ hi ≤ B) : QR B w' hv lv num := by
  obtain ⟨c0, c1, c2, f0, f1, f2⟩ := h
  exact ⟨hg.cell c0 hB, hg.cell c1 hB, hg.cell c2 hB, hg.frozen c0 f0 hB, hg.frozen c1 f1 hB, hg.frozen c2 f2 hB⟩
theorem QR.setNum {B : Nat} {w : World} {hv lv : Value} {num : Int} (h : QR B w hv lv num) (x : Int) : QR B (w.setCell ⟨B, 2, none⟩ (.int .i64 x)) hv lv x := by
  obtain ⟨c0, c1, c2, f0, f1, f2⟩ := h
  exact ⟨(World.cell?_setCell_other _ _ _ _ (by simp)).trans c0, (World.cell?_setCell_other _ _ _ _ (by simp)).trans c1, World.cell?_setCell_same _ _ _ c2, by rw [World.frozen?_setCell]; exact f0, by rw [World.frozen?_setCell]; exact f1, by rw [World.frozen?_setCell]; exact f2⟩
theorem QR.setLeft {B : Nat} {w : World} {hv lv : Value} {num : Int} (h : QR B w hv lv num) (x : Value) : QR B (w.setCell ⟨B, 1, none⟩ x) hv x num := by
  obtain ⟨c0, c1, c2, f0, f1, f2⟩ := h
  exact ⟨(World.cell?_setCell_other _ _ _ _ (by simp)).trans c0, World.cell?_setCell_same _ _ _ c1, (World.cell?_setCell_other _ _ _ _ (by simp)).trans c2, by rw [World.frozen?_setCell]; exact f0, by rw [World.frozen?_setCell]; exact f1, by rw [World.frozen?_setCell]; exact f2⟩
theorem PartsV.setB {lo B k : Nat} {w : World} {v : Value} {q : List (Nat × Nat × Nat × Nat)} (h : PartsV lo B w v q) (x : Value) : PartsV lo B (w.setCell ⟨B, k, none⟩ x) v q :=
  h.keep fun g o y _ hg hc => (World.cell?_setCell_other _ _ _ _ (by first | (simp; done) | (simp; exact fun e => absurd e.symm hg))).trans hc
theorem RowsO.setB {T E lo hi B k : Nat} {w : World} {v : Value} {H : List (List Int)} (h : RowsO T E lo hi w v H) (hB : hi ≤ B) (x : Value) : RowsO T E lo hi (w.setCell ⟨B, k, none⟩ x) v H :=
  h.within (lo' := B) (hi' := B + 1) ((Within.refl _ _ _).setCell (p := ⟨B, k, none⟩) (Nat.le_refl _) (Nat.lt_succ_self _) _) (.inl hB)

set_option maxRecDepth 100000 in
set_option maxHeartbeats 4000000 in
theorem read_digit (B : Nat) (w : World) (hv lv : Value) (num d : Nat) (hnum : num ≤ 12) (hd : d ≤ 9) (hq : QR B w hv lv num) :
    Calls Tryd.prog 46 #[.pointer (some ⟨B, 0, none⟩), .int .i32 ((48 + d : Nat) : Int)] w fun e w' => e = .returned (.bool (decide (10 * num + d ≤ 12))) ∧ w' = w.setCell ⟨B, 2, none⟩ (.int .i64 ((10 * num + d : Nat) : Int)) := by
  have HQ := Lib.hid hq
  obtain ⟨-, -, c2, -, -, f2⟩ := hq
  have n10 : IntKind.i64.wrap (10 * (num : Int)) = 10 * (num : Int) := IntWalk.i64_in _ (by omega)
  have nd : IntKind.i64.wrap (10 * (num : Int) + (d : Int)) = 10 * (num : Int) + (d : Int) := IntWalk.i64_in _ (by omega)
  have hS : (w.setCell ⟨B, 2, none⟩ (.int .i64 (10 * (num : Int) + (d : Int)))).cell? ⟨B, 2, none⟩ = some (.int .i64 (10 * (num : Int) + (d : Int))) := World.cell?_setCell_same _ _ _ c2
  have hE : ((10 * num + d : Nat) : Int) = 10 * (num : Int) + (d : Int) := by omega
  have hD : decide (10 * num + d ≤ 12) = decide (10 * (num : Int) + (d : Int) ≤ 12) := decide_eq_decide.2 (by omega)
  rw [hE, hD]
  have h : d = 0 ∨ d = 1 ∨ d = 2 ∨ d = 3 ∨ d = 4 ∨ d = 5 ∨ d = 6 ∨ d = 7 ∨ d = 8 ∨ d = 9 := by omega
  clear hE hD hd HQ
  rcases h with rfl | rfl | rfl | rfl | rfl | rfl | rfl | rfl | rfl | rfl
  · have e : ((48 + 0 : Nat) : Int) = 48 := rfl
    have e2 : ((0 : Nat) : Int) = 0 := rfl
    rw [e]
    rw [e2] at nd hS ⊢
    clear e e2
    go_enter Tryd.func46, Tryd.ntmps46
    go_wp2
    go_ret
    exact ⟨rfl, rfl⟩
  · have e : ((48 + 1 : Nat) : Int) = 49 := rfl
    have e2 : ((1 : Nat) : Int) = 1 := rfl
    rw [e]
    rw [e2] at nd hS ⊢
    clear e e2
    go_enter Tryd.func46, Tryd.ntmps46
    go_wp2
    go_ret
    exact ⟨rfl, rfl⟩
  · have e : ((48 + 2 : Nat) : Int) = 50 := rfl
    have e2 : ((2 : Nat) : Int) = 2 := rfl
    rw [e]
    rw [e2] at nd hS ⊢
    clear e e2
    go_enter Tryd.func46, Tryd.ntmps46
    go_wp2
    go_ret
    exact ⟨rfl, rfl⟩
  · have e : ((48 + 3 : Nat) : Int) = 51 := rfl
    have e2 : ((3 : Nat) : Int) = 3 := rfl
    rw [e]
    rw [e2] at nd hS ⊢
    clear e e2
    go_enter Tryd.func46, Tryd.ntmps46
    go_wp2
    go_ret
    exact ⟨rfl, rfl⟩
  · have e : ((48 + 4 : Nat) : Int) = 52 := rfl
    have e2 : ((4 : Nat) : Int) = 4 := rfl
    rw [e]
    rw [e2] at nd hS ⊢
    clear e e2
    go_enter Tryd.func46, Tryd.ntmps46
    go_wp2
    go_ret
    exact ⟨rfl, rfl⟩
  · have e : ((48 + 5 : Nat) : Int) = 53 := rfl
    have e2 : ((5 : Nat) : Int) = 5 := rfl
    rw [e]
    rw [e2] at nd hS ⊢
    clear e e2
    go_enter Tryd.func46, Tryd.ntmps46
    go_wp2
    go_ret
    exact ⟨rfl, rfl⟩
  · have e : ((48 + 6 : Nat) : Int) = 54 := rfl
    have e2 : ((6 : Nat) : Int) = 6 := rfl
    rw [e]
    rw [e2] at nd hS ⊢
    clear e e2
    go_enter Tryd.func46, Tryd.ntmps46
    go_wp2
    go_ret
    exact ⟨rfl, rfl⟩
  · have e : ((48 + 7 : Nat) : Int) = 55 := rfl
    have e2 : ((7 : Nat) : Int) = 7 := rfl
    rw [e]
    rw [e2] at nd hS ⊢
    clear e e2
    go_enter Tryd.func46, Tryd.ntmps46
    go_wp2
    go_ret
    exact ⟨rfl, rfl⟩
  · have e : ((48 + 8 : Nat) : Int) = 56 := rfl
    have e2 : ((8 : Nat) : Int) = 8 := rfl
    rw [e]
    rw [e2] at nd hS ⊢
    clear e e2
    go_enter Tryd.func46, Tryd.ntmps46
    go_wp2
    go_ret
    exact ⟨rfl, rfl⟩
  · have e : ((48 + 9 : Nat) : Int) = 57 := rfl
    have e2 : ((9 : Nat) : Int) = 9 := rfl
    rw [e]
    rw [e2] at nd hS ⊢
    clear e e2
    go_enter Tryd.func46, Tryd.ntmps46
    go_wp2
    go_ret
    exact ⟨rfl, rfl⟩

set_option maxRecDepth 100000 in
set_option maxHeartbeats 4000000 in
theorem read_semi (B : Nat) (w : World) (hv lv : Value) (num : Nat) (n m lo hi : Nat) (f : Nat → Nat → Int) (t b l r : Nat) (q : List (Nat × Nat × Nat × Nat)) (hn1 : 1 ≤ n) (hn5 : n ≤ 5) (hm1 : 1 ≤ m) (hm5 : m ≤ 5) (hlo : lo ≤ B) (hB : hi ≤ B) (htb : t ≤ b) (hb : b ≤ n) (hlr : l ≤ r) (hr : r ≤ m) (hq : QR B w hv lv num) (hp : PartsV hi B w lv ((t, b, l, r) :: q)) (hO : RowsO 28 3 lo hi w hv (tabR n m f)) :
    Calls Tryd.prog 46 #[.pointer (some ⟨B, 0, none⟩), .int .i32 59] w fun e w' => e = .returned (.bool true) ∧ ∃ lv', QR B w' hv lv' 0 ∧ PartsV hi B w' lv' q ∧ RowsO 28 3 lo hi w' hv (tabR n m (setP f t b l r num)) ∧ Within lo (B + 1) w w' := by
  have HQ := Lib.hid hq
  have HO := Lib.hid hO
  have HB := Lib.hid (And.intro hlo hB)
  have HT := Lib.hid (take_some hi B w hv lv num t b l r q hq hp)
  have HTB := Lib.hid (And.intro (And.intro htb hb) (And.intro hlr hr))
  have HNM := Lib.hid (And.intro (And.intro hn1 hn5) (And.intro hm1 hm5))
  clear hq hp hO hlo hB hn1 hn5 hm1 hm5 htb hb hlr hr
  go_enter Tryd.func46, Tryd.ntmps46
  go_wp2_with (fail)
  refine HT.out.mono ?_
  rintro e w1 ⟨rfl, lv', hq1, hp1, hw1⟩
  have HQ1 := Lib.hid hq1
  have HP1 := Lib.hid hp1
  have HW1 : Hid (Within lo (B + 1) w w1) := Lib.hid (hw1.wide HB.out.1 (Nat.le_refl _))
  have HO1 : Hid (RowsO 28 3 lo hi w1 hv (tabR n m f)) := Lib.hid (HO.out.within hw1 (.inl HB.out.2))
  have hBs : B < w1.heap.size := World.block_lt_of_cell? _ _ hq1.1
  clear hq1 hp1 hw1 HT
  have HBS := Lib.hid hBs
  obtain ⟨W2, hW2⟩ : ∃ W2, w1.alloc (.cells #[.int .i64 t, .int .i64 b, .int .i64 l, .int .i64 r] 44) = W2 := ⟨_, rfl⟩
  have HG2 : Hid (Grew w1 W2) := Lib.hid (by rw [← hW2]; exact (Grew.refl _).alloc _)
  have HBX : Hid (∀ W, Grew W2 W → W.cell? ⟨w1.heap.size, 0, none⟩ = some (.int .i64 t) ∧ W.cell? ⟨w1.heap.size, 1, none⟩ = some (.int .i64 b) ∧ W.cell? ⟨w1.heap.size, 2, none⟩ = some (.int .i64 l) ∧ W.cell? ⟨w1.heap.size, 3, none⟩ = some (.int .i64 r)) := Lib.hid fun W hW => by
    rw [← hW2] at hW
    exact ⟨hW.cell (by simp), hW.cell (by simp), hW.cell (by simp), hW.cell (by simp)⟩
  have HW2 := Lib.hid hW2
  clear hW2 hBs
  go_wp2_with (fail)
  rw [HW2.out]
  obtain ⟨d0, d1, d2, d3⟩ := HBX.out _ (Grew.refl W2)
  have k0 := HG2.out.cell HQ1.out.1
  have k2 := HG2.out.cell HQ1.out.2.2.1
  go_still_tail 9, (by kernel_rfl)
  change wpList _ _ _ _ _ W2.drew
  clear d0 d1 d2 d3 k0 k2
  have HST := Lib.hid (setTo_any hv n m f t b l r num lo hi W2.drew HNM.out.1.1 HNM.out.1.2 HNM.out.2.1 HNM.out.2.2 (HO1.out.grew HG2.out.drew) (by have := HB.out; have := HBS.out; have := HG2.out.size; simp; omega) HTB.out.1.1 HTB.out.1.2 HTB.out.2.1 HTB.out.2.2)
  generalize hW3 : W2.drew = W3 at HST ⊢
  have HG3 : Hid (Grew w1 W3) := Lib.hid (by rw [← hW3]; exact HG2.out.drew)
  clear hW3
  go_wp2_with (go_at_call 57; refine HST.out.mono ?_; rintro e5 w5 ⟨rfl, hO5, hw5⟩; have j2 := ((HQ1.out.within (HG3.out.within 0 0) (.inr (Nat.zero_le _))).within hw5 (.inr HB.out.2)).2.2.1; have jf := ((HQ1.out.within (HG3.out.within 0 0) (.inr (Nat.zero_le _))).within hw5 (.inr HB.out.2)).2.2.2.2.2)
  have HQ5 : Hid (QR B w5 hv lv' num) := Lib.hid ((HQ1.out.within (HG3.out.within 0 0) (.inr (Nat.zero_le _))).within hw5 (.inr HB.out.2))
  have HP5 : Hid (PartsV hi B w5 lv' q) := Lib.hid (HP1.out.keep fun g o x hg _ hc => hw5.cell (HG3.out.cell hc) (.inr hg))
  have HO5 := Lib.hid hO5
  have HW5 : Hid (Within lo (B + 1) w w5) := Lib.hid ((HW1.out.trans (HG3.out.within _ _)).trans (hw5.wide (Nat.le_refl _) (by have := HB.out; omega)))
  clear hO5 hw5
  go_ret
  exact ⟨rfl, lv', HQ5.out.setNum 0, HP5.out.setB _, HO5.out.setB HB.out.2 _, HW5.out.setCell (p := ⟨B, 2, none⟩) HB.out.1 (Nat.lt_succ_self _) _⟩

set_option maxRecDepth 100000 in
set_option maxHeartbeats 4000000 in
theorem read_semi0 (B : Nat) (w : World) (hv lv : Value) (num : Nat) (n m lo hi : Nat) (f : Nat → Nat → Int) (hn1 : 1 ≤ n) (hn5 : n ≤ 5) (hm1 : 1 ≤ m) (hm5 : m ≤ 5) (hlo : lo ≤ B) (hB : hi ≤ B) (hq : QR B w hv lv num) (hp : PartsV hi B w lv []) (hO : RowsO 28 3 lo hi w hv (tabR n m f)) :
    Calls Tryd.prog 46 #[.pointer (some ⟨B, 0, none⟩), .int .i32 59] w fun e w' => e = .returned (.bool false) ∧ Within lo (B + 1) w w' := by
  have HQ := Lib.hid hq
  have HO := Lib.hid hO
  have HB := Lib.hid (And.intro hlo hB)
  have HT := Lib.hid (take_none hi B w hv lv num hq hp)
  have HP := Lib.hid hp
  have HNM := Lib.hid (And.intro (And.intro hn1 hn5) (And.intro hm1 hm5))
  clear hq hp hO hlo hB hn1 hn5 hm1 hm5 
  go_enter Tryd.func46, Tryd.ntmps46
  go_wp2_with (fail)
  refine HT.out.mono ?_
  rintro e w1 ⟨rfl, hw1⟩
  obtain ⟨lv', elv⟩ : ∃ z, z = lv := ⟨_, rfl⟩
  subst elv
  obtain ⟨q, eq0⟩ : ∃ z : List (Nat × Nat × Nat × Nat), z = [] := ⟨_, rfl⟩
  have HQ1 := Lib.hid (HQ.out.within (hw1.within 0 0) (.inr (Nat.zero_le _)))
  have HP1 := Lib.hid (HP.out.grew hw1)
  rw [← eq0] at HP1
  have HW1 : Hid (Within lo (B + 1) w w1) := Lib.hid (hw1.within _ _)
  have HO1 : Hid (RowsO 28 3 lo hi w1 hv (tabR n m f)) := Lib.hid (HO.out.grew hw1)
  have hBs : B < w1.heap.size := World.block_lt_of_cell? _ _ HQ1.out.1
  clear hw1 HT eq0
  have HBS := Lib.hid hBs
  obtain ⟨W2, hW2⟩ : ∃ W2, w1.alloc (.cells #[.int .i64 0, .int .i64 0, .int .i64 0, .int .i64 0] 44) = W2 := ⟨_, rfl⟩
  have HG2 : Hid (Grew w1 W2) := Lib.hid (by rw [← hW2]; exact (Grew.refl _).alloc _)
  have HBX : Hid (∀ W, Grew W2 W → W.cell? ⟨w1.heap.size, 0, none⟩ = some (.int .i64 0) ∧ W.cell? ⟨w1.heap.size, 1, none⟩ = some (.int .i64 0) ∧ W.cell? ⟨w1.heap.size, 2, none⟩ = some (.int .i64 0) ∧ W.cell? ⟨w1.heap.size, 3, none⟩ = some (.int .i64 0)) := Lib.hid fun W hW => by
    rw [← hW2] at hW
    exact ⟨hW.cell (by simp), hW.cell (by simp), hW.cell (by simp), hW.cell (by simp)⟩
  have HW2 := Lib.hid hW2
  clear hW2 hBs
  go_wp2_with (fail)
  rw [HW2.out]
  obtain ⟨d0, d1, d2, d3⟩ := HBX.out _ (Grew.refl W2)
  have k0 := HG2.out.cell HQ1.out.1
  have k2 := HG2.out.cell HQ1.out.2.2.1
  go_still_tail 9, (by kernel_rfl)
  change wpList _ _ _ _ _ W2.drew
  clear d0 d1 d2 d3 k0 k2
  have HST : Hid (Calls Tryd.prog 57 #[.agg #[.int .i64 0, .int .i64 0, .int .i64 0, .int .i64 0], hv, .int .i64 num] W2.drew fun e w' => e = .returned (.tuple #[]) ∧ RowsO 28 3 lo hi w' hv (tabR n m (setP f 0 0 0 0 num)) ∧ Within lo hi W2.drew w') := Lib.hid (setTo_any hv n m f 0 0 0 0 num lo hi W2.drew HNM.out.1.1 HNM.out.1.2 HNM.out.2.1 HNM.out.2.2 (HO1.out.grew HG2.out.drew) (by have := HB.out; have := HBS.out; have := HG2.out.size; simp; omega) (Nat.le_refl _) (Nat.zero_le _) (Nat.le_refl _) (Nat.zero_le _))
  generalize hW3 : W2.drew = W3 at HST ⊢
  have HG3 : Hid (Grew w1 W3) := Lib.hid (by rw [← hW3]; exact HG2.out.drew)
  clear hW3
  go_wp2_with (go_at_call 57; refine HST.out.mono ?_; rintro e5 w5 ⟨rfl, hO5, hw5⟩; have j2 := ((HQ1.out.within (HG3.out.within 0 0) (.inr (Nat.zero_le _))).within hw5 (.inr HB.out.2)).2.2.1; have jf := ((HQ1.out.within (HG3.out.within 0 0) (.inr (Nat.zero_le _))).within hw5 (.inr HB.out.2)).2.2.2.2.2)
  have HQ5 : Hid (QR B w5 hv lv' num) := Lib.hid ((HQ1.out.within (HG3.out.within 0 0) (.inr (Nat.zero_le _))).within hw5 (.inr HB.out.2))
  have HP5 : Hid (PartsV hi B w5 lv' q) := Lib.hid (HP1.out.keep fun g o x hg _ hc => hw5.cell (HG3.out.cell hc) (.inr hg))
  have HO5 := Lib.hid hO5
  have HW5 : Hid (Within lo (B + 1) w w5) := Lib.hid ((HW1.out.trans (HG3.out.within _ _)).trans (hw5.wide (Nat.le_refl _) (by have := HB.out; omega)))
  clear hO5 hw5
  go_ret
  exact ⟨rfl, HW5.out.setCell (p := ⟨B, 2, none⟩) HB.out.1 (Nat.lt_succ_self _) _⟩

/-- 'append(s, r...)' at a slice of parts of the call's own, as a step of a region that draws. -/
theorem step_append_parts {P : Program} {w : World} {ops : Array Oper} {o : Oper} {a : Act} {K : Act → World → Prop} {Q : Exit → Act → World → Prop} {X : Prop} (hgd : o.guard = none) (s x : Operand) (t : TypeId)
    (ho : o.op = .call { callee := .builtin .append, args := #[s, x], argTypes := #[t, t] }) {E : TypeId} (ht : P.underlying t = some (.slice E))
    (hinfo : (P.info? E).map (fun i => (i.zero, i.size, i.bytes)) = some (some (.agg #[.int .i64 0, .int .i64 0, .int .i64 0, .int .i64 0]), 4, 32)) {lo hi' lo2 B : Nat} {v v2 : Value} {q r : List (Nat × Nat × Nat × Nat)} (hs : a.eval s = v) (hx : a.eval x = v2)
    (hv : PartsO E lo hi' w v q) (hr : PartsV lo2 B w v2 r) (hlen : q.length + r.length ≤ 1000000) (hbase : lo ≤ w.heap.size) (hB : B < lo) (hlo2 : lo2 ≤ lo) (hq : 0 < q.length)
    (h : ∀ g cap w', PartsV lo2 B w' (.slice (some ⟨g, 0, none⟩) (q.length + r.length) cap) (q ++ r) → Within lo hi' w w' → K (a.put o.dst (.slice (some ⟨g, 0, none⟩) (q.length + r.length) cap)) w') : if Region.wanted o (yielded ops a.tmps) = true then Oper.wp P o a w K Q else X := by
  have hw : Region.wanted o (yielded ops a.tmps) = true := by simp [Region.wanted, hgd]
  rw [if_pos hw]
  obtain ⟨i, hi1, hi2, hi3, hi4⟩ := info_parts hinfo
  obtain ⟨b, o', c, rfl, hc, hbl, hr⟩ := hr
  refine wp_append_own w s x t ho lo E i (.agg #[.int .i64 0, .int .i64 0, .int .i64 0, .int .i64 0]) 4 32 ht hi1 hi2 hi3 hi4 (by decide) (by decide) v q.length _ hs hv.1 ⟨b, o', none⟩ r.length c (flatP r) hx (flatP_len r) ?_ ?_ (by unfold maxLen; omega) (by omega) hbase ?_
  · intro j u hj
    have hl := (List.getElem?_eq_some_iff.1 hj).1
    rw [flatP_len] at hl
    rw [Addr.add_lit, hr j hl, hj]
  · intro u hu
    simp only [flatP, List.mem_flatMap, List.mem_cons, List.not_mem_nil, or_false] at hu
    obtain ⟨e, -, rfl | rfl | rfl | rfl⟩ := hu <;> rfl
  · intro v' w' hown hg _
    have hW : Within lo hi' w w' := grownBy_within hg fun g e => ⟨(World.ownsRow.lt hv.1 g e).1, hv.2 g e⟩
    rcases hown.2 with ⟨_, e⟩ | ⟨g, cap, cur, rfl, h3, h4, h5, h6, h7⟩
    · omega
    · refine h g cap w' ?_ hW
      refine ⟨g, 0, cap, by rw [List.length_append], ⟨by rw [List.length_append]; exact h5, by unfold maxLen at h6; omega⟩, ⟨by omega, by omega⟩, fun k hk => ?_⟩
      rw [List.length_append] at hk
      rw [Nat.zero_add, World.ownsRow.cellAt hown k (by omega), flatP_append]


set_option maxRecDepth 100000 in
set_option maxHeartbeats 4000000 in
theorem read_dot (B : Nat) (w : World) (hv lv : Value) (num : Nat) (n m lo hi : Nat) (f : Nat → Nat → Int) (t b l r : Nat) (q : List (Nat × Nat × Nat × Nat)) (hn1 : 1 ≤ n) (hn5 : n ≤ 5) (hm1 : 1 ≤ m) (hm5 : m ≤ 5) (hlo : lo ≤ B) (hB : hi ≤ B) (htb : t ≤ b) (hb : b ≤ n) (hlr : l ≤ r) (hr : r ≤ m) (hq : QR B w hv lv num) (hp : PartsV hi B w lv ((t, b, l, r) :: q)) (hO : RowsO 28 3 lo hi w hv (tabR n m f)) :
    Calls Tryd.prog 46 #[.pointer (some ⟨B, 0, none⟩), .int .i32 46] w fun e w' => e = .returned (.bool true) ∧ ∃ lv', QR B w' hv lv' num ∧ PartsV hi B w' lv' q ∧ RowsO 28 3 lo hi w' hv (tabR n m f) ∧ Within lo (B + 1) w w' := by
  have HQ := Lib.hid hq
  have HO := Lib.hid hO
  have HB := Lib.hid (And.intro hlo hB)
  have HT := Lib.hid (take_some hi B w hv lv num t b l r q hq hp)
  have HTB := Lib.hid (And.intro (And.intro htb hb) (And.intro hlr hr))
  have HNM := Lib.hid (And.intro (And.intro hn1 hn5) (And.intro hm1 hm5))
  clear hq hp hO hlo hB hn1 hn5 hm1 hm5 htb hb hlr hr
  go_enter Tryd.func46, Tryd.ntmps46
  go_wp2_with (fail)
  refine HT.out.mono ?_
  rintro e w1 ⟨rfl, lv', hq1, hp1, hw1⟩
  have HQ1 := Lib.hid hq1
  have HP1 := Lib.hid hp1
  have HW1 : Hid (Within lo (B + 1) w w1) := Lib.hid (hw1.wide HB.out.1 (Nat.le_refl _))
  have HO1 : Hid (RowsO 28 3 lo hi w1 hv (tabR n m f)) := Lib.hid (HO.out.within hw1 (.inl HB.out.2))
  have hBs : B < w1.heap.size := World.block_lt_of_cell? _ _ hq1.1
  clear hq1 hp1 hw1 HT
  have HF : Hid (∀ C : Obj, ∃ lv'', QR B (w1.alloc C) hv lv'' num ∧ PartsV hi B (w1.alloc C) lv'' q ∧ RowsO 28 3 lo hi (w1.alloc C) hv (tabR n m f) ∧ Within lo (B + 1) w (w1.alloc C)) := Lib.hid fun C => ⟨lv', HQ1.out.within (((Grew.refl w1).alloc C).within 0 0) (.inr (Nat.zero_le _)), HP1.out.grew ((Grew.refl w1).alloc C), HO1.out.grew ((Grew.refl w1).alloc C), HW1.out.alloc C⟩
  clear hBs
  go_wp2
  go_ret
  exact ⟨rfl, HF.out _⟩

set_option maxRecDepth 100000 in
set_option maxHeartbeats 4000000 in
theorem read_dot0 (B : Nat) (w : World) (hv lv : Value) (num : Nat) (n m lo hi : Nat) (f : Nat → Nat → Int) (hn1 : 1 ≤ n) (hn5 : n ≤ 5) (hm1 : 1 ≤ m) (hm5 : m ≤ 5) (hlo : lo ≤ B) (hB : hi ≤ B) (hq : QR B w hv lv num) (hp : PartsV hi B w lv []) (hO : RowsO 28 3 lo hi w hv (tabR n m f)) :
    Calls Tryd.prog 46 #[.pointer (some ⟨B, 0, none⟩), .int .i32 46] w fun e w' => e = .returned (.bool false) ∧ Within lo (B + 1) w w' := by
  have HQ := Lib.hid hq
  have HO := Lib.hid hO
  have HB := Lib.hid (And.intro hlo hB)
  have HT := Lib.hid (take_none hi B w hv lv num hq hp)
  have HP := Lib.hid hp
  have HNM := Lib.hid (And.intro (And.intro hn1 hn5) (And.intro hm1 hm5))
  clear hq hp hO hlo hB hn1 hn5 hm1 hm5 
  go_enter Tryd.func46, Tryd.ntmps46
  go_wp2_with (fail)
  refine HT.out.mono ?_
  rintro e w1 ⟨rfl, hw1⟩
  obtain ⟨lv', elv⟩ : ∃ z, z = lv := ⟨_, rfl⟩
  subst elv
  obtain ⟨q, eq0⟩ : ∃ z : List (Nat × Nat × Nat × Nat), z = [] := ⟨_, rfl⟩
  have HQ1 := Lib.hid (HQ.out.within (hw1.within 0 0) (.inr (Nat.zero_le _)))
  have HP1 := Lib.hid (HP.out.grew hw1)
  rw [← eq0] at HP1
  have HW1 : Hid (Within lo (B + 1) w w1) := Lib.hid (hw1.within _ _)
  have HO1 : Hid (RowsO 28 3 lo hi w1 hv (tabR n m f)) := Lib.hid (HO.out.grew hw1)
  have hBs : B < w1.heap.size := World.block_lt_of_cell? _ _ HQ1.out.1
  clear hw1 HT eq0
  have HF : Hid (∀ C : Obj, Within lo (B + 1) w (w1.alloc C)) := Lib.hid fun C => HW1.out.alloc C
  clear hBs
  go_wp2
  go_ret
  exact ⟨rfl, HF.out _⟩

set_option maxRecDepth 100000 in
set_option maxHeartbeats 4000000 in
theorem read_open (B : Nat) (w : World) (hv lv : Value) (num : Nat) (n m lo hi : Nat) (f : Nat → Nat → Int) (t b l r : Nat) (q : List (Nat × Nat × Nat × Nat)) (hn1 : 1 ≤ n) (hn5 : n ≤ 5) (hm1 : 1 ≤ m) (hm5 : m ≤ 5) (hlo : lo ≤ B) (hB : hi ≤ B) (htb : t ≤ b) (hb : b ≤ n) (hlr : l ≤ r) (hr : r ≤ m) (hql : q.length ≤ 100) (hq : QR B w hv lv num) (hp : PartsV hi B w lv ((t, b, l, r) :: q)) (hO : RowsO 28 3 lo hi w hv (tabR n m f)) :
    Calls Tryd.prog 46 #[.pointer (some ⟨B, 0, none⟩), .int .i32 40] w fun e w' => e = .returned (.bool (decide (1 < (b - t) * (r - l)))) ∧ ∃ lv', QR B w' hv lv' num ∧ PartsV hi B w' lv' (quartL t l b r ++ q) ∧ RowsO 28 3 lo hi w' hv (tabR n m f) ∧ Within lo (B + 1) w w' := by
  have HQ := Lib.hid hq
  have HO := Lib.hid hO
  have HB := Lib.hid (And.intro hlo hB)
  have HT := Lib.hid (take_some hi B w hv lv num t b l r q hq hp)
  have HTB := Lib.hid (And.intro (And.intro htb hb) (And.intro hlr hr))
  have HNM := Lib.hid (And.intro (And.intro hn1 hn5) (And.intro hm1 hm5))
  clear hq hp hO hlo hB hn1 hn5 hm1 hm5 htb hb hlr hr
  go_enter Tryd.func46, Tryd.ntmps46
  go_wp2_with (fail)
  refine HT.out.mono ?_
  rintro e w1 ⟨rfl, lv', hq1, hp1, hw1⟩
  have HQ1 := Lib.hid hq1
  have HP1 := Lib.hid hp1
  have HW1 : Hid (Within lo (B + 1) w w1) := Lib.hid (hw1.wide HB.out.1 (Nat.le_refl _))
  have HO1 : Hid (RowsO 28 3 lo hi w1 hv (tabR n m f)) := Lib.hid (HO.out.within hw1 (.inl HB.out.2))
  have hBs : B < w1.heap.size := World.block_lt_of_cell? _ _ hq1.1
  clear hq1 hp1 hw1 HT
  have HBS := Lib.hid hBs
  obtain ⟨W2, hW2⟩ : ∃ W2, w1.alloc (.cells #[.int .i64 t, .int .i64 b, .int .i64 l, .int .i64 r] 44) = W2 := ⟨_, rfl⟩
  have HG2 : Hid (Grew w1 W2) := Lib.hid (by rw [← hW2]; exact (Grew.refl _).alloc _)
  have HBX : Hid (∀ W, Grew W2 W → W.cell? ⟨w1.heap.size, 0, none⟩ = some (.int .i64 t) ∧ W.cell? ⟨w1.heap.size, 1, none⟩ = some (.int .i64 b) ∧ W.cell? ⟨w1.heap.size, 2, none⟩ = some (.int .i64 l) ∧ W.cell? ⟨w1.heap.size, 3, none⟩ = some (.int .i64 r)) := Lib.hid fun W hW => by
    rw [← hW2] at hW
    exact ⟨hW.cell (by simp), hW.cell (by simp), hW.cell (by simp), hW.cell (by simp)⟩
  have HW2 := Lib.hid hW2
  clear hW2 hBs
  go_wp2_with (fail)
  rw [HW2.out]
  obtain ⟨d0, d1, d2, d3⟩ := HBX.out _ (Grew.refl W2).drew
  have k1 := HG2.out.drew.cell HQ1.out.2.1
  have HGD : Hid (Grew W2 W2.drew) := Lib.hid (Grew.refl W2).drew
  have HG2D : Hid (Grew w1 W2.drew) := Lib.hid HG2.out.drew
  have HSB : Hid (B < W2.drew.heap.size ∧ hi ≤ W2.drew.heap.size) := Lib.hid (by have := HBS.out; have := HG2D.out.size; have := HB.out; exact ⟨by omega, by omega⟩)
  have HLQ : Hid ((quartL t l b r).length + q.length ≤ 1000000) := Lib.hid (by show 4 + q.length ≤ _; omega)
  have HQU : Hid (∀ W, Calls Tryd.prog 42 #[.agg #[.int .i64 t, .int .i64 b, .int .i64 l, .int .i64 r]] W (QuartersPost t l b r W)) := Lib.hid fun W => quarters_any t l b r W HTB.out.1.1 (by have := HTB.out.1; have := HNM.out; omega) HTB.out.2.1 (by have := HTB.out.2; have := HNM.out; omega)
  unfold QuartersPost at HQU
  have HPC : Hid (∀ W, Calls Tryd.prog 58 #[.agg #[.int .i64 t, .int .i64 b, .int .i64 l, .int .i64 r]] W fun e w' => e = .returned (.int .i64 (((b : Int) - t) * ((r : Int) - l))) ∧ Grew W w') := Lib.hid fun W => partCells_any t b l r W (by omega) (by have := HTB.out; omega) (by have := HTB.out; have := HNM.out; omega) (by omega) (by have := HTB.out; omega) (by have := HTB.out; have := HNM.out; omega)
  have HSS : Hid (∀ (W : World) (x : Value), (W.cell? ⟨w1.heap.size, 0, none⟩ = some (.int .i64 t) ∧ W.cell? ⟨w1.heap.size, 1, none⟩ = some (.int .i64 b) ∧ W.cell? ⟨w1.heap.size, 2, none⟩ = some (.int .i64 l) ∧ W.cell? ⟨w1.heap.size, 3, none⟩ = some (.int .i64 r)) ∧ Within B (B + 1) W2 W → ((W.setCell ⟨B, 1, none⟩ x).cell? ⟨w1.heap.size, 0, none⟩ = some (.int .i64 t) ∧ (W.setCell ⟨B, 1, none⟩ x).cell? ⟨w1.heap.size, 1, none⟩ = some (.int .i64 b) ∧ (W.setCell ⟨B, 1, none⟩ x).cell? ⟨w1.heap.size, 2, none⟩ = some (.int .i64 l) ∧ (W.setCell ⟨B, 1, none⟩ x).cell? ⟨w1.heap.size, 3, none⟩ = some (.int .i64 r)) ∧ Within B (B + 1) W2 (W.setCell ⟨B, 1, none⟩ x)) := Lib.hid fun W x h => ⟨⟨(World.cell?_setCell_other _ _ _ _ (by first | (simp; done) | (simp; intro e; exact absurd e (Nat.ne_of_lt HBS.out)))).trans h.1.1, (World.cell?_setCell_other _ _ _ _ (by first | (simp; done) | (simp; intro e; exact absurd e (Nat.ne_of_lt HBS.out)))).trans h.1.2.1, (World.cell?_setCell_other _ _ _ _ (by first | (simp; done) | (simp; intro e; exact absurd e (Nat.ne_of_lt HBS.out)))).trans h.1.2.2.1, (World.cell?_setCell_other _ _ _ _ (by first | (simp; done) | (simp; intro e; exact absurd e (Nat.ne_of_lt HBS.out)))).trans h.1.2.2.2⟩, h.2.setCell (p := ⟨B, 1, none⟩) (Nat.le_refl _) (Nat.lt_succ_self _) x⟩
  have hdt : ((b : Int) - t) = ((b - t : Nat) : Int) := by have := HTB.out; omega
  have hdr : ((r : Int) - l) = ((r - l : Nat) : Int) := by have := HTB.out; omega
  have HDD : Hid (decide ((1 : Int) < ((b : Int) - t) * ((r : Int) - l)) = decide (1 < (b - t) * (r - l))) := Lib.hid (by rw [hdt, hdr, ← Int.natCast_mul]; exact decide_eq_decide.2 (by omega))
  clear hdt hdr
  refine wp_region_noPanic ?_
  refine wp_region_held_drew (S := fun W => (W.cell? ⟨w1.heap.size, 0, none⟩ = some (.int .i64 t) ∧ W.cell? ⟨w1.heap.size, 1, none⟩ = some (.int .i64 b) ∧ W.cell? ⟨w1.heap.size, 2, none⟩ = some (.int .i64 l) ∧ W.cell? ⟨w1.heap.size, 3, none⟩ = some (.int .i64 r)) ∧ Within B (B + 1) W2 W) (by kernel_rfl) (by exact ⟨HBX.out _ HGD.out, HGD.out.within _ _⟩) (fun hHeld => ?_)
  refine wpAnyH_take (i := 0) (oi := { dst := some 78, op := Op.move (Operand.tmp 0), type := 92, pos := _, after := #[], guard := none }) (v := ?_) rfl (by kernel_rfl) (by kernel_rfl) (by kernel_rfl) (fun _ _ _ h => h) (Or.inl ⟨by rfl, ?hy⟩) (by assumption) ?_
  case hy => (intro w hSw; (try dsimp only at hSw); go_simp; try with_reducible rfl)
  try simp only [Act.put, List.setIfInBounds_toArray, List.set_cons_zero, List.set_cons_succ]
  refine wpAnyH_take (i := 1) (oi := { dst := some 79, op := Op.load 44 (Operand.tmp 9), type := 44, pos := _, after := #[], guard := none }) (v := ?_) rfl (by kernel_rfl) (by kernel_rfl) (by kernel_rfl) (fun _ _ _ h => h) (Or.inl ⟨by rfl, ?hy⟩) (by assumption) ?_
  case hy => (intro w hSw; (try dsimp only at hSw); go_simp; try with_reducible rfl)
  try simp only [Act.put, List.setIfInBounds_toArray, List.set_cons_zero, List.set_cons_succ]
  refine wpAnyH_take (i := 3) (oi := { dst := some 81, op := Op.move (Operand.tmp 0), type := 92, pos := _, after := #[], guard := none }) (v := ?_) rfl (by kernel_rfl) (by kernel_rfl) (by kernel_rfl) (fun _ _ _ h => h) (Or.inl ⟨by rfl, ?hy⟩) (by assumption) ?_
  case hy => (intro w hSw; (try dsimp only at hSw); go_simp; try with_reducible rfl)
  try simp only [Act.put, List.setIfInBounds_toArray, List.set_cons_zero, List.set_cons_succ]
  refine wpAnyH_take (i := 4) (oi := { dst := some 82, op := Op.nilCheck (Operand.tmp 81), type := 0, pos := _, after := #[{ on := 3, ground := Ground.data }], guard := none }) (v := ?_) rfl (by kernel_rfl) (by kernel_rfl) (by kernel_rfl) (fun _ _ _ h => h) (Or.inl ⟨by rfl, ?hy⟩) (by assumption) ?_
  case hy => (intro w hSw; (try dsimp only at hSw); go_simp; try with_reducible rfl)
  try simp only [Act.put, List.setIfInBounds_toArray, List.set_cons_zero, List.set_cons_succ]
  refine wpAnyH_take (i := 5) (oi := { dst := some 83, op := Op.fieldAddr 72 (Operand.tmp 82) 1, type := 0, pos := _, after := #[{ on := 4, ground := Ground.data }], guard := none }) (v := ?_) rfl (by kernel_rfl) (by kernel_rfl) (by kernel_rfl) (fun _ _ _ h => h) (Or.inl ⟨by rfl, ?hy⟩) (by assumption) ?_
  case hy => (intro w hSw; (try dsimp only at hSw); go_simp; try with_reducible rfl)
  try simp only [Act.put, List.setIfInBounds_toArray, List.set_cons_zero, List.set_cons_succ]
  refine wpAnyH_ready (rs := [2, 6]) (by kernel_rfl) (by simp) ?_
  refine AllReadyH.cons (i := 2) (o := { dst := some 80, op := Op.call { callee := Callee.value (Operand.func 42), args := #[Operand.tmp 79], argTypes := #[44] }, type := 67, pos := _, after := #[{ on := 1, ground := Ground.data }], guard := none }) rfl (fun KK hKK => ?_) (AllReadyH.cons (i := 6) (o := { dst := some 84, op := Op.load 67 (Operand.tmp 83), type := 67, pos := _, after := #[{ on := 5, ground := Ground.data }], guard := none }) rfl (fun KK hKK => ?_) (AllReadyH.nil))
  · go_simp
    go_at_call 42
    refine (HQU.out _).mono ?_
    rintro e5 w5 ⟨v5, rfl, hP5, hg5⟩
    have HP5 := Lib.hid hP5
    have HG5 := Lib.hid (HG2D.out.trans hg5)
    have HGQ := Lib.hid hg5
    have k1 := HG5.out.cell HQ1.out.2.1
    clear hP5 hg5
    refine hKK.out _ _ (by exact ⟨HBX.out _ (HGD.out.trans HGQ.out), (HGD.out.trans HGQ.out).within _ _⟩) (fun hHeld => ?_)
    clear hKK KK
    try simp only [Act.put, List.setIfInBounds_toArray, List.set_cons_zero, List.set_cons_succ]
    refine wpAnyH_ready (rs := [6]) (by kernel_rfl) (by simp) ?_
    refine AllReadyH.cons (i := 6) (o := { dst := some 84, op := Op.load 67 (Operand.tmp 83), type := 67, pos := _, after := #[{ on := 5, ground := Ground.data }], guard := none }) rfl (fun KK hKK => ?_) (AllReadyH.nil)
    go_simp
    refine hKK.out _ _ (by exact hHeld) (fun hHeld => ?_)
    clear hKK KK
    try simp only [Act.put, List.setIfInBounds_toArray, List.set_cons_zero, List.set_cons_succ]
    refine wpAnyH_ready (rs := [7]) (by kernel_rfl) (by simp) ?_
    refine AllReadyH.cons (i := 7) (o := { dst := some 85, op := Op.call { callee := Callee.builtin Builtin.append, args := #[Operand.tmp 80, Operand.tmp 84], argTypes := #[67, 67] }, type := 67, pos := _, after := #[{ on := 2, ground := Ground.data }, { on := 6, ground := Ground.data }, { on := 2, ground := Ground.chain }], guard := none }) rfl (fun KK hKK => ?_) (AllReadyH.nil)
    refine step_append_parts (lo := W2.drew.heap.size) (hi' := w5.heap.size) (lo2 := hi) (B := B) (v := v5) (v2 := lv') (q := quartL t l b r) (r := q) rfl (.tmp 80) (.tmp 84) 67 rfl Tryd.underlying67 Tryd.infoPart (by simp [Act.eval]) (by simp [Act.eval]) HP5.out (HP1.out.grew HG5.out) HLQ.out HGQ.out.size HSB.out.1 HSB.out.2 (Nat.succ_pos _) ?_
    intro g7 c7 w7 hP7 hW7
    have HP7 := Lib.hid hP7
    have HW7 := Lib.hid hW7
    have HK7 : Hid (QR B w7 hv lv' num) := Lib.hid ((HQ1.out.within (HG5.out.within 0 0) (.inr (Nat.zero_le _))).within hW7 (.inl HSB.out.1))
    have HO7 : Hid (RowsO 28 3 lo hi w7 hv (tabR n m f)) := Lib.hid ((HO1.out.grew HG5.out).within hW7 (.inl (Nat.le_trans HB.out.2 (Nat.le_of_lt HSB.out.1))))
    have HL7 : Hid (Within lo (B + 1) w w7) := Lib.hid (HW1.out.trans ((HG2D.out.trans (Within.grew HGQ.out hW7 (Nat.le_refl _))).within _ _))
    have j1 := HK7.out.2.1
    have jf := HK7.out.2.2.2.2.1
    clear hP7 hW7
    refine hKK.out _ _ (by exact ⟨HBX.out _ (HGD.out.trans (Within.grew HGQ.out HW7.out (Nat.le_refl _))), (HGD.out.trans (Within.grew HGQ.out HW7.out (Nat.le_refl _))).within _ _⟩) (fun hHeld => ?_)
    clear hKK KK
    try simp only [Act.put, List.setIfInBounds_toArray, List.set_cons_zero, List.set_cons_succ]
    refine wpAnyH_take (i := 8) (oi := { dst := some 86, op := Op.nilCheck (Operand.tmp 78), type := 0, pos := _, after := #[{ on := 0, ground := Ground.data }, { on := 0, ground := Ground.phase }, { on := 1, ground := Ground.phase }, { on := 2, ground := Ground.phase }, { on := 3, ground := Ground.phase }, { on := 4, ground := Ground.phase }, { on := 5, ground := Ground.phase }, { on := 6, ground := Ground.phase }, { on := 7, ground := Ground.phase }], guard := none }) (v := ?_) rfl (by kernel_rfl) (by kernel_rfl) (by kernel_rfl) (fun _ _ _ h => h) (Or.inl ⟨by rfl, ?hy⟩) (by assumption) ?_
    case hy => (intro w hSw; (try dsimp only at hSw); go_simp; try with_reducible rfl)
    try simp only [Act.put, List.setIfInBounds_toArray, List.set_cons_zero, List.set_cons_succ]
    refine wpAnyH_take (i := 9) (oi := { dst := some 87, op := Op.fieldAddr 72 (Operand.tmp 86) 1, type := 0, pos := _, after := #[{ on := 8, ground := Ground.data }, { on := 0, ground := Ground.phase }, { on := 1, ground := Ground.phase }, { on := 2, ground := Ground.phase }, { on := 3, ground := Ground.phase }, { on := 4, ground := Ground.phase }, { on := 5, ground := Ground.phase }, { on := 6, ground := Ground.phase }, { on := 7, ground := Ground.phase }], guard := none }) (v := ?_) rfl (by kernel_rfl) (by kernel_rfl) (by kernel_rfl) (fun _ _ _ h => h) (Or.inl ⟨by rfl, ?hy⟩) (by assumption) ?_
    case hy => (intro w hSw; (try dsimp only at hSw); go_simp; try with_reducible rfl)
    try simp only [Act.put, List.setIfInBounds_toArray, List.set_cons_zero, List.set_cons_succ]
    refine wpAnyH_ready (rs := [10]) (by kernel_rfl) (by simp) ?_
    refine AllReadyH.cons (i := 10) (o := { dst := none, op := Op.store 67 (Operand.tmp 87) (Operand.tmp 85), type := 0, pos := _, after := #[{ on := 9, ground := Ground.data }, { on := 7, ground := Ground.data }, { on := 7, ground := Ground.chain }, { on := 0, ground := Ground.phase }, { on := 1, ground := Ground.phase }, { on := 2, ground := Ground.phase }, { on := 3, ground := Ground.phase }, { on := 4, ground := Ground.phase }, { on := 5, ground := Ground.phase }, { on := 6, ground := Ground.phase }, { on := 7, ground := Ground.phase }], guard := none }) rfl (fun KK hKK => ?_) (AllReadyH.nil)
    go_simp
    refine hKK.out _ _ (by exact HSS.out w7 _ hHeld) (fun hHeld => ?_)
    clear hKK KK
    try simp only [Act.put, List.setIfInBounds_toArray, List.set_cons_zero, List.set_cons_succ]
    refine wpAnyH_done (by kernel_rfl) ?_ _
    refine NoPanic.normal ?_
    have HK8 := Lib.hid (HK7.out.setLeft (.slice (some ⟨g7, 0, none⟩) ((quartL t l b r).length + q.length) c7))
    have HP8 := Lib.hid (HP7.out.setB (k := 1) (.slice (some ⟨g7, 0, none⟩) ((quartL t l b r).length + q.length) c7))
    have HO8 := Lib.hid (HO7.out.setB (k := 1) HB.out.2 (.slice (some ⟨g7, 0, none⟩) ((quartL t l b r).length + q.length) c7))
    have HL8 := Lib.hid (HL7.out.setCell (p := ⟨B, 1, none⟩) HB.out.1 (Nat.lt_succ_self _) (.slice (some ⟨g7, 0, none⟩) ((quartL t l b r).length + q.length) c7))
    obtain ⟨W8, eW8⟩ : ∃ z, z = w7.setCell ⟨B, 1, none⟩ (.slice (some ⟨g7, 0, none⟩) ((quartL t l b r).length + q.length) c7) := ⟨_, rfl⟩
    rw [← eW8] at hHeld HK8 HP8 HO8 HL8 ⊢
    obtain ⟨d0, d1, d2, d3⟩ := hHeld.1
    clear hHeld eW8
    go_wp2_with (go_at_call 58; refine (HPC.out _).mono ?_; rintro e9 w9 ⟨rfl, hg9⟩)
    have HG9 := Lib.hid hg9
    clear hg9
    go_ret
    exact ⟨by rw [HDD.out]; rfl, _, HK8.out.within (HG9.out.within 0 0) (.inr (Nat.zero_le _)), HP8.out.grew HG9.out, HO8.out.grew HG9.out, HL8.out.trans (HG9.out.within _ _)⟩
  · go_simp
    refine hKK.out _ _ (by exact hHeld) (fun hHeld => ?_)
    clear hKK KK
    try simp only [Act.put, List.setIfInBounds_toArray, List.set_cons_zero, List.set_cons_succ]
    refine wpAnyH_ready (rs := [2]) (by kernel_rfl) (by simp) ?_
    refine AllReadyH.cons (i := 2) (o := { dst := some 80, op := Op.call { callee := Callee.value (Operand.func 42), args := #[Operand.tmp 79], argTypes := #[44] }, type := 67, pos := _, after := #[{ on := 1, ground := Ground.data }], guard := none }) rfl (fun KK hKK => ?_) (AllReadyH.nil)
    go_simp
    go_at_call 42
    refine (HQU.out _).mono ?_
    rintro e5 w5 ⟨v5, rfl, hP5, hg5⟩
    have HP5 := Lib.hid hP5
    have HG5 := Lib.hid (HG2D.out.trans hg5)
    have HGQ := Lib.hid hg5
    have k1 := HG5.out.cell HQ1.out.2.1
    clear hP5 hg5
    refine hKK.out _ _ (by exact ⟨HBX.out _ (HGD.out.trans HGQ.out), (HGD.out.trans HGQ.out).within _ _⟩) (fun hHeld => ?_)
    clear hKK KK
    try simp only [Act.put, List.setIfInBounds_toArray, List.set_cons_zero, List.set_cons_succ]
    refine wpAnyH_ready (rs := [7]) (by kernel_rfl) (by simp) ?_
    refine AllReadyH.cons (i := 7) (o := { dst := some 85, op := Op.call { callee := Callee.builtin Builtin.append, args := #[Operand.tmp 80, Operand.tmp 84], argTypes := #[67, 67] }, type := 67, pos := _, after := #[{ on := 2, ground := Ground.data }, { on := 6, ground := Ground.data }, { on := 2, ground := Ground.chain }], guard := none }) rfl (fun KK hKK => ?_) (AllReadyH.nil)
    refine step_append_parts (lo := W2.drew.heap.size) (hi' := w5.heap.size) (lo2 := hi) (B := B) (v := v5) (v2 := lv') (q := quartL t l b r) (r := q) rfl (.tmp 80) (.tmp 84) 67 rfl Tryd.underlying67 Tryd.infoPart (by simp [Act.eval]) (by simp [Act.eval]) HP5.out (HP1.out.grew HG5.out) HLQ.out HGQ.out.size HSB.out.1 HSB.out.2 (Nat.succ_pos _) ?_
    intro g7 c7 w7 hP7 hW7
    have HP7 := Lib.hid hP7
    have HW7 := Lib.hid hW7
    have HK7 : Hid (QR B w7 hv lv' num) := Lib.hid ((HQ1.out.within (HG5.out.within 0 0) (.inr (Nat.zero_le _))).within hW7 (.inl HSB.out.1))
    have HO7 : Hid (RowsO 28 3 lo hi w7 hv (tabR n m f)) := Lib.hid ((HO1.out.grew HG5.out).within hW7 (.inl (Nat.le_trans HB.out.2 (Nat.le_of_lt HSB.out.1))))
    have HL7 : Hid (Within lo (B + 1) w w7) := Lib.hid (HW1.out.trans ((HG2D.out.trans (Within.grew HGQ.out hW7 (Nat.le_refl _))).within _ _))
    have j1 := HK7.out.2.1
    have jf := HK7.out.2.2.2.2.1
    clear hP7 hW7
    refine hKK.out _ _ (by exact ⟨HBX.out _ (HGD.out.trans (Within.grew HGQ.out HW7.out (Nat.le_refl _))), (HGD.out.trans (Within.grew HGQ.out HW7.out (Nat.le_refl _))).within _ _⟩) (fun hHeld => ?_)
    clear hKK KK
    try simp only [Act.put, List.setIfInBounds_toArray, List.set_cons_zero, List.set_cons_succ]
    refine wpAnyH_take (i := 8) (oi := { dst := some 86, op := Op.nilCheck (Operand.tmp 78), type := 0, pos := _, after := #[{ on := 0, ground := Ground.data }, { on := 0, ground := Ground.phase }, { on := 1, ground := Ground.phase }, { on := 2, ground := Ground.phase }, { on := 3, ground := Ground.phase }, { on := 4, ground := Ground.phase }, { on := 5, ground := Ground.phase }, { on := 6, ground := Ground.phase }, { on := 7, ground := Ground.phase }], guard := none }) (v := ?_) rfl (by kernel_rfl) (by kernel_rfl) (by kernel_rfl) (fun _ _ _ h => h) (Or.inl ⟨by rfl, ?hy⟩) (by assumption) ?_
    case hy => (intro w hSw; (try dsimp only at hSw); go_simp; try with_reducible rfl)
    try simp only [Act.put, List.setIfInBounds_toArray, List.set_cons_zero, List.set_cons_succ]
    refine wpAnyH_take (i := 9) (oi := { dst := some 87, op := Op.fieldAddr 72 (Operand.tmp 86) 1, type := 0, pos := _, after := #[{ on := 8, ground := Ground.data }, { on := 0, ground := Ground.phase }, { on := 1, ground := Ground.phase }, { on := 2, ground := Ground.phase }, { on := 3, ground := Ground.phase }, { on := 4, ground := Ground.phase }, { on := 5, ground := Ground.phase }, { on := 6, ground := Ground.phase }, { on := 7, ground := Ground.phase }], guard := none }) (v := ?_) rfl (by kernel_rfl) (by kernel_rfl) (by kernel_rfl) (fun _ _ _ h => h) (Or.inl ⟨by rfl, ?hy⟩) (by assumption) ?_
    case hy => (intro w hSw; (try dsimp only at hSw); go_simp; try with_reducible rfl)
    try simp only [Act.put, List.setIfInBounds_toArray, List.set_cons_zero, List.set_cons_succ]
    refine wpAnyH_ready (rs := [10]) (by kernel_rfl) (by simp) ?_
    refine AllReadyH.cons (i := 10) (o := { dst := none, op := Op.store 67 (Operand.tmp 87) (Operand.tmp 85), type := 0, pos := _, after := #[{ on := 9, ground := Ground.data }, { on := 7, ground := Ground.data }, { on := 7, ground := Ground.chain }, { on := 0, ground := Ground.phase }, { on := 1, ground := Ground.phase }, { on := 2, ground := Ground.phase }, { on := 3, ground := Ground.phase }, { on := 4, ground := Ground.phase }, { on := 5, ground := Ground.phase }, { on := 6, ground := Ground.phase }, { on := 7, ground := Ground.phase }], guard := none }) rfl (fun KK hKK => ?_) (AllReadyH.nil)
    go_simp
    refine hKK.out _ _ (by exact HSS.out w7 _ hHeld) (fun hHeld => ?_)
    clear hKK KK
    try simp only [Act.put, List.setIfInBounds_toArray, List.set_cons_zero, List.set_cons_succ]
    refine wpAnyH_done (by kernel_rfl) ?_ _
    refine NoPanic.normal ?_
    have HK8 := Lib.hid (HK7.out.setLeft (.slice (some ⟨g7, 0, none⟩) ((quartL t l b r).length + q.length) c7))
    have HP8 := Lib.hid (HP7.out.setB (k := 1) (.slice (some ⟨g7, 0, none⟩) ((quartL t l b r).length + q.length) c7))
    have HO8 := Lib.hid (HO7.out.setB (k := 1) HB.out.2 (.slice (some ⟨g7, 0, none⟩) ((quartL t l b r).length + q.length) c7))
    have HL8 := Lib.hid (HL7.out.setCell (p := ⟨B, 1, none⟩) HB.out.1 (Nat.lt_succ_self _) (.slice (some ⟨g7, 0, none⟩) ((quartL t l b r).length + q.length) c7))
    obtain ⟨W8, eW8⟩ : ∃ z, z = w7.setCell ⟨B, 1, none⟩ (.slice (some ⟨g7, 0, none⟩) ((quartL t l b r).length + q.length) c7) := ⟨_, rfl⟩
    rw [← eW8] at hHeld HK8 HP8 HO8 HL8 ⊢
    obtain ⟨d0, d1, d2, d3⟩ := hHeld.1
    clear hHeld eW8
    go_wp2_with (go_at_call 58; refine (HPC.out _).mono ?_; rintro e9 w9 ⟨rfl, hg9⟩)
    have HG9 := Lib.hid hg9
    clear hg9
    go_ret
    exact ⟨by rw [HDD.out]; rfl, _, HK8.out.within (HG9.out.within 0 0) (.inr (Nat.zero_le _)), HP8.out.grew HG9.out, HO8.out.grew HG9.out, HL8.out.trans (HG9.out.within _ _)⟩

set_option maxRecDepth 100000 in
set_option maxHeartbeats 4000000 in
theorem read_open0 (B : Nat) (w : World) (hv lv : Value) (num : Nat) (n m lo hi : Nat) (f : Nat → Nat → Int) (hn1 : 1 ≤ n) (hn5 : n ≤ 5) (hm1 : 1 ≤ m) (hm5 : m ≤ 5) (hlo : lo ≤ B) (hB : hi ≤ B) (hq : QR B w hv lv num) (hp : PartsV hi B w lv []) (hO : RowsO 28 3 lo hi w hv (tabR n m f)) :
    Calls Tryd.prog 46 #[.pointer (some ⟨B, 0, none⟩), .int .i32 40] w fun e w' => e = .returned (.bool false) ∧ Within lo (B + 1) w w' := by
  have HQ := Lib.hid hq
  have HO := Lib.hid hO
  have HB := Lib.hid (And.intro hlo hB)
  have HT := Lib.hid (take_none hi B w hv lv num hq hp)
  have HP := Lib.hid hp
  have HNM := Lib.hid (And.intro (And.intro hn1 hn5) (And.intro hm1 hm5))
  clear hq hp hO hlo hB hn1 hn5 hm1 hm5 
  go_enter Tryd.func46, Tryd.ntmps46
  go_wp2_with (fail)
  refine HT.out.mono ?_
  rintro e w1 ⟨rfl, hw1⟩
  obtain ⟨lv', elv⟩ : ∃ z, z = lv := ⟨_, rfl⟩
  subst elv
  obtain ⟨q, eq0⟩ : ∃ z : List (Nat × Nat × Nat × Nat), z = [] := ⟨_, rfl⟩
  have HQ1 := Lib.hid (HQ.out.within (hw1.within 0 0) (.inr (Nat.zero_le _)))
  have HP1 := Lib.hid (HP.out.grew hw1)
  rw [← eq0] at HP1
  have HW1 : Hid (Within lo (B + 1) w w1) := Lib.hid (hw1.within _ _)
  have HO1 : Hid (RowsO 28 3 lo hi w1 hv (tabR n m f)) := Lib.hid (HO.out.grew hw1)
  have hBs : B < w1.heap.size := World.block_lt_of_cell? _ _ HQ1.out.1
  clear hw1 HT
  have HBS := Lib.hid hBs
  obtain ⟨W2, hW2⟩ : ∃ W2, w1.alloc (.cells #[.int .i64 0, .int .i64 0, .int .i64 0, .int .i64 0] 44) = W2 := ⟨_, rfl⟩
  have HG2 : Hid (Grew w1 W2) := Lib.hid (by rw [← hW2]; exact (Grew.refl _).alloc _)
  have HBX : Hid (∀ W, Grew W2 W → W.cell? ⟨w1.heap.size, 0, none⟩ = some (.int .i64 0) ∧ W.cell? ⟨w1.heap.size, 1, none⟩ = some (.int .i64 0) ∧ W.cell? ⟨w1.heap.size, 2, none⟩ = some (.int .i64 0) ∧ W.cell? ⟨w1.heap.size, 3, none⟩ = some (.int .i64 0)) := Lib.hid fun W hW => by
    rw [← hW2] at hW
    exact ⟨hW.cell (by simp), hW.cell (by simp), hW.cell (by simp), hW.cell (by simp)⟩
  have HW2 := Lib.hid hW2
  clear hW2 hBs
  go_wp2_with (fail)
  rw [HW2.out]
  obtain ⟨d0, d1, d2, d3⟩ := HBX.out _ (Grew.refl W2).drew
  have k1 := HG2.out.drew.cell HQ1.out.2.1
  have HGD : Hid (Grew W2 W2.drew) := Lib.hid (Grew.refl W2).drew
  have HG2D : Hid (Grew w1 W2.drew) := Lib.hid HG2.out.drew
  have HSB : Hid (B < W2.drew.heap.size ∧ hi ≤ W2.drew.heap.size) := Lib.hid (by have := HBS.out; have := HG2D.out.size; have := HB.out; exact ⟨by omega, by omega⟩)
  have HLQ : Hid ((quartL 0 0 0 0).length + q.length ≤ 1000000) := Lib.hid (by rw [eq0]; decide)
  clear eq0
  have HQU : Hid (∀ W, Calls Tryd.prog 42 #[.agg #[.int .i64 0, .int .i64 0, .int .i64 0, .int .i64 0]] W (QuartersPost 0 0 0 0 W)) := Lib.hid fun W => quarters_any 0 0 0 0 W (by decide) (by decide) (by decide) (by decide)
  unfold QuartersPost at HQU
  have HPC : Hid (∀ W, Calls Tryd.prog 58 #[.agg #[.int .i64 0, .int .i64 0, .int .i64 0, .int .i64 0]] W fun e w' => e = .returned (.int .i64 ((0 - 0) * (0 - 0))) ∧ Grew W w') := Lib.hid fun W => partCells_any 0 0 0 0 W (by decide) (by decide) (by decide) (by decide) (by decide) (by decide)
  have HSS : Hid (∀ (W : World) (x : Value), (W.cell? ⟨w1.heap.size, 0, none⟩ = some (.int .i64 0) ∧ W.cell? ⟨w1.heap.size, 1, none⟩ = some (.int .i64 0) ∧ W.cell? ⟨w1.heap.size, 2, none⟩ = some (.int .i64 0) ∧ W.cell? ⟨w1.heap.size, 3, none⟩ = some (.int .i64 0)) ∧ Within B (B + 1) W2 W → ((W.setCell ⟨B, 1, none⟩ x).cell? ⟨w1.heap.size, 0, none⟩ = some (.int .i64 0) ∧ (W.setCell ⟨B, 1, none⟩ x).cell? ⟨w1.heap.size, 1, none⟩ = some (.int .i64 0) ∧ (W.setCell ⟨B, 1, none⟩ x).cell? ⟨w1.heap.size, 2, none⟩ = some (.int .i64 0) ∧ (W.setCell ⟨B, 1, none⟩ x).cell? ⟨w1.heap.size, 3, none⟩ = some (.int .i64 0)) ∧ Within B (B + 1) W2 (W.setCell ⟨B, 1, none⟩ x)) := Lib.hid fun W x h => ⟨⟨(World.cell?_setCell_other _ _ _ _ (by first | (simp; done) | (simp; intro e; exact absurd e (Nat.ne_of_lt HBS.out)))).trans h.1.1, (World.cell?_setCell_other _ _ _ _ (by first | (simp; done) | (simp; intro e; exact absurd e (Nat.ne_of_lt HBS.out)))).trans h.1.2.1, (World.cell?_setCell_other _ _ _ _ (by first | (simp; done) | (simp; intro e; exact absurd e (Nat.ne_of_lt HBS.out)))).trans h.1.2.2.1, (World.cell?_setCell_other _ _ _ _ (by first | (simp; done) | (simp; intro e; exact absurd e (Nat.ne_of_lt HBS.out)))).trans h.1.2.2.2⟩, h.2.setCell (p := ⟨B, 1, none⟩) (Nat.le_refl _) (Nat.lt_succ_self _) x⟩
  refine wp_region_noPanic ?_
  refine wp_region_held_drew (S := fun W => (W.cell? ⟨w1.heap.size, 0, none⟩ = some (.int .i64 0) ∧ W.cell? ⟨w1.heap.size, 1, none⟩ = some (.int .i64 0) ∧ W.cell? ⟨w1.heap.size, 2, none⟩ = some (.int .i64 0) ∧ W.cell? ⟨w1.heap.size, 3, none⟩ = some (.int .i64 0)) ∧ Within B (B + 1) W2 W) (by kernel_rfl) (by exact ⟨HBX.out _ HGD.out, HGD.out.within _ _⟩) (fun hHeld => ?_)
  refine wpAnyH_take (i := 0) (oi := { dst := some 78, op := Op.move (Operand.tmp 0), type := 92, pos := _, after := #[], guard := none }) (v := ?_) rfl (by kernel_rfl) (by kernel_rfl) (by kernel_rfl) (fun _ _ _ h => h) (Or.inl ⟨by rfl, ?hy⟩) (by assumption) ?_
  case hy => (intro w hSw; (try dsimp only at hSw); go_simp; try with_reducible rfl)
  try simp only [Act.put, List.setIfInBounds_toArray, List.set_cons_zero, List.set_cons_succ]
  refine wpAnyH_take (i := 1) (oi := { dst := some 79, op := Op.load 44 (Operand.tmp 9), type := 44, pos := _, after := #[], guard := none }) (v := ?_) rfl (by kernel_rfl) (by kernel_rfl) (by kernel_rfl) (fun _ _ _ h => h) (Or.inl ⟨by rfl, ?hy⟩) (by assumption) ?_
  case hy => (intro w hSw; (try dsimp only at hSw); go_simp; try with_reducible rfl)
  try simp only [Act.put, List.setIfInBounds_toArray, List.set_cons_zero, List.set_cons_succ]
  refine wpAnyH_take (i := 3) (oi := { dst := some 81, op := Op.move (Operand.tmp 0), type := 92, pos := _, after := #[], guard := none }) (v := ?_) rfl (by kernel_rfl) (by kernel_rfl) (by kernel_rfl) (fun _ _ _ h => h) (Or.inl ⟨by rfl, ?hy⟩) (by assumption) ?_
  case hy => (intro w hSw; (try dsimp only at hSw); go_simp; try with_reducible rfl)
  try simp only [Act.put, List.setIfInBounds_toArray, List.set_cons_zero, List.set_cons_succ]
  refine wpAnyH_take (i := 4) (oi := { dst := some 82, op := Op.nilCheck (Operand.tmp 81), type := 0, pos := _, after := #[{ on := 3, ground := Ground.data }], guard := none }) (v := ?_) rfl (by kernel_rfl) (by kernel_rfl) (by kernel_rfl) (fun _ _ _ h => h) (Or.inl ⟨by rfl, ?hy⟩) (by assumption) ?_
  case hy => (intro w hSw; (try dsimp only at hSw); go_simp; try with_reducible rfl)
  try simp only [Act.put, List.setIfInBounds_toArray, List.set_cons_zero, List.set_cons_succ]
  refine wpAnyH_take (i := 5) (oi := { dst := some 83, op := Op.fieldAddr 72 (Operand.tmp 82) 1, type := 0, pos := _, after := #[{ on := 4, ground := Ground.data }], guard := none }) (v := ?_) rfl (by kernel_rfl) (by kernel_rfl) (by kernel_rfl) (fun _ _ _ h => h) (Or.inl ⟨by rfl, ?hy⟩) (by assumption) ?_
  case hy => (intro w hSw; (try dsimp only at hSw); go_simp; try with_reducible rfl)
  try simp only [Act.put, List.setIfInBounds_toArray, List.set_cons_zero, List.set_cons_succ]
  refine wpAnyH_ready (rs := [2, 6]) (by kernel_rfl) (by simp) ?_
  refine AllReadyH.cons (i := 2) (o := { dst := some 80, op := Op.call { callee := Callee.value (Operand.func 42), args := #[Operand.tmp 79], argTypes := #[44] }, type := 67, pos := _, after := #[{ on := 1, ground := Ground.data }], guard := none }) rfl (fun KK hKK => ?_) (AllReadyH.cons (i := 6) (o := { dst := some 84, op := Op.load 67 (Operand.tmp 83), type := 67, pos := _, after := #[{ on := 5, ground := Ground.data }], guard := none }) rfl (fun KK hKK => ?_) (AllReadyH.nil))
  · go_simp
    go_at_call 42
    refine (HQU.out _).mono ?_
    rintro e5 w5 ⟨v5, rfl, hP5, hg5⟩
    have HP5 := Lib.hid hP5
    have HG5 := Lib.hid (HG2D.out.trans hg5)
    have HGQ := Lib.hid hg5
    have k1 := HG5.out.cell HQ1.out.2.1
    clear hP5 hg5
    refine hKK.out _ _ (by exact ⟨HBX.out _ (HGD.out.trans HGQ.out), (HGD.out.trans HGQ.out).within _ _⟩) (fun hHeld => ?_)
    clear hKK KK
    try simp only [Act.put, List.setIfInBounds_toArray, List.set_cons_zero, List.set_cons_succ]
    refine wpAnyH_ready (rs := [6]) (by kernel_rfl) (by simp) ?_
    refine AllReadyH.cons (i := 6) (o := { dst := some 84, op := Op.load 67 (Operand.tmp 83), type := 67, pos := _, after := #[{ on := 5, ground := Ground.data }], guard := none }) rfl (fun KK hKK => ?_) (AllReadyH.nil)
    go_simp
    refine hKK.out _ _ (by exact hHeld) (fun hHeld => ?_)
    clear hKK KK
    try simp only [Act.put, List.setIfInBounds_toArray, List.set_cons_zero, List.set_cons_succ]
    refine wpAnyH_ready (rs := [7]) (by kernel_rfl) (by simp) ?_
    refine AllReadyH.cons (i := 7) (o := { dst := some 85, op := Op.call { callee := Callee.builtin Builtin.append, args := #[Operand.tmp 80, Operand.tmp 84], argTypes := #[67, 67] }, type := 67, pos := _, after := #[{ on := 2, ground := Ground.data }, { on := 6, ground := Ground.data }, { on := 2, ground := Ground.chain }], guard := none }) rfl (fun KK hKK => ?_) (AllReadyH.nil)
    refine step_append_parts (lo := W2.drew.heap.size) (hi' := w5.heap.size) (lo2 := hi) (B := B) (v := v5) (v2 := lv') (q := quartL 0 0 0 0) (r := q) rfl (.tmp 80) (.tmp 84) 67 rfl Tryd.underlying67 Tryd.infoPart (by simp [Act.eval]) (by simp [Act.eval]) HP5.out (HP1.out.grew HG5.out) HLQ.out HGQ.out.size HSB.out.1 HSB.out.2 (Nat.succ_pos _) ?_
    intro g7 c7 w7 hP7 hW7
    have HP7 := Lib.hid hP7
    have HW7 := Lib.hid hW7
    have HK7 : Hid (QR B w7 hv lv' num) := Lib.hid ((HQ1.out.within (HG5.out.within 0 0) (.inr (Nat.zero_le _))).within hW7 (.inl HSB.out.1))
    have HO7 : Hid (RowsO 28 3 lo hi w7 hv (tabR n m f)) := Lib.hid ((HO1.out.grew HG5.out).within hW7 (.inl (Nat.le_trans HB.out.2 (Nat.le_of_lt HSB.out.1))))
    have HL7 : Hid (Within lo (B + 1) w w7) := Lib.hid (HW1.out.trans ((HG2D.out.trans (Within.grew HGQ.out hW7 (Nat.le_refl _))).within _ _))
    have j1 := HK7.out.2.1
    have jf := HK7.out.2.2.2.2.1
    clear hP7 hW7
    refine hKK.out _ _ (by exact ⟨HBX.out _ (HGD.out.trans (Within.grew HGQ.out HW7.out (Nat.le_refl _))), (HGD.out.trans (Within.grew HGQ.out HW7.out (Nat.le_refl _))).within _ _⟩) (fun hHeld => ?_)
    clear hKK KK
    try simp only [Act.put, List.setIfInBounds_toArray, List.set_cons_zero, List.set_cons_succ]
    refine wpAnyH_take (i := 8) (oi := { dst := some 86, op := Op.nilCheck (Operand.tmp 78), type := 0, pos := _, after := #[{ on := 0, ground := Ground.data }, { on := 0, ground := Ground.phase }, { on := 1, ground := Ground.phase }, { on := 2, ground := Ground.phase }, { on := 3, ground := Ground.phase }, { on := 4, ground := Ground.phase }, { on := 5, ground := Ground.phase }, { on := 6, ground := Ground.phase }, { on := 7, ground := Ground.phase }], guard := none }) (v := ?_) rfl (by kernel_rfl) (by kernel_rfl) (by kernel_rfl) (fun _ _ _ h => h) (Or.inl ⟨by rfl, ?hy⟩) (by assumption) ?_
    case hy => (intro w hSw; (try dsimp only at hSw); go_simp; try with_reducible rfl)
    try simp only [Act.put, List.setIfInBounds_toArray, List.set_cons_zero, List.set_cons_succ]
    refine wpAnyH_take (i := 9) (oi := { dst := some 87, op := Op.fieldAddr 72 (Operand.tmp 86) 1, type := 0, pos := _, after := #[{ on := 8, ground := Ground.data }, { on := 0, ground := Ground.phase }, { on := 1, ground := Ground.phase }, { on := 2, ground := Ground.phase }, { on := 3, ground := Ground.phase }, { on := 4, ground := Ground.phase }, { on := 5, ground := Ground.phase }, { on := 6, ground := Ground.phase }, { on := 7, ground := Ground.phase }], guard := none }) (v := ?_) rfl (by kernel_rfl) (by kernel_rfl) (by kernel_rfl) (fun _ _ _ h => h) (Or.inl ⟨by rfl, ?hy⟩) (by assumption) ?_
    case hy => (intro w hSw; (try dsimp only at hSw); go_simp; try with_reducible rfl)
    try simp only [Act.put, List.setIfInBounds_toArray, List.set_cons_zero, List.set_cons_succ]
    refine wpAnyH_ready (rs := [10]) (by kernel_rfl) (by simp) ?_
    refine AllReadyH.cons (i := 10) (o := { dst := none, op := Op.store 67 (Operand.tmp 87) (Operand.tmp 85), type := 0, pos := _, after := #[{ on := 9, ground := Ground.data }, { on := 7, ground := Ground.data }, { on := 7, ground := Ground.chain }, { on := 0, ground := Ground.phase }, { on := 1, ground := Ground.phase }, { on := 2, ground := Ground.phase }, { on := 3, ground := Ground.phase }, { on := 4, ground := Ground.phase }, { on := 5, ground := Ground.phase }, { on := 6, ground := Ground.phase }, { on := 7, ground := Ground.phase }], guard := none }) rfl (fun KK hKK => ?_) (AllReadyH.nil)
    go_simp
    refine hKK.out _ _ (by exact HSS.out w7 _ hHeld) (fun hHeld => ?_)
    clear hKK KK
    try simp only [Act.put, List.setIfInBounds_toArray, List.set_cons_zero, List.set_cons_succ]
    refine wpAnyH_done (by kernel_rfl) ?_ _
    refine NoPanic.normal ?_
    have HK8 := Lib.hid (HK7.out.setLeft (.slice (some ⟨g7, 0, none⟩) ((quartL 0 0 0 0).length + q.length) c7))
    have HP8 := Lib.hid (HP7.out.setB (k := 1) (.slice (some ⟨g7, 0, none⟩) ((quartL 0 0 0 0).length + q.length) c7))
    have HO8 := Lib.hid (HO7.out.setB (k := 1) HB.out.2 (.slice (some ⟨g7, 0, none⟩) ((quartL 0 0 0 0).length + q.length) c7))
    have HL8 := Lib.hid (HL7.out.setCell (p := ⟨B, 1, none⟩) HB.out.1 (Nat.lt_succ_self _) (.slice (some ⟨g7, 0, none⟩) ((quartL 0 0 0 0).length + q.length) c7))
    obtain ⟨W8, eW8⟩ : ∃ z, z = w7.setCell ⟨B, 1, none⟩ (.slice (some ⟨g7, 0, none⟩) ((quartL 0 0 0 0).length + q.length) c7) := ⟨_, rfl⟩
    rw [← eW8] at hHeld HK8 HP8 HO8 HL8 ⊢
    obtain ⟨d0, d1, d2, d3⟩ := hHeld.1
    clear hHeld eW8
    go_wp2_with (go_at_call 58; refine (HPC.out _).mono ?_; rintro e9 w9 ⟨rfl, hg9⟩)
    have HG9 := Lib.hid hg9
    clear hg9
    go_ret
    exact ⟨rfl, HL8.out.trans (HG9.out.within _ _)⟩
  · go_simp
    refine hKK.out _ _ (by exact hHeld) (fun hHeld => ?_)
    clear hKK KK
    try simp only [Act.put, List.setIfInBounds_toArray, List.set_cons_zero, List.set_cons_succ]
    refine wpAnyH_ready (rs := [2]) (by kernel_rfl) (by simp) ?_
    refine AllReadyH.cons (i := 2) (o := { dst := some 80, op := Op.call { callee := Callee.value (Operand.func 42), args := #[Operand.tmp 79], argTypes := #[44] }, type := 67, pos := _, after := #[{ on := 1, ground := Ground.data }], guard := none }) rfl (fun KK hKK => ?_) (AllReadyH.nil)
    go_simp
    go_at_call 42
    refine (HQU.out _).mono ?_
    rintro e5 w5 ⟨v5, rfl, hP5, hg5⟩
    have HP5 := Lib.hid hP5
    have HG5 := Lib.hid (HG2D.out.trans hg5)
    have HGQ := Lib.hid hg5
    have k1 := HG5.out.cell HQ1.out.2.1
    clear hP5 hg5
    refine hKK.out _ _ (by exact ⟨HBX.out _ (HGD.out.trans HGQ.out), (HGD.out.trans HGQ.out).within _ _⟩) (fun hHeld => ?_)
    clear hKK KK
    try simp only [Act.put, List.setIfInBounds_toArray, List.set_cons_zero, List.set_cons_succ]
    refine wpAnyH_ready (rs := [7]) (by kernel_rfl) (by simp) ?_
    refine AllReadyH.cons (i := 7) (o := { dst := some 85, op := Op.call { callee := Callee.builtin Builtin.append, args := #[Operand.tmp 80, Operand.tmp 84], argTypes := #[67, 67] }, type := 67, pos := _, after := #[{ on := 2, ground := Ground.data }, { on := 6, ground := Ground.data }, { on := 2, ground := Ground.chain }], guard := none }) rfl (fun KK hKK => ?_) (AllReadyH.nil)
    refine step_append_parts (lo := W2.drew.heap.size) (hi' := w5.heap.size) (lo2 := hi) (B := B) (v := v5) (v2 := lv') (q := quartL 0 0 0 0) (r := q) rfl (.tmp 80) (.tmp 84) 67 rfl Tryd.underlying67 Tryd.infoPart (by simp [Act.eval]) (by simp [Act.eval]) HP5.out (HP1.out.grew HG5.out) HLQ.out HGQ.out.size HSB.out.1 HSB.out.2 (Nat.succ_pos _) ?_
    intro g7 c7 w7 hP7 hW7
    have HP7 := Lib.hid hP7
    have HW7 := Lib.hid hW7
    have HK7 : Hid (QR B w7 hv lv' num) := Lib.hid ((HQ1.out.within (HG5.out.within 0 0) (.inr (Nat.zero_le _))).within hW7 (.inl HSB.out.1))
    have HO7 : Hid (RowsO 28 3 lo hi w7 hv (tabR n m f)) := Lib.hid ((HO1.out.grew HG5.out).within hW7 (.inl (Nat.le_trans HB.out.2 (Nat.le_of_lt HSB.out.1))))
    have HL7 : Hid (Within lo (B + 1) w w7) := Lib.hid (HW1.out.trans ((HG2D.out.trans (Within.grew HGQ.out hW7 (Nat.le_refl _))).within _ _))
    have j1 := HK7.out.2.1
    have jf := HK7.out.2.2.2.2.1
    clear hP7 hW7
    refine hKK.out _ _ (by exact ⟨HBX.out _ (HGD.out.trans (Within.grew HGQ.out HW7.out (Nat.le_refl _))), (HGD.out.trans (Within.grew HGQ.out HW7.out (Nat.le_refl _))).within _ _⟩) (fun hHeld => ?_)
    clear hKK KK
    try simp only [Act.put, List.setIfInBounds_toArray, List.set_cons_zero, List.set_cons_succ]
    refine wpAnyH_take (i := 8) (oi := { dst := some 86, op := Op.nilCheck (Operand.tmp 78), type := 0, pos := _, after := #[{ on := 0, ground := Ground.data }, { on := 0, ground := Ground.phase }, { on := 1, ground := Ground.phase }, { on := 2, ground := Ground.phase }, { on := 3, ground := Ground.phase }, { on := 4, ground := Ground.phase }, { on := 5, ground := Ground.phase }, { on := 6, ground := Ground.phase }, { on := 7, ground := Ground.phase }], guard := none }) (v := ?_) rfl (by kernel_rfl) (by kernel_rfl) (by kernel_rfl) (fun _ _ _ h => h) (Or.inl ⟨by rfl, ?hy⟩) (by assumption) ?_
    case hy => (intro w hSw; (try dsimp only at hSw); go_simp; try with_reducible rfl)
    try simp only [Act.put, List.setIfInBounds_toArray, List.set_cons_zero, List.set_cons_succ]
    refine wpAnyH_take (i := 9) (oi := { dst := some 87, op := Op.fieldAddr 72 (Operand.tmp 86) 1, type := 0, pos := _, after := #[{ on := 8, ground := Ground.data }, { on := 0, ground := Ground.phase }, { on := 1, ground := Ground.phase }, { on := 2, ground := Ground.phase }, { on := 3, ground := Ground.phase }, { on := 4, ground := Ground.phase }, { on := 5, ground := Ground.phase }, { on := 6, ground := Ground.phase }, { on := 7, ground := Ground.phase }], guard := none }) (v := ?_) rfl (by kernel_rfl) (by kernel_rfl) (by kernel_rfl) (fun _ _ _ h => h) (Or.inl ⟨by rfl, ?hy⟩) (by assumption) ?_
    case hy => (intro w hSw; (try dsimp only at hSw); go_simp; try with_reducible rfl)
    try simp only [Act.put, List.setIfInBounds_toArray, List.set_cons_zero, List.set_cons_succ]
    refine wpAnyH_ready (rs := [10]) (by kernel_rfl) (by simp) ?_
    refine AllReadyH.cons (i := 10) (o := { dst := none, op := Op.store 67 (Operand.tmp 87) (Operand.tmp 85), type := 0, pos := _, after := #[{ on := 9, ground := Ground.data }, { on := 7, ground := Ground.data }, { on := 7, ground := Ground.chain }, { on := 0, ground := Ground.phase }, { on := 1, ground := Ground.phase }, { on := 2, ground := Ground.phase }, { on := 3, ground := Ground.phase }, { on := 4, ground := Ground.phase }, { on := 5, ground := Ground.phase }, { on := 6, ground := Ground.phase }, { on := 7, ground := Ground.phase }], guard := none }) rfl (fun KK hKK => ?_) (AllReadyH.nil)
    go_simp
    refine hKK.out _ _ (by exact HSS.out w7 _ hHeld) (fun hHeld => ?_)
    clear hKK KK
    try simp only [Act.put, List.setIfInBounds_toArray, List.set_cons_zero, List.set_cons_succ]
    refine wpAnyH_done (by kernel_rfl) ?_ _
    refine NoPanic.normal ?_
    have HK8 := Lib.hid (HK7.out.setLeft (.slice (some ⟨g7, 0, none⟩) ((quartL 0 0 0 0).length + q.length) c7))
    have HP8 := Lib.hid (HP7.out.setB (k := 1) (.slice (some ⟨g7, 0, none⟩) ((quartL 0 0 0 0).length + q.length) c7))
    have HO8 := Lib.hid (HO7.out.setB (k := 1) HB.out.2 (.slice (some ⟨g7, 0, none⟩) ((quartL 0 0 0 0).length + q.length) c7))
    have HL8 := Lib.hid (HL7.out.setCell (p := ⟨B, 1, none⟩) HB.out.1 (Nat.lt_succ_self _) (.slice (some ⟨g7, 0, none⟩) ((quartL 0 0 0 0).length + q.length) c7))
    obtain ⟨W8, eW8⟩ : ∃ z, z = w7.setCell ⟨B, 1, none⟩ (.slice (some ⟨g7, 0, none⟩) ((quartL 0 0 0 0).length + q.length) c7) := ⟨_, rfl⟩
    rw [← eW8] at hHeld HK8 HP8 HO8 HL8 ⊢
    obtain ⟨d0, d1, d2, d3⟩ := hHeld.1
    clear hHeld eW8
    go_wp2_with (go_at_call 58; refine (HPC.out _).mono ?_; rintro e9 w9 ⟨rfl, hg9⟩)
    have HG9 := Lib.hid hg9
    clear hg9
    go_ret
    exact ⟨rfl, HL8.out.trans (HG9.out.within _ _)⟩

set_option maxRecDepth 100000 in
set_option maxHeartbeats 4000000 in
theorem read_close (B : Nat) (w : World) :
    Calls Tryd.prog 46 #[.pointer (some ⟨B, 0, none⟩), .int .i32 41] w fun e w' => e = .returned (.bool true) ∧ w' = w := by
  go_enter Tryd.func46, Tryd.ntmps46
  go_wp2
  go_ret
  exact ⟨rfl, rfl⟩

set_option maxRecDepth 100000 in
set_option maxHeartbeats 4000000 in
theorem read_other (B c : Nat) (w : World) (h48 : c ≠ 48) (h49 : c ≠ 49) (h50 : c ≠ 50) (h51 : c ≠ 51) (h52 : c ≠ 52) (h53 : c ≠ 53) (h54 : c ≠ 54) (h55 : c ≠ 55) (h56 : c ≠ 56) (h57 : c ≠ 57) (h59 : c ≠ 59) (h46 : c ≠ 46) (h40 : c ≠ 40) (h41 : c ≠ 41) :
    Calls Tryd.prog 46 #[.pointer (some ⟨B, 0, none⟩), .int .i32 (c : Int)] w fun e w' => e = .returned (.bool false) ∧ w' = w := by
  have k48 : decide ((c : Int) = 48) = false := decide_eq_false (by omega)
  have j48 : ¬ ((c : Int) = 48) := by omega
  have k49 : decide ((c : Int) = 49) = false := decide_eq_false (by omega)
  have j49 : ¬ ((c : Int) = 49) := by omega
  have k50 : decide ((c : Int) = 50) = false := decide_eq_false (by omega)
  have j50 : ¬ ((c : Int) = 50) := by omega
  have k51 : decide ((c : Int) = 51) = false := decide_eq_false (by omega)
  have j51 : ¬ ((c : Int) = 51) := by omega
  have k52 : decide ((c : Int) = 52) = false := decide_eq_false (by omega)
  have j52 : ¬ ((c : Int) = 52) := by omega
  have k53 : decide ((c : Int) = 53) = false := decide_eq_false (by omega)
  have j53 : ¬ ((c : Int) = 53) := by omega
  have k54 : decide ((c : Int) = 54) = false := decide_eq_false (by omega)
  have j54 : ¬ ((c : Int) = 54) := by omega
  have k55 : decide ((c : Int) = 55) = false := decide_eq_false (by omega)
  have j55 : ¬ ((c : Int) = 55) := by omega
  have k56 : decide ((c : Int) = 56) = false := decide_eq_false (by omega)
  have j56 : ¬ ((c : Int) = 56) := by omega
  have k57 : decide ((c : Int) = 57) = false := decide_eq_false (by omega)
  have j57 : ¬ ((c : Int) = 57) := by omega
  have k59 : decide ((c : Int) = 59) = false := decide_eq_false (by omega)
  have j59 : ¬ ((c : Int) = 59) := by omega
  have k46 : decide ((c : Int) = 46) = false := decide_eq_false (by omega)
  have j46 : ¬ ((c : Int) = 46) := by omega
  have k40 : decide ((c : Int) = 40) = false := decide_eq_false (by omega)
  have j40 : ¬ ((c : Int) = 40) := by omega
  have k41 : decide ((c : Int) = 41) = false := decide_eq_false (by omega)
  have j41 : ¬ ((c : Int) = 41) := by omega
  clear h48 h49 h50 h51 h52 h53 h54 h55 h56 h57 h59 h46 h40 h41
  have b41 : ((c : Int) == 41) = false := by rw [beq_eq_false_iff_ne]; exact j41
  go_enter Tryd.func46, Tryd.ntmps46
  go_wp2
  go_ret
  refine ⟨?_, rfl⟩

  simp

/-- What a step of the reader leaves. -/
def ReadPost (B n m lo hi : Nat) (hv : Value) (w : World) (o : Option RS) (e : Ending) (w' : World) : Prop := match o with
  | none => e = .returned (.bool false) ∧ Within lo (B + 1) w w'
  | some s => e = .returned (.bool true) ∧ ∃ lv', QR B w' hv lv' s.num ∧ PartsV hi B w' lv' s.q ∧ RowsO 28 3 lo hi w' hv (tabR n m s.f) ∧ Within lo (B + 1) w w'
theorem read_any (c B : Nat) (w : World) (hv lv : Value) (n m lo hi : Nat) (s : RS) (hn1 : 1 ≤ n) (hn5 : n ≤ 5) (hm1 : 1 ≤ m) (hm5 : m ≤ 5) (hlo : lo ≤ B) (hB : hi ≤ B) (inv : RInv n m s) (hq : QR B w hv lv s.num) (hp : PartsV hi B w lv s.q) (hO : RowsO 28 3 lo hi w hv (tabR n m s.f)) :
    Calls Tryd.prog 46 #[.pointer (some ⟨B, 0, none⟩), .int .i32 (c : Int)] w (ReadPost B n m lo hi hv w (stepR c s)) := by
  obtain ⟨f, q, num⟩ := s
  obtain ⟨hpa, hnum, hts, hwt⟩ := inv
  simp only at hpa hnum hts hwt hq hp hO
  by_cases hd : 48 ≤ c ∧ c ≤ 57
  · obtain ⟨d, rfl⟩ : ∃ d, c = 48 + d := ⟨c - 48, by omega⟩
    refine (read_digit B w hv lv num d hnum (by omega) hq).mono ?_
    rintro e w' ⟨rfl, rfl⟩
    have e1 : stepR (48 + d) ⟨f, q, num⟩ = if 10 * num + d ≤ 12 then some ⟨f, q, 10 * num + d⟩ else none := by
      unfold stepR
      rw [if_pos hd, show 48 + d - 48 = d by omega]
    rw [e1]
    have hW : Within lo (B + 1) w (w.setCell ⟨B, 2, none⟩ (.int .i64 ((10 * num + d : Nat) : Int))) := (Within.refl _ _ _).setCell (p := ⟨B, 2, none⟩) hlo (Nat.lt_succ_self _) _
    by_cases h12 : 10 * num + d ≤ 12
    · rw [if_pos h12, decide_eq_true h12]
      exact ⟨rfl, lv, hq.setNum _, hp.setB _, hO.setB hB _, hW⟩
    · rw [if_neg h12, decide_eq_false h12]
      exact ⟨rfl, hW⟩
  · by_cases h59 : c = 59
    · subst h59
      cases q with
      | nil =>
        refine (read_semi0 B w hv lv num n m lo hi f hn1 hn5 hm1 hm5 hlo hB hq hp hO).mono ?_
        rintro e w' h
        exact h
      | cons p q =>
        obtain ⟨t, b, l, r⟩ := p
        have hh := hpa (t, b, l, r) (List.mem_cons_self ..)
        refine (read_semi B w hv lv num n m lo hi f t b l r q hn1 hn5 hm1 hm5 hlo hB hh.1 hh.2.1 hh.2.2.1 hh.2.2.2 hq hp hO).mono ?_
        rintro e w' h
        exact h
    by_cases h46 : c = 46
    · subst h46
      cases q with
      | nil =>
        refine (read_dot0 B w hv lv num n m lo hi f hn1 hn5 hm1 hm5 hlo hB hq hp hO).mono ?_
        rintro e w' h
        exact h
      | cons p q =>
        obtain ⟨t, b, l, r⟩ := p
        have hh := hpa (t, b, l, r) (List.mem_cons_self ..)
        refine (read_dot B w hv lv num n m lo hi f t b l r q hn1 hn5 hm1 hm5 hlo hB hh.1 hh.2.1 hh.2.2.1 hh.2.2.2 hq hp hO).mono ?_
        rintro e w' h
        exact h
    by_cases h40 : c = 40
    · subst h40
      cases q with
      | nil =>
        refine (read_open0 B w hv lv num n m lo hi f hn1 hn5 hm1 hm5 hlo hB hq hp hO).mono ?_
        rintro e w' h
        exact h
      | cons p q =>
        obtain ⟨t, b, l, r⟩ := p
        have hh := hpa (t, b, l, r) (List.mem_cons_self ..)
        have hql : q.length ≤ 100 := by
          have := wts_len ((t, b, l, r) :: q)
          rw [List.length_cons] at this
          omega
        refine (read_open B w hv lv num n m lo hi f t b l r q hn1 hn5 hm1 hm5 hlo hB hh.1 hh.2.1 hh.2.2.1 hh.2.2.2 hql hq hp hO).mono ?_
        rintro e w' ⟨rfl, lv', h1, h2, h3, h4⟩
        have e1 : stepR 40 ⟨f, (t, b, l, r) :: q, num⟩ = if 1 < (b - t) * (r - l) then some ⟨f, quartL t l b r ++ q, num⟩ else none := rfl
        rw [e1]
        by_cases hc : 1 < (b - t) * (r - l)
        · rw [if_pos hc, decide_eq_true hc]
          exact ⟨rfl, lv', h1, h2, h3, h4⟩
        · rw [if_neg hc, decide_eq_false hc]
          exact ⟨rfl, h4⟩
    by_cases h41 : c = 41
    · subst h41
      refine (read_close B w).mono ?_
      rintro e w' ⟨rfl, rfl⟩
      exact ⟨rfl, lv, hq, hp, hO, Within.refl _ _ _⟩
    · have e1 : stepR c ⟨f, q, num⟩ = none := by
        unfold stepR
        rw [if_neg hd, if_neg h59, if_neg h46, if_neg h40, if_neg h41]
      rw [e1]
      refine (read_other B c w (by omega) (by omega) (by omega) (by omega) (by omega) (by omega) (by omega) (by omega) (by omega) (by omega) (by omega) (by omega) (by omega) (by omega)).mono ?_
      rintro e w' ⟨rfl, rfl⟩
      exact ⟨rfl, Within.refl _ _ _⟩

end Go.Proofs.YtlfoimjohdaofaaDoor
