/- slices.Chunk as an iterator; rows that a loop over it collects. -/
import Derived.Test.YtdjjimnfhfdjdaaDoorShaped
import Derived.Test.YtdjjimnfhfdjdaaDoorClone
import Derived.Test.YtdjjimnfhfdjdaaDoorBase
import Derived.RangeFuncNested
import Derived.RangeFuncBound
import Derived.RangeFuncCalls
import Derived.RangeFuncLeaves
import Derived.RangeFuncBox
import Derived.Shelf.Abstract
import Derived.Shelf.RegionOpen
import Derived.OwnWalkIn
import Derived.TacticsInMore
import Derived.LoopNIn
import Derived.LoopIn
namespace Go.Proofs.YtdjjimnfhfdjdaaDoor
open Go.RowKit Go.Shelf

attribute [local go_sem] Oper.semAt_some

/-- The k-th cut of m, as a value. -/
def cutV (b o m : Nat) (k : Nat) : Value := .slice (some ⟨b, o + k * m, none⟩) m m
/-- The two boxes that slices.Chunk made lie as they lay. -/
def Keep2 (Bs Bm : Nat) (W W' : World) : Prop := W'.heap[Bs]? = W.heap[Bs]? ∧ W'.heap[Bm]? = W.heap[Bm]?
theorem Keep2.refl (Bs Bm : Nat) (W : World) : Keep2 Bs Bm W W := ⟨rfl, rfl⟩
theorem Keep2.trans {Bs Bm : Nat} {A B C : World} (h : Keep2 Bs Bm A B) (k : Keep2 Bs Bm B C) : Keep2 Bs Bm A C := ⟨k.1.trans h.1, k.2.trans h.2⟩
theorem Keep2.drew {Bs Bm : Nat} {A B : World} (h : Keep2 Bs Bm A B) : Keep2 Bs Bm A B.drew := h
def firstK (n k : Nat) : List (Fin n) := (List.finRange n).take k
theorem firstK_len (n k : Nat) (h : k ≤ n) : (firstK n k).length = k := by simp [firstK]; omega
theorem firstK_succ (n k : Nat) (h : k < n) : firstK n (k + 1) = firstK n k ++ [⟨k, h⟩] := by
  unfold firstK
  rw [List.take_succ_eq_append_getElem (by simpa using h)]
  simp
theorem firstK_all (n : Nat) : firstK n n = List.finRange n := List.take_of_length_le (by simp)

set_option maxRecDepth 100000 in
set_option maxHeartbeats 2000000 in
/-- slices.Chunk's closure: for every loop body that keeps what lay below n0. -/
theorem chunk1_in (F : Fence) (d : Nat) (hF : F.fn 85) (hro : F.round = none) (hd : 1 ≤ d) (l Bs Bm b o n m N c : Nat) (hN : n * m = N) (hn5 : n ≤ 6) (hm1 : 1 ≤ m) (hm5 : m ≤ 6) (hNc : N ≤ c) (_hcb : c ≤ 9223372036854775807)
    (J Jx : List (Fin n) → World → Prop)
    (hJ : ∀ s A B', J s A → A.grownBy B' none → J s B')
    (hY : ∀ pre (x : Fin n) W, J pre W → pre.length < n → YieldAt F (d - 1) Tryd.prog l #[cutV b o m x.1] W fun e W' =>
      (e = .returned (.bool true) ∧ J (pre ++ [x]) W' ∧ Keep2 Bs Bm W W') ∨ (e = .returned (.bool false) ∧ Jx (pre ++ [x]) W'))
    (W : World) (hcs : W.cell? ⟨Bs, 0, none⟩ = some (.slice (some ⟨b, o, none⟩) N c)) (hcm : W.cell? ⟨Bm, 0, none⟩ = some (.int .i64 m)) (h0 : J [] W) :
    CallsIn F d Tryd.prog 85 #[.func (.yield l) #[] #[], .pointer (some ⟨Bs, 0, none⟩), .pointer (some ⟨Bm, 0, none⟩)] W fun e W' => (∃ v, e = .returned v) ∧
      ((∃ ys, ys = List.finRange n ∧ J ys W') ∨ (∃ pre, pre <+: List.finRange n ∧ Jx pre W')) := by
  have hN25 : N ≤ 36 := by rw [← hN]; exact Nat.mul_le_mul hn5 hm5
  have HN := Lib.hid hN
  clear hN
  refine callsIn_of_wp Tryd.func85 rfl hF ?_ hro
  simp only [Tryd.ntmps85, List.size_toArray, List.length_cons, List.length_nil, Nat.reduceAdd, Nat.reduceSub, Array.replicate_succ, Array.replicate_zero, List.push_toArray, List.append_toArray, List.nil_append, List.cons_append]
  gi_wp2
  gi_loopw [4] (fun i wr => ∃ (k I : Nat), k ≤ n ∧ i = .int .i64 (I : Int) ∧ Hid (I = k * m) ∧ Hid (J (firstK n k) wr ∧ Keep2 Bs Bm W wr)) (fun i _ => N + 1 - (intOf i).toNat)
  case atStart => exact ⟨0, 0, Nat.zero_le _, rfl, Lib.hid (by simp), Lib.hid ⟨h0, Keep2.refl _ _ _⟩⟩
  case round =>
    obtain ⟨k, I, hk, rfl, HI, HJ⟩ := hrel
    have hcs' := (World.cell?_of_block (a := ⟨Bs, 0, none⟩) HJ.out.2.1).trans hcs
    have hcm' := (World.cell?_of_block (a := ⟨Bm, 0, none⟩) HJ.out.2.2).trans hcm
    by_cases hlt : k < n
    · have hIm : I + m ≤ N := by
        rw [HI.out, ← HN.out]
        have := Nat.mul_le_mul_right m (show k + 1 ≤ n from hlt)
        rw [Nat.succ_mul] at this
        exact this
      have hIN : (I : Int) < N := by omega
      have hci : ¬ c = I := by omega
      have hmn : ¬ N - I < m := by omega
      have HD : Hid (J (firstK n k) wr.drew ∧ Keep2 Bs Bm W wr.drew) := Lib.hid ⟨hJ _ _ _ HJ.out.1 ⟨rfl, rfl, rfl, Nat.le_refl _, fun _ _ _ => rfl⟩, HJ.out.2.drew⟩
      obtain ⟨fn, tmps, assign, body, hy, hR⟩ := hY (firstK n k) ⟨k, hlt⟩ wr.drew HD.out.1 (by rw [firstK_len n k hk]; exact hlt)
      rw [show cutV b o m (⟨k, hlt⟩ : Fin n).1 = .slice (some ⟨b, o + I, none⟩) m m by unfold cutV; rw [HI.out]] at hy
      have HR := Lib.hid hR
      clear hR
      gi_wp2
      gi_region
      all_goals
        gi_wp2
        refine HR.out.mono ?_
        rintro e W3 (⟨rfl, hJ3, hk3⟩ | ⟨rfl, hJx3⟩)
        · have H3 : Hid (J (firstK n (k + 1)) W3 ∧ Keep2 Bs Bm W W3) := Lib.hid ⟨by rw [firstK_succ n k hlt]; exact hJ3, HD.out.2.trans hk3⟩
          have hcm3 := (World.cell?_of_block (a := ⟨Bm, 0, none⟩) H3.out.2.2).trans hcm
          clear hJ3 hk3
          gi_wp2
          go_roundw
          case rel => exact ⟨k + 1, I + m, by omega, by go_num, Lib.hid (by rw [Nat.succ_mul, HI.out]), H3⟩
          case measure => simp [intOf]; omega
        · gi_wp2
          refine bodyPost_ret (results_none rfl _ _ _) rfl ?_
          exact ⟨⟨_, rfl⟩, .inr ⟨firstK n (k + 1), List.take_prefix _ _, by rw [firstK_succ n k hlt]; exact hJx3⟩⟩
    · obtain rfl : k = n := by omega
      have hIN : ¬ (I : Int) < N := by rw [HI.out, ← HN.out]; omega
      have hJk : J (List.finRange k) wr := by have := HJ.out.1; rwa [firstK_all] at this
      gi_wp2
      go_end0
      first | exact ⟨⟨_, rfl⟩, .inl hJk⟩ | exact ⟨⟨_, rfl⟩, .inl ⟨_, rfl, hJk⟩⟩

theorem chunk_stops (F : Fence) (d : Nat) (hF : F.fn 85) (hro : F.round = none) (hd : 1 ≤ d) (Bs Bm b o n m N c : Nat) (hN : n * m = N) (hn5 : n ≤ 6) (hm1 : 1 ≤ m) (hm5 : m ≤ 6) (hNc : N ≤ c) (hcb : c ≤ 9223372036854775807)
    (w : World) (hBs : Bs < w.heap.size) (hBm : Bm < w.heap.size) (hcs : w.cell? ⟨Bs, 0, none⟩ = some (.slice (some ⟨b, o, none⟩) N c)) (hcm : w.cell? ⟨Bm, 0, none⟩ = some (.int .i64 m)) :
    SeqStopsK F d Tryd.prog 85 #[.pointer (some ⟨Bs, 0, none⟩), .pointer (some ⟨Bm, 0, none⟩)] (fun x : Fin n => #[cutV b o m x.1]) (Keep2 Bs Bm) (fun ys => ys = List.finRange n) (fun pre => pre <+: List.finRange n) n w := fun l J Jx W hW hJ _ hY h0 =>
  chunk1_in F d hF hro hd l Bs Bm b o n m N c hN hn5 hm1 hm5 hNc hcb J Jx (fun s A B' hs hg => hJ s A B' none hs hg (fun r e => by cases e)) hY W
    ((hW.cell (p := ⟨Bs, 0, none⟩) hBs).trans hcs) ((hW.cell (p := ⟨Bm, 0, none⟩) hBm).trans hcm) h0

set_option maxRecDepth 100000 in
set_option maxHeartbeats 1000000 in
theorem chunk_any (a : Option Addr) (len cap m : Nat) (hm : 1 ≤ m) (w : World) :
    Calls Tryd.prog 70 #[.slice a len cap, .int .i64 m] w fun e w' => e = .returned (.func (.func 85) #[] #[.pointer (some ⟨w.heap.size, 0, none⟩), .pointer (some ⟨w.heap.size + 1, 0, none⟩)]) ∧ (w.alloc (.cells #[.slice a len cap] 25)).alloc (.cells #[.int .i64 m] 3) = w' := by
  have hm1 : ¬ (m : Int) < 1 := by omega
  have hmf : ∀ (fn : Fn) (first cap : Array Value) (w : World), (Instr.makeFunc fn first cap).run Tryd.prog w = .ok (.func fn first cap) w := fun _ _ _ _ => rfl
  go_enter Tryd.func70, Tryd.ntmps70
  go_wp2
  go_ret
  exact ⟨rfl, rfl⟩

/-- Rows of the call's own abide whatever leaves cells as they are. -/
theorem RowsO.kept {T E lo : Nat} {W W' : World} {v : Value} {H : List (List Int)} {row : Option Nat} (h : RowsO T E lo W.heap.size W v H) (hg : W.grownBy W' row) (hr : ∀ r, row = some r → ∃ o : Obj, W.heap[r]? = some o ∧ o.isCells = false) : RowsO T E lo W'.heap.size W' v H := by
  obtain ⟨V, h1, h2, h3, h4⟩ := h
  have key : ∀ {a n : Nat} {e : TypeId} {z : Value} {ys : List Value}, W.ownsRow a e 1 z n ys → W'.ownsRow a e 1 z n ys := fun {a n e z ys} hz =>
    ownsRow_block hz fun g e2 => by
      refine hg.block g (World.ownsRow.lt hz g e2).2 fun e3 => ?_
      obtain ⟨o, ho1, ho2⟩ := hr g e3.symm
      rcases hz.2 with ⟨e4, _⟩ | ⟨g1, cap, cur, e4, _, h6, _⟩
      · subst e4; simp [Value.ownBlock] at e2
      · subst e4
        simp only [Value.ownBlock, Option.some.injEq] at e2
        subst e2
        rw [h6] at ho1
        simp only [Option.some.injEq] at ho1
        subst ho1
        cases ho2
  exact ⟨V, key h1, fun g e => Nat.lt_of_lt_of_le (h2 g e) hg.size, fun r hr2 => ⟨key (h3 r hr2).1, fun g e => Nat.lt_of_lt_of_le ((h3 r hr2).2 g e) hg.size⟩, h4⟩
theorem grew_others {W W' : World} (h : Grew W W') : KeepsOthers W W' := ⟨h.size, fun _ _ hk _ => (h.block (Array.getElem?_eq_some_iff.1 hk).1).trans hk⟩

/-- 'append(s, u)' at rows of the call's own, as one step of a region in a round. -/
theorem stepIn_append_row {F : Fence} {d : Nat} {P : Program} {ops : Array Oper} {w : World} {o : Oper} {a : Act} {K : Act → World → Prop} {Q : Exit → Act → World → Prop} {X : Prop} (hgd : o.guard = none) (s x : Operand) (t : TypeId)
    (ho : o.op = .call { callee := .builtin .append, args := #[s, x], argTypes := #[t, t] }) {T E : TypeId} (hTE : T ≠ E) (ht : P.underlying t = some (.slice T))
    (hinfo : (P.info? T).map (fun i => (i.zero, i.size, i.bytes)) = some (some (.slice none 0 0), 1, 24)) {lo mid hi : Nat} {v u : Value} {H : List (List Int)} {xs : List Int} {nb : Nat} (hs : a.eval s = v) (hx : a.eval x = .slice (some ⟨nb, 0, none⟩) 1 1) (hnb : nb = w.heap.size)
    (hv : RowsO T E lo mid w v H) (hu : IntsO E mid hi w u xs) (hlen : H.length + 1 ≤ 5864062014805) (hbase : lo ≤ w.heap.size) (hlo : lo ≤ mid)
    (h : ∀ g c w', RowsO T E lo w'.heap.size w' (.slice (some ⟨g, 0, none⟩) (H.length + 1) c) (H ++ [xs]) → (w.alloc (.cells #[u] T)).grownBy w' v.ownBlock → K (a.put o.dst (.slice (some ⟨g, 0, none⟩) (H.length + 1) c)) w') :
    if Region.wanted o (yielded ops a.tmps) = true then Oper.wpIn F d P o a (w.alloc (.cells #[u] T)) K Q else X := by
  subst hnb
  obtain ⟨i, hi1, hi2, hi3, hi4⟩ := info_parts hinfo
  obtain ⟨V, h1, h2, h3, h4⟩ := hv
  have hw : Region.wanted o (yielded ops a.tmps) = true := by simp [Region.wanted, hgd]
  rw [if_pos hw]
  obtain ⟨v', w', hrun, hown, hg, _⟩ := run_append_own (P := P) (w.alloc (.cells #[u] T)) lo t o.type T i (.slice none 0 0) 1 24 ht hi1 hi2 hi3 hi4 rfl (by decide) v H.length _ (h1.alloc _) ⟨w.heap.size, 0, none⟩ 1 1 [u] rfl (cell_one_new _ _ _) (by simpa using hu.one) (by unfold maxLen; omega) (by omega) (by simp; omega)
  have ga : Grew w (w.alloc (.cells #[u] T)) := (Grew.refl w).alloc _
  have hO := rows_snoc hTE hlo (h1.alloc (.cells #[u] T)) (fun r hr => (h3 r hr).grew ga) h4 (hu.grew ga) hg hown
  obtain ⟨g, c, hv', _⟩ := hO.pos (by simp)
  have e : (H ++ [xs]).length = H.length + 1 := by simp
  rw [e] at hv'
  subst hv'
  unfold Oper.wpIn
  refine ⟨?_, ?_⟩
  · simp [Oper.about, ho, resolve, Target.leads, Sem.run_pure]
  · rw [Oper.semAt_plain F _ _ (by rw [ho]; intro c hc'; cases hc')]
    simp [execOp, ho, resolve, invoke, builtin, hs, hx, hrun, Result.andThen]
    exact h g c w' hO hg

/-- Between two rounds: the rows so far. -/
def RowsSoFar (w : World) (xs : List Int) (n m : Nat) (pre : List (Fin n)) (W : World) : Prop :=
  (∃ v, Boxed W w.heap.size 23 v ∧ RowsO 25 3 (w.heap.size + 3) W.heap.size W v (pre.map fun k => (xs.drop (k.1 * m)).take m)) ∧ (w.heap.size + 3 ≤ W.heap.size ∧ Below w.heap.size w W)
theorem rowsSoFar_own (w : World) (xs : List Int) (n m : Nat) (B : Nat) (hB : w.heap.size ≤ B) : OwnFrom B (RowsSoFar w xs n m) := by
  rintro pre A C row ⟨⟨v, hb, hO⟩, hs, hbl⟩ hg hr
  have hr2 : ∀ r, row = some r → ∃ o : Obj, A.heap[r]? = some o ∧ o.isCells = false := fun r e => (hr r e).2
  refine ⟨⟨v, hb.kept hg fun e => ?_, hO.kept hg hr2⟩, Nat.le_trans hs hg.size, hbl.grown hg hbl.size fun j e => Nat.le_trans hB (hr j e).1⟩
  obtain ⟨o, h1, h2⟩ := hr2 _ e.symm
  rw [show A.heap[w.heap.size]? = _ from hb] at h1
  simp only [Option.some.injEq] at h1
  subst h1
  cases h2
end Go.Proofs.YtdjjimnfhfdjdaaDoor
