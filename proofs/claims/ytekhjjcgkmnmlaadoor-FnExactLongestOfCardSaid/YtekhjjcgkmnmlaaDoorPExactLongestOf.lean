/- FnExactLongestOf: for every input the law returns true, and the input reads as it did, where the table of steps reads as the program's text lays it; tied to that text. Its conditions: that one listed variable, tied. -/
import Derived.Test.YtekhjjcgkmnmlaaDoorExact
import Derived.Test.YtekhjjcgkmnmlaaDoorBase
import Derived.Laws.CopyOwn
import Derived.RegionTactic
import Derived.ChangeAlike
import Derived.Lib.MinMax
import Derived.StillTailTactics
import Derived.Deep.RegionLaw
import Derived.OpenShut
import Derived.Test.YtekhjjcgkmnmlaaDoorStrT
import Derived.Test.YtekhjjcgkmnmlaaDoorSStr
import Derived.Test.YtekhjjcgkmnmlaaDoorMark
import Derived.Test.YtekhjjcgkmnmlaaDoorCameRows
import Derived.Test.YtekhjjcgkmnmlaaDoorTied
import Derived.Test.YtekhjjcgkmnmlaaDoorWords
import Derived.Test.YtekhjjcgkmnmlaaDoorTie
import Derived.Test.YtekhjjcgkmnmlaaDoorCards
import Derived.SevenTiedAt
/- The contracts of laws.eqIntS and laws.eqIntSS. -/
namespace Go.Proofs.YtekhjjcgkmnmlaaDoor
open Go.RowKit

set_option maxRecDepth 100000 in
set_option maxHeartbeats 1000000 in
theorem eqIntS_any (v1 v2 : Value) (xs ys : List Int) (w : World) (hv1 : IntsV w v1 xs) (hv2 : IntsV w v2 ys) :
    Calls Tryd.prog 63 #[v1, v2] w (QuietBool (decide (xs = ys)) w) := by
  obtain ⟨a, b, o, c, rfl, ⟨hlc, hcb⟩, ha, HC⟩ := hv1.shape
  obtain ⟨a2, b2, o2, c2, rfl, ⟨hlc2, hcb2⟩, ha2, HC2⟩ := hv2.shape
  have HA := Lib.hid ha
  have HA2 := Lib.hid ha2
  clear hv1 hv2 ha ha2
  by_cases hl : xs.length = ys.length
  · have hn : ((xs.length : Int) != (ys.length : Int)) = false := by simp [hl]
    have HL := Lib.hid hl
    clear hl
    go_enter Tryd.func63, Tryd.ntmps63
    go_wp2
    clear hn
    go_loopw [5] (fun i wr => ∃ k : Nat, k ≤ xs.length ∧ i = .int .i64 k ∧ Hid (xs.take k = ys.take k ∧ ∃ n, wr = w.drewN n)) (fun i _ => xs.length - (intOf i).toNat)
    case atStart => exact ⟨0, Nat.zero_le _, rfl, rfl, 0, rfl⟩
    case round =>
      obtain ⟨k, hk, rfl, HI⟩ := hrel
      have HW := Lib.hid (quiet_grew HI.out.2)
      by_cases hlt : k < xs.length
      · have hlt2 : k < ys.length := by have := HL.out; omega
        obtain rfl := HA.out (by omega)
        obtain rfl := HA2.out (by omega)
        have hc1 := HW.out.cell (HC.out k hlt)
        have hc2 := HW.out.cell (HC2.out k hlt2)
        obtain ⟨x, ex⟩ : ∃ x, xs.getD k 0 = x := ⟨_, rfl⟩
        obtain ⟨y, ey⟩ : ∃ y, ys.getD k 0 = y := ⟨_, rfl⟩
        rw [ex] at hc1
        rw [ey] at hc2
        have HE := Lib.hid (And.intro ex ey)
        have r1 : (k : Int) < xs.length := by omega
        have r2 : (k : Int) < ys.length := by omega
        have r3 : (0 : Int) ≤ k := by omega
        clear ex ey
        by_cases hxy : x = y
        · have ht : (x != y) = false := by simp [hxy]
          have HXY := Lib.hid hxy
          clear hxy
          go_wp2
          go_quiet (fail)
          go_wp2
          go_roundw
          case rel => exact ⟨k + 1, by omega, by go_num, take_eq_snoc 0 hlt hlt2 HI.out.1 (by rw [HE.out.1, HE.out.2, HXY.out]), quiet_step HI.out.2 _⟩
          case measure => simp [intOf]; omega
        · have ht : (x != y) = true := by simp [hxy]
          have HXY := Lib.hid hxy
          clear hxy
          go_wp2
          go_quiet (fail)
          go_wp2
          go_ret
          refine ⟨ret_bool ?_, quiet_step HI.out.2 _⟩
          have : xs ≠ ys := fun e => HXY.out (by rw [← HE.out.1, ← HE.out.2, e])
          simp [this]
      · go_wp2
        go_ret
        refine ⟨ret_bool ?_, HI.out.2⟩
        have := HI.out.1
        rw [List.take_of_length_le (by omega), List.take_of_length_le (by have := HL.out; omega)] at this
        simp [this]
  · have hn : ((xs.length : Int) != (ys.length : Int)) = true := by simp; omega
    have HL := Lib.hid hl
    clear hl
    go_enter Tryd.func63, Tryd.ntmps63
    go_wp2
    go_ret
    refine ⟨ret_bool ?_, 0, rfl⟩
    have : xs ≠ ys := fun e => HL.out (by rw [e])
    simp [this]

set_option maxRecDepth 100000 in
set_option maxHeartbeats 1000000 in
theorem eqIntSS_any (v1 v2 : Value) (xs ys : List (List Int)) (w : World) (hv1 : RowsV w v1 xs) (hv2 : RowsV w v2 ys) :
    Calls Tryd.prog 37 #[v1, v2] w (QuietBool (decide (xs = ys)) w) := by
  obtain ⟨a, b, o, c, rfl, ⟨hlc, hcb⟩, ha, HC⟩ := hv1.shape
  obtain ⟨a2, b2, o2, c2, rfl, ⟨hlc2, hcb2⟩, ha2, HC2⟩ := hv2.shape
  have HA := Lib.hid ha
  have HA2 := Lib.hid ha2
  clear hv1 hv2 ha ha2
  by_cases hl : xs.length = ys.length
  · have hn : ((xs.length : Int) != (ys.length : Int)) = false := by simp [hl]
    have HL := Lib.hid hl
    clear hl
    go_enter Tryd.func37, Tryd.ntmps37
    go_wp2
    clear hn
    go_loopw [5] (fun i wr => ∃ k : Nat, k ≤ xs.length ∧ i = .int .i64 k ∧ Hid (xs.take k = ys.take k ∧ ∃ n, wr = w.drewN n)) (fun i _ => xs.length - (intOf i).toNat)
    case atStart => exact ⟨0, Nat.zero_le _, rfl, rfl, 0, rfl⟩
    case round =>
      obtain ⟨k, hk, rfl, HI⟩ := hrel
      have HW := Lib.hid (quiet_grew HI.out.2)
      by_cases hlt : k < xs.length
      · have hlt2 : k < ys.length := by have := HL.out; omega
        obtain rfl := HA.out (by omega)
        obtain rfl := HA2.out (by omega)
        obtain ⟨u1, hc1', hu1⟩ := HC.out k hlt
        obtain ⟨u2, hc2', hu2⟩ := HC2.out k hlt2
        have hc1 := HW.out.cell hc1'
        have hc2 := HW.out.cell hc2'
        obtain ⟨x, ex⟩ : ∃ x, xs.getD k [] = x := ⟨_, rfl⟩
        obtain ⟨y, ey⟩ : ∃ y, ys.getD k [] = y := ⟨_, rfl⟩
        rw [ex] at hu1
        rw [ey] at hu2
        have HK : Hid (∀ m, Calls Tryd.prog 63 #[u1, u2] (wr.drewN m) fun e w' => e = .returned (.bool (decide (x = y))) ∧ ∃ k, w' = (wr.drewN m).drewN k) := fun m => eqIntS_any u1 u2 x y _ (hu1.grew (HW.out.drewN m)) (hu2.grew (HW.out.drewN m))
        obtain ⟨a3, b3, o3, c3, rfl, _, _, _⟩ := hu1.shape
        obtain ⟨a4, b4, o4, c4, rfl, _, _, _⟩ := hu2.shape
        have HE := Lib.hid (And.intro ex ey)
        have r1 : (k : Int) < xs.length := by omega
        have r2 : (k : Int) < ys.length := by omega
        have r3 : (0 : Int) ≤ k := by omega
        clear ex ey hu1 hu2 hc1' hc2'
        by_cases hxy : x = y
        · have HK2 := HK.out
          have e : decide (x = y) = true := by simp [hxy]
          rw [e] at HK2
          have HK3 := Lib.hid HK2
          have HXY := Lib.hid hxy
          clear hxy HK2 HK e
          go_wp2
          go_quiet ((go_at_call 63; exact Calls.quiet_of (HK3.out _)))
          go_wp2
          go_roundw
          case rel => exact ⟨k + 1, by omega, by go_num, take_eq_snoc [] hlt hlt2 HI.out.1 (by rw [HE.out.1, HE.out.2, HXY.out]), quiet_step HI.out.2 _⟩
          case measure => simp [intOf]; omega
        · have HK2 := HK.out
          have e : decide (x = y) = false := by simp [hxy]
          rw [e] at HK2
          have HK3 := Lib.hid HK2
          have HXY := Lib.hid hxy
          clear hxy HK2 HK e
          go_wp2
          go_quiet ((go_at_call 63; exact Calls.quiet_of (HK3.out _)))
          go_wp2
          go_ret
          refine ⟨ret_bool ?_, quiet_step HI.out.2 _⟩
          have : xs ≠ ys := fun e => HXY.out (by rw [← HE.out.1, ← HE.out.2, e])
          simp [this]
      · go_wp2
        go_ret
        refine ⟨ret_bool ?_, HI.out.2⟩
        have := HI.out.1
        rw [List.take_of_length_le (by omega), List.take_of_length_le (by have := HL.out; omega)] at this
        simp [this]
  · have hn : ((xs.length : Int) != (ys.length : Int)) = true := by simp; omega
    have HL := Lib.hid hl
    clear hl
    go_enter Tryd.func37, Tryd.ntmps37
    go_wp2
    go_ret
    refine ⟨ret_bool ?_, 0, rfl⟩
    have : xs ≠ ys := fun e => HL.out (by rw [e])
    simp [this]
end Go.Proofs.YtekhjjcgkmnmlaaDoor
/- The contract of laws.toIntSS. -/
namespace Go.Proofs.YtekhjjcgkmnmlaaDoor
open Go.RowKit

/-- The first k rows, empty ones behind. -/
def upToR (h : List (List Int)) (k : Nat) : List (List Int) := h.take k ++ List.replicate (h.length - k) []
theorem upToR_len (h : List (List Int)) (k : Nat) (hk : k ≤ h.length) : (upToR h k).length = h.length := by simp [upToR]; omega
theorem upToR_set (h : List (List Int)) (k : Nat) (hk : k < h.length) : (upToR h k).set k (h.getD k []) = upToR h (k + 1) := by
  unfold upToR
  have e1 : (h.take k).length = k := by simp; omega
  have e2 : h.length - k = (h.length - (k + 1)) + 1 := by omega
  rw [List.set_append_right _ _ (by omega), e1, Nat.sub_self, e2, List.replicate_succ, List.set_cons_zero, List.take_succ_eq_append_getElem hk, List.append_assoc]
  simp [hk]

def CopyRows (w : World) (h : List (List Int)) (e : Ending) (w' : World) : Prop := ∃ g c, e = .returned (.slice (some ⟨g, 0, none⟩) h.length c) ∧ RowsO 27 3 w.heap.size w'.heap.size w' (.slice (some ⟨g, 0, none⟩) h.length c) h ∧ Grew w w'

set_option maxRecDepth 100000 in
set_option maxHeartbeats 1000000 in
theorem toIntSS_any (v : Value) (h : List (List Int)) (w : World) (hv : RowsV w v h) (hx : h.length ≤ 1048576) (hr : ∀ r, r < h.length → (h.getD r []).length ≤ 1048576) :
    Calls Tryd.prog 36 #[v] w (CopyRows w h) := by
  obtain ⟨a, b, o, c, rfl, ⟨hlc, hcb⟩, ha, HC⟩ := hv.shape
  have HA := Lib.hid ha
  have HR := Lib.hid hr
  clear hv ha hr
  go_enter Tryd.func36, Tryd.ntmps36
  go_wp2_with (at_make; refine wpList_make_rows rfl (.tmp 6) (.tmp 6) 23 rfl Tryd.underlying23 Tryd.infoT (E := 3) rfl rfl rfl rfl (by omega) ?_; intro w1 hO1 hg1 hs1)
  have HO : Hid (RowsO 27 3 w.heap.size w1.heap.size w1 (.slice (some ⟨w.heap.size, 0, none⟩) h.length h.length) (upToR h 0) ∧ Grew w w1) := ⟨by simpa [upToR] using hO1, hg1⟩
  clear hO1 hg1
  go_loopw [4] (fun i wr => ∃ k : Nat, k ≤ h.length ∧ i = .int .i64 k ∧ Hid (RowsO 27 3 w.heap.size wr.heap.size wr (.slice (some ⟨w.heap.size, 0, none⟩) h.length h.length) (upToR h k) ∧ Grew w wr ∧ w.heap.size < wr.heap.size)) (fun i _ => h.length - (intOf i).toNat)
  case atStart => exact ⟨0, Nat.zero_le _, rfl, HO.out.1, HO.out.2, hs1⟩
  case round =>
    obtain ⟨k, hk, rfl, HI⟩ := hrel
    clear HO
    by_cases hlt : k < h.length
    · obtain rfl := HA.out (by omega)
      obtain ⟨u, hck, hu⟩ := HC.out k hlt
      have hck' := HI.out.2.1.cell hck
      have hrk := HR.out k hlt
      obtain ⟨row, er⟩ : ∃ row, h.getD k [] = row := ⟨_, rfl⟩
      rw [er] at hu hrk
      have HE := Lib.hid er
      have HT := Lib.hid (toIntS_any u row wr (hu.grew HI.out.2.1) (by omega))
      clear er
      obtain ⟨a1, b1, o1, c1, rfl, _, _, _⟩ := hu.shape
      clear hck hu
      go_wp2_with (fail)
      refine HT.out.mono ?_
      rintro e w2 ⟨v2, rfl, hO2, hg2, hs2, g2, c2, rfl⟩
      obtain ⟨u0, hcu, _⟩ := HI.out.1.at rfl (i := k) (by rw [upToR_len h k hk]; exact hlt)
      have hcu2 := hg2.cell hcu
      have hfr2 := (HI.out.1.grew hg2).frozenAt rfl k
      have HF := Lib.hid (And.intro hO2 (And.intro hg2 hs2))
      clear hO2 hg2 hs2 hcu
      go_wp2
      go_roundw
      case rel => exact ⟨k + 1, by omega, by go_num, by
        have hs : (w2.setCell ⟨w.heap.size, k, none⟩ (.slice (some ⟨g2, 0, none⟩) row.length c2)).heap.size = w2.heap.size := by simp [World.setCell]
        have := (HI.out.1.grew HF.out.2.1).put (by decide) rfl (i := k) (by rw [upToR_len h k hk]; exact hlt) HF.out.1 (by have := HI.out.2.2; omega) (by have := HF.out.2.2; omega)
        rw [← HE.out, upToR_set h k hlt] at this
        rw [HE.out] at this
        refine ⟨?_, ?_, ?_⟩
        · rw [hs]; exact this
        · exact Within.grew (lo := w.heap.size) (hi := w.heap.size + 1) (HI.out.2.1.trans HF.out.2.1) ((Within.refl _ _ _).setCell (p := ⟨w.heap.size, k, none⟩) (Nat.le_refl _) (Nat.lt_succ_self _) _) (Nat.le_refl _)
        · rw [hs]; have := HI.out.2.2; have := HF.out.2.2; omega⟩
      case measure => simp [intOf]; omega
    · go_wp2
      go_ret
      refine ⟨_, _, rfl, ?_, HI.out.2.1⟩
      have := HI.out.1
      rwa [upToR, List.take_of_length_le (by omega), show h.length - k = 0 by omega, List.replicate_zero, List.append_nil] at this

theorem sz_small2 {h : List (List Int)} (hn : 0 ≤ (1048576 : Int) - h.length - total h) : h.length ≤ 1048576 ∧ ∀ r, r < h.length → (h.getD r []).length ≤ 1048576 :=
  ⟨by omega, fun r hr => by have := row_le_total h r hr; omega⟩
end Go.Proofs.YtekhjjcgkmnmlaaDoor
/- 'copy(new, src)' of numbers into a slice that was made with zeros, as long. -/
namespace Go.Proofs.YtekhjjcgkmnmlaaDoor
open Go.RowKit

theorem IntsO.whole {E lo hi : Nat} {w : World} {g n : Nat} {xs : List Int} (h : IntsO E lo hi w (.slice (some ⟨g, 0, none⟩) n n) xs) : w.heap[g]? = some (.cells (xs.map (.int .i64)).toArray E (0, 0)) := by
  have hl := h.1.1
  rcases h.1.2 with ⟨e, _⟩ | ⟨g1, cap, cur, e, _, hh, _, _, hs, ht⟩
  · simp at e
  · simp only [Value.slice.injEq, Option.some.injEq, Addr.mk.injEq] at e
    obtain ⟨⟨rfl, _⟩, e2, rfl⟩ := e
    rw [hh, ← ht, ← e2]
    simp only [Nat.mul_one] at hs ⊢
    rw [List.take_of_length_le (by rw [Array.length_toList, hs]; exact Nat.le_refl _)]
theorem IntsO.ofBlock {E lo hi : Nat} {w : World} {g n : Nat} {xs : List Int} (h : w.heap[g]? = some (.cells (xs.map (.int .i64)).toArray E (0, 0))) (hn : n = xs.length) (hlo : lo ≤ g) (hhi : g < hi) (hm : xs.length ≤ maxLen) : IntsO E lo hi w (.slice (some ⟨g, 0, none⟩) n n) xs := by
  subst hn
  refine ⟨⟨by simp, .inr ⟨g, _, _, rfl, hlo, h, Nat.le_refl _, hm, by simp, ?_⟩⟩, fun k e => by simp [Value.ownBlock] at e; omega⟩
  simp only [Nat.mul_one]
  rw [List.take_of_length_le (by simp)]

/-- 'copy(new, src)'. -/
theorem wpList_copy_ints {P : Program} {w : World} {ops : Array Oper} {rest : List Oper} {o : Oper} {a : Act} {Q : Exit → Act → World → Prop} (hgd : o.guard = none) (d s : Operand) (T : TypeId)
    (ho : o.op = .call { callee := .builtin .copy, args := #[d, s], argTypes := #[T, T] }) (E : TypeId) (hu : P.underlying T = some (.slice E)) (hinfo : (P.info? E).map (fun i => (i.zero, i.size, i.bytes)) = some (some (.int .i64 0), 1, 8))
    (g n : Nat) (v : Value) (hd : a.eval d = .slice (some ⟨g, 0, none⟩) n n) (hs : a.eval s = v) (xs ys : List Int) (hn : n = xs.length) (hys : ys.length = n) (lo hi : Nat) (w0 : World)
    (hO : IntsO E lo hi w (.slice (some ⟨g, 0, none⟩) n n) ys) (hv : IntsV w v xs) (hb : Grew w0 w) (hg : w0.heap.size ≤ g) (hm : xs.length ≤ maxLen)
    (h : ∀ w', IntsO E lo hi w' (.slice (some ⟨g, 0, none⟩) n n) xs → Grew w0 w' → w'.heap.size = w.heap.size → wpList P ops Q rest (a.put o.dst (goInt n)) w') :
    wpList P ops Q (o :: rest) a w := by
  obtain ⟨sa, sb, so, sc, rfl, _, hsrc⟩ := hv
  have hblk := hO.blk
  have hsz : (P.info? E).map (·.size) = some 1 := by
    obtain ⟨i, hi1, _, hi3, _⟩ := info_parts hinfo
    simp [hi1, hi3]
  subst hn
  by_cases h0 : xs.length = 0
  · refine wpList_copy_nothing hgd d s T T ho E hu hsz _ _ _ _ _ _ hd hs (by simp [h0]) ?_
    have e1 : xs = [] := List.eq_nil_of_length_eq_zero h0
    have e2 : ys = xs := by rw [e1]; exact List.eq_nil_of_length_eq_zero (by omega)
    have := h w (by rw [← e2]; rw [e2]; rw [e2] at hO; exact hO) hb rfl
    rwa [h0] at this
  · obtain rfl := (hsrc 0 (by omega)).1
    have hw := hO.whole
    have hcs : (xs.map (Value.int .i64)).length = Nat.min xs.length xs.length := by simp
    refine wpList_copy_own hgd d s T T ho E hu hsz g 0 _ _ ⟨sb, so, none⟩ _ _ hd hs _ E hw (xs.map (.int .i64)) hcs (fun j v hj => ?_) (by simp; omega) (fun v hv => by
      obtain ⟨x, _, rfl⟩ := List.mem_map.1 hv; rfl) ?_
    · rw [List.getElem?_map] at hj
      by_cases hlt : j < xs.length
      · have := (hsrc j hlt).2
        have e : (⟨sb, so, none⟩ : Addr).add j = ⟨sb, so + j, none⟩ := by
          unfold Addr.add
          split
          · next h => rw [h]; rfl
          · rfl
        rw [e, this]
        simp [hlt] at hj
        simp [hlt, hj]
      · simp [hlt] at hj
    · have e : ((ys.map (Value.int .i64)).toArray.toList.take 0 ++ (xs.map (Value.int .i64) ++ (ys.map (Value.int .i64)).toArray.toList.drop (0 + (xs.map (Value.int .i64)).length))).toArray = (xs.map (Value.int .i64)).toArray := by
        rw [List.drop_of_length_le (by simp; omega)]
        simp
      rw [e, List.length_map]
      refine h _ (IntsO.ofBlock ?_ rfl hblk.1 hblk.2 hm) (below_setRow hb hg _) (by simp [World.setRow])
      exact setRow_heap w g _ _ E _ hw
end Go.Proofs.YtekhjjcgkmnmlaaDoor
/- The contracts of impl.lineBetween, isSteeperThan, tilted and slices.Max. -/
namespace Go.Proofs.YtekhjjcgkmnmlaaDoor
open Go.RowKit

theorem wrap_small (x : Int) (h0 : -9223372036854775808 ≤ x) (h1 : x ≤ 9223372036854775807) : IntKind.i64.wrap x = x := by
  rw [IntKind.wrap_i64]; omega

theorem mul_bd (x y : Int) (A B : Nat) (hx : x.natAbs ≤ A) (hy : y.natAbs ≤ B) : (x * y).natAbs ≤ A * B := by
  rw [Int.natAbs_mul]; exact Nat.mul_le_mul hx hy

/-- A struct of two numbers was stored into its new block. -/
theorem two_heap {W : World} {g : Nat} {z0 z1 u0 u1 : Value} {T : TypeId} (h : W.heap[g]? = some (.cells #[z0, z1] T (0, 0))) :
    ((W.setCell ⟨g, 0, none⟩ u0).setCell ⟨g, 1, none⟩ u1).heap[g]? = some (.cells #[u0, u1] T (0, 0)) := by
  rw [heap_setCell_same _ _ 1 _ _ _ (heap_setCell_same _ _ 0 _ _ _ h)]
  rfl
theorem two_grew {w W : World} {p q : Value} {b : Nat} (hb : w.heap.size ≤ b) (h : Grew w W) : Grew w ((W.setCell ⟨b, 0, none⟩ p).setCell ⟨b, 1, none⟩ q) :=
  Below.setCell (Below.setCell h (p := ⟨b, 0, none⟩) (by show _ ≤ b; omega) _) (p := ⟨b, 1, none⟩) (by show _ ≤ b; omega) _

/-- m is the greatest of xs. -/
def IsMax (xs : List Int) (m : Int) : Prop := (∃ i, i < xs.length ∧ xs.getD i 0 = m) ∧ ∀ i, i < xs.length → xs.getD i 0 ≤ m
def MaxPost (xs : List Int) (w : World) (e : Ending) (w' : World) : Prop := ∃ m, e = .returned (.int .i64 m) ∧ IsMax xs m ∧ w = w'

set_option maxRecDepth 100000 in
set_option maxHeartbeats 400000 in
theorem slicesMax_any (v : Value) (xs : List Int) (w : World) (hv : IntsV w v xs) (h1 : 1 ≤ xs.length) :
    Calls Tryd.prog 54 #[v] w (MaxPost xs w) := by
  obtain ⟨a, b, o, c, rfl, ⟨hlc, hcb⟩, ha, HC⟩ := hv.shape
  obtain rfl := ha h1
  clear hv ha
  have hc0 := HC.out 0 h1
  obtain ⟨x0, ex⟩ : ∃ x0, xs.getD 0 0 = x0 := ⟨_, rfl⟩
  rw [ex, Nat.add_zero] at hc0
  have HX := Lib.hid ex
  clear ex
  go_enter Tryd.func54, Tryd.ntmps54
  go_wp2
  go_loop [3, 4] (fun t i => ∃ (k : Nat) (m : Int), 1 ≤ k ∧ k ≤ xs.length ∧ i = .int .i64 k ∧ t = .int .i64 m ∧ Hid ((∃ j, j < k ∧ xs.getD j 0 = m) ∧ ∀ j, j < k → xs.getD j 0 ≤ m)) (fun _ i => xs.length - (intOf i).toNat)
  case atStart =>
    refine ⟨1, x0, Nat.le_refl _, h1, rfl, rfl, ⟨0, by omega, HX.out⟩, fun j hj => ?_⟩
    have e0 : j = 0 := by omega
    rw [e0, HX.out]
    exact Int.le_refl _
  case round =>
    obtain ⟨k, m, hk1, hk, rfl, rfl, HI⟩ := hrel
    by_cases hlt : k < xs.length
    · have hck := HC.out k hlt
      obtain ⟨x, ex⟩ : ∃ x, xs.getD k 0 = x := ⟨_, rfl⟩
      rw [ex] at hck
      have HE := Lib.hid ex
      clear ex
      go_wp2
      go_round
      case rel => exact ⟨k + 1, max m x, by omega, by omega, by go_num, rfl, by
        obtain ⟨⟨j, hj, ej⟩, hall⟩ := HI.out
        constructor
        · by_cases h : m ≤ x
          · exact ⟨k, by omega, by rw [HE.out]; omega⟩
          · exact ⟨j, by omega, by rw [ej]; omega⟩
        · intro i hi
          by_cases e : i = k
          · subst e; rw [HE.out]; omega
          · have := hall i (by omega); omega⟩
      case measure => simp [intOf]; omega
    · obtain rfl : k = xs.length := by omega
      go_wp2
      go_ret
      exact ⟨m, rfl, HI.out, rfl⟩

/-- The first k of xs tilted. -/
def tiltTo (xs : List Int) (u a : Int) (k : Nat) : List Int := (List.range xs.length).map fun (j : Nat) => if j < k then xs.getD j 0 * a - u * (j : Int) else xs.getD j 0
def tiltL (xs : List Int) (u a : Int) : List Int := (List.range xs.length).map fun (j : Nat) => xs.getD j 0 * a - u * (j : Int)
theorem tiltTo_len (xs : List Int) (u a : Int) (k : Nat) : (tiltTo xs u a k).length = xs.length := by simp [tiltTo]
theorem tiltL_len (xs : List Int) (u a : Int) : (tiltL xs u a).length = xs.length := by simp [tiltL]
theorem tiltL_at (xs : List Int) (u a : Int) (j : Nat) (h : j < xs.length) : (tiltL xs u a).getD j 0 = xs.getD j 0 * a - u * j := by simp [tiltL, h]
theorem tiltTo_at (xs : List Int) (u a : Int) (j : Nat) (h : j < xs.length) : (tiltTo xs u a j).getD j 0 = xs.getD j 0 := by simp [tiltTo, h]
theorem tiltTo_zero (xs : List Int) (u a : Int) : tiltTo xs u a 0 = xs := by
  apply List.ext_getElem
  · simp [tiltTo]
  · intro i h1 h2
    simp [tiltTo, h2]
theorem tiltTo_all (xs : List Int) (u a : Int) : tiltTo xs u a xs.length = tiltL xs u a := by
  unfold tiltTo tiltL
  exact List.map_congr_left fun i hi => by rw [if_pos (List.mem_range.1 hi)]
theorem tiltTo_set (xs : List Int) (u a : Int) (j : Nat) (_hj : j < xs.length) : (tiltTo xs u a j).set j (xs.getD j 0 * a - u * j) = tiltTo xs u a (j + 1) := by
  apply List.ext_getElem
  · simp [tiltTo]
  · intro i h1 h2
    simp only [tiltTo, List.getElem_set, List.getElem_map, List.getElem_range]
    by_cases e : j = i
    · subst e; simp
    · rw [if_neg e]
      by_cases h : i < j
      · rw [if_pos h, if_pos (by omega)]
      · rw [if_neg h, if_neg (by omega)]

def TiltPost (xs : List Int) (u a : Int) (w : World) (e : Ending) (w' : World) : Prop := ∃ g c, e = .returned (.slice (some ⟨g, 0, none⟩) xs.length c) ∧ IntsO 3 w.heap.size w'.heap.size w' (.slice (some ⟨g, 0, none⟩) xs.length c) (tiltL xs u a) ∧ Grew w w'

end Go.Proofs.YtekhjjcgkmnmlaaDoor
/- The contract of impl.LongestOf. -/
namespace Go.Proofs.YtekhjjcgkmnmlaaDoor
open Go.RowKit

theorem mostL_ge (f : Nat → Int) : ∀ k i, i < k → f i ≤ mostL f k
  | k + 1, i, h => by
    rw [mostL]
    by_cases e : i = k
    · subst e; omega
    · have := mostL_ge f k i (by omega); omega
theorem mostL_le (f : Nat → Int) (B : Int) (hB : 0 ≤ B) : ∀ k, (∀ i, i < k → f i ≤ B) → mostL f k ≤ B
  | 0, _ => hB
  | k + 1, h => by
    have h1 := mostL_le f B hB k fun i hi => h i (by omega)
    have h2 := h k (by omega)
    rw [mostL]; omega
theorem mostL_max {f : Nat → Int} {N : Nat} {m : Int} (h : IsMax (toldU f N) m) (h0 : ∀ i, i < N → 0 ≤ f i) : m = mostL f N := by
  obtain ⟨⟨i, hi, e⟩, h2⟩ := h
  rw [toldU_len] at hi h2
  rw [toldU_at _ _ _ hi] at e
  have h3 : ∀ i, i < N → f i ≤ m := fun i hi => by have := h2 i hi; rwa [toldU_at _ _ _ hi] at this
  have h4 := mostL_ge f N i hi
  have h5 := mostL_le f m (by have := h0 i hi; omega) N h3
  omega

set_option maxRecDepth 100000 in
set_option maxHeartbeats 2000000 in
theorem LongestOf_any (v : Value) (h : List (List Int)) (w : World) (hv : RowsV w v h) (hS : Steps w) :
    Calls Tryd.prog 24 #[v] w fun e w' => e = .returned (.int .i64 (longX h)) ∧ Grew w w' := by
  have HK := ValidGrid_any v h w hv
  have HT := Lib.hid (toldByStreams_any 56 (enters_of Tryd.func56 (by kernel_rfl) rfl) phiL v h w hv hS fun _ R hN g W hV i hi => length_any R hN i W hV hi)
  cases hg : vGrid h with
  | false =>
    rw [hg] at HK
    have HK2 := Lib.hid HK
    rw [longX_no hg]
    obtain ⟨a, b, o, c, rfl, _, _, _⟩ := hv.shape
    clear hv hS HK hg HT
    go_enter Tryd.func24, Tryd.ntmps24
    go_wp2_with (fail)
    refine HK2.out.mono ?_
    rintro e w1 ⟨rfl, rfl⟩
    go_wp2
    go_ret
    exact ⟨rfl, Grew.refl _⟩
  | true =>
    rw [hg] at HK
    have HK2 := Lib.hid HK
    have G := Grid.of hg
    have hR := tgts_run hg
    have hN1 := Nat.mul_pos G.n1 G.m1
    have hY := toldX_yes (φ := phiL) hg
    have hCat := fun u W (hu : RowsV W u (toldX phiL h)) => slicesConcat_any u (toldX phiL h) W hu (by rw [hY.2]; exact G.n1) (by rw [hY.2]; exact Nat.le_trans G.n5 (by decide)) (fun r hr => by
      have e : toldX phiL h = shapeL (toldU (phiL (tgtsL h)) (h.length * (h.getD 0 []).length)) (h.getD 0 []).length h.length := by unfold toldX; rw [if_pos hg]
      rw [e, shapeL_row _ _ _ _ (toldU_len _ _) (by rw [hY.2] at hr; exact hr)]
      have := G.m1; have := G.m5; omega)
    rw [hY.1] at hCat
    obtain ⟨N, eN⟩ : ∃ N, h.length * (h.getD 0 []).length = N := ⟨_, rfl⟩
    have hLX : longX h = mostL (phiL (tgtsL h)) N := by unfold longX; rw [if_pos hg, eN]
    rw [eN] at hCat hR hN1
    obtain ⟨ts, ets⟩ : ∃ ts, tgtsL h = ts := ⟨_, rfl⟩
    rw [ets] at hCat hR hLX
    have HNN : Hid (∀ i, i < N → 0 ≤ phiL ts i) := Lib.hid fun i _ => len_nn ts i
    have HUL := Lib.hid (toldU_len (phiL ts) N)
    have HLX := Lib.hid hLX
    obtain ⟨us, eus⟩ : ∃ us, toldU (phiL ts) N = us := ⟨_, rfl⟩
    have HEU := Lib.hid eus
    rw [eus] at hCat HUL
    have HCAT := Lib.hid hCat
    have HN1 := Lib.hid hN1
    obtain ⟨X, eX⟩ : ∃ X, toldX phiL h = X := ⟨_, rfl⟩
    rw [eX] at HCAT HT
    obtain ⟨a, b, o, c, rfl, _, _, _⟩ := hv.shape
    clear hv hS HK hg G hR hY hCat eN ets eus eX hLX hN1
    go_enter Tryd.func24, Tryd.ntmps24
    go_wp2_with (fail)
    refine HK2.out.mono ?_
    rintro e w1 ⟨rfl, rfl⟩
    go_wp2_with (fail)
    refine HT.out.mono ?_
    rintro e w2 ⟨v2, rfl, hO2, hg2⟩
    obtain ⟨a2, c2, rfl⟩ := hO2.sh
    have H2 := Lib.hid (And.intro hO2.toV hg2)
    clear hO2 hg2
    go_wp2_with (fail)
    refine (HCAT.out _ _ H2.out.1).mono ?_
    rintro e w3 ⟨a3, c3, rfl, hO3, hg3⟩
    have H3 := Lib.hid (And.intro hO3.toV (H2.out.2.trans hg3))
    clear hO3 hg3
    go_wp2_with (fail)
    refine (slicesMax_any _ us _ H3.out.1 (by rw [HUL.out]; exact HN1.out)).mono ?_
    rintro e w4 ⟨mx, rfl, hm, rfl⟩
    have HM : Hid (longX h = mx) := Lib.hid (by
      rw [HLX.out]
      exact (mostL_max (by rw [HEU.out]; exact hm) HNN.out).symm)
    clear hm
    go_wp2
    go_ret
    exact ⟨ret_int HM.out.symm, H3.out.2⟩
end Go.Proofs.YtekhjjcgkmnmlaaDoor
/- The law FnExactLongestOf returns true. -/
namespace Go.Proofs.YtekhjjcgkmnmlaaDoor
open Go.RowKit

set_option maxRecDepth 100000 in
set_option maxHeartbeats 4000000 in
theorem FnExactLongestOf_any (v : Value) (h : List (List Int))  (w : World) (hv : RowsV w v h)  (hS : Steps w) :
    Calls Tryd.prog 11 #[v] w fun e w' => e = .returned (.bool true) ∧ Grew w w' := by
  have HV := Lib.hid hv
  have HS0 := Lib.hid hS
  obtain ⟨M, eM⟩ : ∃ M, longX h = M := ⟨_, rfl⟩
  have HI : ∀ (v : Value) (W : World), RowsV W v h → Grew w W → Calls Tryd.prog 24 #[v] W (fun e w' => e = .returned (.int .i64 M) ∧ Grew W w') := fun v W a b => by
    have := LongestOf_any v h W a (hS.grew b)
    rwa [eM] at this
  have HP : ∀ (v : Value) (W : World), RowsV W v h → Calls Tryd.prog 25 #[v] W (fun e w' => e = .returned (.int .i64 M) ∧ Grew W w') := fun v W a => by
    have := SLongestOf_any v h W a
    rwa [eM] at this
  have HI' := Lib.hid HI
  have HP' := Lib.hid HP
  clear HI HP eM
  obtain ⟨a, b, o, c, rfl, _, _, _⟩ := hv.shape
  clear hv hS
  go_enter Tryd.func11, Tryd.ntmps11
  go_wp2_with (fail)
  refine (szIntSS_any _ h 1048576 w HV.out (by omega) (by omega)).mono ?_
  rintro e w1 ⟨n, rfl, hn, rfl⟩
  by_cases hneg : n < 0
  · clear hn
    go_wp2
    go_ret
    exact ⟨rfl, Grew.refl _⟩
  · have HS := Lib.hid (sz_small2 (h := h) (by omega))
    have HT : Hid (total h ≤ 1048576) := Lib.hid (by omega)
    clear hn
    go_wp2_with (fail)
    refine (toIntSS_any _ h _ HV.out HS.out.1 HS.out.2).mono ?_
    rintro e w2 ⟨g2, c2, rfl, hO2, hg2⟩
    have H2 := Lib.hid (And.intro hO2.toV hg2)
    clear hO2 hg2
    go_wp2_with (fail)
    refine (HP'.out _ _ H2.out.1).mono ?_
    rintro e w3 ⟨rfl, hg3⟩
    have H3 := Lib.hid (H2.out.2.trans hg3)
    clear hg3
    go_wp2_with (fail)
    refine (toIntSS_any _ h _ (HV.out.grew H3.out) HS.out.1 HS.out.2).mono ?_
    rintro e w4 ⟨g4, c4, rfl, hO4, hg4⟩
    have H4 := Lib.hid (And.intro hO4 hg4)
    clear hO4 hg4
    go_wp2_with (fail)
    refine (HI'.out _ _ H4.out.1.toV (H3.out.trans H4.out.2)).mono ?_
    rintro e w5 ⟨rfl, hg5⟩
    have H5 := Lib.hid (And.intro (H4.out.1.grew hg5).toV (H3.out.trans (H4.out.2.trans hg5)))
    clear hg5 H3 H4
    have ebb : (M != M) = false := by simp
    go_wp2_with (fail)
    refine (toIntSS_any _ h _ (HV.out.grew H5.out.2) HS.out.1 HS.out.2).mono ?_
    rintro e w7 ⟨g7, c7, rfl, hO7, hg7⟩
    have H7 := Lib.hid (And.intro hO7.toV hg7)
    clear hO7 hg7
    go_wp2_with (fail)
    refine (eqIntSS_any _ _ h h _ (H5.out.1.grew H7.out.2) H7.out.1).mono ?_
    rw [decide_eq_true (rfl : h = h)]
    rintro e w8 ⟨rfl, hq⟩
    have hg8 := H5.out.2.trans (H7.out.2.trans (quiet_grew hq))
    have H8 := Lib.hid hg8
    clear hq hg8 H5 H7
    go_wp2
    go_ret
    exact ⟨rfl, H8.out⟩
end Go.Proofs.YtekhjjcgkmnmlaaDoor
namespace Go.Proofs.YtekhjjcgkmnmlaaDoor.pExactLongestOf
open Go.RowKit Go.ChangeShapes Go.WideShapes Go.ChangeAt

set_option maxRecDepth 100000 in
theorem lifted (os : Os) (started : os.Started) (H : Type) (enc : TypeId × Value → H) :
    ReturnsInHanded {} Tryd.checked os 11 .any (fun w args => (Rows.fnExactLongestOfSpec.pre enc Tryd.prog Tryd.f11 [] false w args ∧ laidMetH Tryd.prog laid1 w) ∧ sizedMet enc Tryd.prog Tryd.f11 (OpenSpec.ofChange Rows.fnExactLongestOfSpec) false w args)
      (Rows.fnExactLongestOfSpec.post enc Tryd.prog Tryd.f11 false true false false) := by
  refine returnsInHanded_of_change_and (C := Tryd.checked) (X := fun w _ => laidMetH Tryd.prog laid1 w) (fun _ _ _ hh h => h.of_heap hh) Tryd.own started (by kernel_rfl) Tryd.func11
    (ChangeSpec.witness_shaped (enc := enc) (C := Tryd.checked) (os := os) (X := fun w _ => laidMetH Tryd.prog laid1 w) false (World.doorLaid Tryd.prog 400 os) #[.slice none 0 0] 8 rfl (World.shaped_of_RefB (by kernel_rfl) (by kernel_rfl)) (by kernel_rfl) (by kernel_rfl) (by kernel_rfl) (door_met os _)) ?_
  intro W base args ds gs before hval0 hW _ _ hL _
  have hval : ∀ (j : Nat) t v, Tryd.f11.params[j]? = some t → args[j]? = some v → Value.okWide Tryd.prog W .any base t v := hval0
  have hW' := hW
  obtain ⟨p, q, hA0, hV, rfl, _, _⟩ := hW
  have hA : DataW.TrodAll enc Tryd.prog W 0 (fun _ => true) true Tryd.f11.params.toList args.toList ds p := hA0
  rw [Tryd.params11] at hA hval
  obtain ⟨v0, d0, rfl, rfl, h0⟩ := trodAll_one hA
  have hV' := hV
  obtain ⟨_, _, _, _, dv, _, rfl, _⟩ := trodVars_one hV
  obtain ⟨a0, len0, cap0, rfl⟩ := okWide_slice Tryd.underlying23 (hval 0 23 v0 rfl rfl)
  have k0 := h0
  have lt0 : ∀ x ∈ p, x.block < W.heap.size := by obtain ⟨m, hm⟩ := k0; exact DataW.trod_lt m _ _ _ hm
  obtain ⟨bs0, hn0⟩ := rows_came h0
  have HS := steps_of_laid hL
  clear hA0 hval0
  refine (FnExactLongestOf_any _ bs0 W hn0 HS).mono fun e W' ⟨he, bel⟩ => ?_
  subst he
  exact ⟨_, rfl, _, _, _, [], _, q, hW', trodAll_mk1 (shut_bool Tryd.underlying4 _), (trodAll_mk1 (Below.trod Tryd.laidOut (by kernel_rfl) (of_decide_eq_true (by kernel_rfl)) k0 bel lt0)), Below.trodVars Tryd.laidOut bel (by kernel_rfl) hV', Below.frame bel _, fun h => by cases h⟩

theorem row_proved : Rows.FnExactLongestOfSaid :=
  OpenClaim.holds_of_wide 11 Tryd.f11 rfl rfl rfl rfl rfl rfl rfl ⟨rfl, rfl, rfl, rfl, rfl⟩ rfl rfl rfl rfl rfl (by kernel_rfl) Tryd.func11
    (show joinedFacts Tryd.prog 11 Tryd.f11 Rows.fnExactLongestOfSpec Rows.fnExactLongestOfRow = true by unfold joinedFacts; rw [Tryd.makeG, Tryd.liftsG, Tryd.enterG]; kernel_rfl)
    (of_decide_eq_true (by kernel_rfl)) (by unfold Func.isWrapper; first | (rw [if_pos (by decide +kernel)]; kernel_rfl) | (rw [if_neg (by decide +kernel)]; exact ⟨rfl, rfl⟩))
    (fun os started H enc _ => lifted os started H enc)

theorem proved : Rows.FnExactLongestOfCardSaid :=
  Claim7.holds_tied_plain_at .later [] [.data] true Rows.fnExactLongestOfCard.stood.harness Rows.fnExactLongestOfCard.stood.looks
    row_proved (fun _ h => by cases h) (by kernel_rfl) (fun _ h => by cases h) fnExactLongestOf_row_tie rfl ⟨rfl, rfl⟩ (show Tryd.prog.mainIs = some (Rows.fnExactLongestOfCard.stood.harness.1, Rows.fnExactLongestOfCard.stood.harness.2.toList) from Tryd.mainG) rfl
    (fun f fn hf hfn => by
      obtain rfl : f = 11 := Option.some.inj ((show Tryd.prog.funcNamed "loop.example/wateronheights/laws.FnExactLongestOf" = some 11 by kernel_rfl).symm.trans hf) |>.symm
      obtain rfl : fn = Tryd.f11 := (Option.some.inj (Tryd.func11.symm.trans hfn)).symm
      exact ⟨by kernel_rfl, fun j t ht => by
        rw [Tryd.params11] at ht
        have hm : t ∈ [23] := by simpa using Array.mem_of_getElem? ht
        have hall : ([23].all fun u => !Tryd.prog.wantsStandIn u) = true := by kernel_rfl
        exact (show Tryd.prog.wantsStandIn t = false by simpa using List.all_eq_true.1 hall t hm)⟩)
    (by kernel_rfl)
#print axioms proved
end Go.Proofs.YtekhjjcgkmnmlaaDoor.pExactLongestOf
