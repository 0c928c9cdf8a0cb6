/- The contracts of impl.bendsDown, impl.RoofOf and spec.RoofOf. -/
import Derived.Test.YthljmolkicfdaaaRoofM
import Derived.Test.YthljmolkicfdaaaAppendInts
import Derived.Test.YthljmolkicfdaaaSeen
import Derived.Test.YthljmolkicfdaaaSteeper
import Derived.Test.YthljmolkicfdaaaHeldMono
namespace Go.Proofs.Ythljmolkicfdaaa
open Go.RowKit

def OwnP (xs : List Int) (w : World) (e : Ending) (w' : World) : Prop := ∃ v, e = .returned v ∧ IntsO 3 w.heap.size w'.heap.size w' v xs ∧ Grew w w'
theorem IntsO.nilO (E lo hi : Nat) (w : World) : IntsO E lo hi w (.slice none 0 0) [] := ⟨World.ownsRow_nil _ _ _ _, fun g e => by simp [Value.ownBlock] at e⟩

set_option maxRecDepth 100000 in
set_option maxHeartbeats 1000000 in
theorem bendsDown_any (v : Value) (p : List Int) (a b i : Nat) (w : World) (hv : IntsV w v p) (hp : vProf p = true) (ha : a < p.length) (hb : b < p.length) (hi : i < p.length) :
    Calls Try.prog 37 #[v, .int .i64 a, .int .i64 b, .int .i64 i] w fun e w' => e = .returned (.bool (bendB p a b i)) ∧ Grew w w' := by
  have h9 := (vProf_len hp).2
  have HL : Hid (∀ (x y : Nat) (W : World), x < p.length → y < p.length → Grew w W → Calls Try.prog 43 #[v, .int .i64 x, .int .i64 y] W fun e w' => e = .returned (.agg #[.int .i64 (p.getD y 0 - p.getD x 0), .int .i64 ((y : Int) - x)]) ∧ Grew W w') :=
    fun x y W hx hy hg => lineBetween_any v p x y W (hv.grew hg) hx hy (by omega) (fun j hj => by have := vProf_at hp j hj; omega)
  have b1 := vProf_at hp a ha
  have b2 := vProf_at hp b hb
  have b3 := vProf_at hp i hi
  obtain ⟨sa, sb, so, sc, rfl, ⟨hlc, hcb⟩, _, _⟩ := hv.shape
  have HB := Lib.hid (bend_eq p a b i)
  obtain ⟨u, eu⟩ : ∃ u, p.getD b 0 - p.getD a 0 = u := ⟨_, rfl⟩
  obtain ⟨u2, eu2⟩ : ∃ u2, p.getD i 0 - p.getD b 0 = u2 := ⟨_, rfl⟩
  have HE := Lib.hid (And.intro eu eu2)
  have c1 : -10000 ≤ u ∧ u ≤ 10000 := by omega
  have c2 : -10000 ≤ u2 ∧ u2 ≤ 10000 := by omega
  rw [eu, eu2] at HB
  clear hv hp b1 b2 b3 eu eu2
  go_enter Try.func37, Try.ntmps37
  go_wp2_with (fail)
  refine (HL.out a b w ha hb (Grew.refl _)).mono ?_
  rw [HE.out.1]
  rintro e w1 ⟨rfl, hg1⟩
  have HG1 := Lib.hid hg1
  clear hg1
  go_wp2_with (fail)
  refine (HL.out b i w1 hb hi HG1.out).mono ?_
  rw [HE.out.2]
  rintro e w2 ⟨rfl, hg2⟩
  have HG2 := Lib.hid (HG1.out.trans hg2)
  clear hg2
  go_wp2_with (fail)
  refine (isSteeperThan_any u ((b : Int) - a) u2 ((i : Int) - b) w2 c1 (by omega) c2 (by omega)).mono ?_
  rw [HB.out]
  rintro e w3 ⟨rfl, hg3⟩
  have HG3 := Lib.hid (HG2.out.trans hg3)
  clear hg3
  go_wp2
  go_ret
  exact ⟨rfl, HG3.out⟩
--@ROOF (made by gen_roof.py)
set_option maxRecDepth 100000 in
theorem Roof_no (v : Value) (p : List Int) (w : World) (hv : IntsV w v p) (h : vProf p = false) :
    Calls Try.prog 14 #[v] w (OwnP [] w) := by
  have HV := Lib.hid (ValidProfile_any v p w hv)
  rw [h] at HV
  obtain ⟨a, b, o, c, rfl, ⟨hlc, hcb⟩, _, _⟩ := hv.shape
  clear hv h
  go_enter Try.func14, Try.ntmps14
  go_wp2_with (fail)
  refine HV.out.mono ?_
  rintro e w1 ⟨rfl, rfl⟩
  go_wp2
  go_ret
  exact ⟨_, rfl, IntsO.nilO _ _ _ _, Grew.refl _⟩

theorem roof_close {p : List Int} {k : Nat} {r : List Nat} {m : Nat} (h : roofTo p k = r) (hm : popTo p k r r.length = m) (hl : m ≤ r.length) : asInts (roofTo p (k + 1)) = (asInts r).take m ++ [(k : Int)] ∧ (roofTo p (k + 1)).length = m + 1 := by
  simp only [roofTo, h, hm]
  constructor
  · simp [asInts, List.map_take]
  · simp; omega
theorem popTo_done {p : List Int} {k : Nat} {r : List Nat} {m : Nat} (h : m ≤ 1 ∨ ∃ M, m = M + 2 ∧ bendB p (r.getD M 0) (r.getD (M + 1) 0) k = true) : popTo p k r m = m := by
  rcases h with h | ⟨M, rfl, h⟩
  · match m, h with
    | 0, _ => rfl
    | 1, _ => rfl
  · simp only [popTo]
    rw [if_pos h]
theorem popTo_next {p : List Int} {k : Nat} {r : List Nat} {M : Nat} (h : bendB p (r.getD M 0) (r.getD (M + 1) 0) k = false) : popTo p k r (M + 2) = popTo p k r (M + 1) := by
  simp only [popTo]
  rw [if_neg (by rw [h]; exact Bool.false_ne_true)]

set_option maxRecDepth 100000 in
set_option maxHeartbeats 8000000 in
theorem Roof_yes (v : Value) (p : List Int) (w : World) (hv : IntsV w v p) (hp : vProf p = true) :
    Calls Try.prog 14 #[v] w (OwnP (asInts (roofL p)) w) := by
  have HV0 := Lib.hid (ValidProfile_any v p w hv)
  rw [hp] at HV0
  have HV := Lib.hid hv
  obtain ⟨h1, h9⟩ := vProf_len hp
  have HP := Lib.hid hp
  obtain ⟨a, b, o, c, rfl, ⟨hlc, hcb⟩, _, _⟩ := hv.shape
  clear hv hp
  go_enter Try.func14, Try.ntmps14
  go_wp2_with (fail)
  refine HV0.out.mono ?_
  rintro e w1 ⟨rfl, rfl⟩
  go_wp2
  go_loopg [3, 10] (p.length) (fun gk v i' wr => ∃ (k n : Nat) (sa : Option Addr) (sc : Nat), v = .slice sa n sc ∧ i' = .int .i64 k ∧ k ≤ p.length ∧ p.length ≤ gk + k ∧ n ≤ k ∧ Hid (n = (roofTo p k).length ∧ IntsO 3 w.heap.size wr.heap.size wr v (asInts (roofTo p k)) ∧ Grew w wr))
  case atStart => exact ⟨0, 0, none, 0, rfl, rfl, Nat.zero_le _, Nat.le_refl _, Nat.le_refl _, rfl, IntsO.nilO _ _ _ _, Grew.refl _⟩
  case round =>
    obtain ⟨k, n, sa, sc, rfl, rfl, hk, hgk, hnk, HI⟩ := hrel
    by_cases hlt : k < p.length
    · obtain ⟨wo, rfl⟩ : ∃ wo : World, wo = wr := ⟨_, rfl⟩
      obtain ⟨gn, rfl⟩ : ∃ gn : Nat, gn = gk := ⟨_, rfl⟩
      obtain ⟨r, er⟩ : ∃ r, roofTo p k = r := ⟨_, rfl⟩
      have hrl := roofTo_lt p k
      rw [er] at hrl HI
      have HR := Lib.hid (And.intro er hrl)
      clear er hrl
      go_wp2
      go_loopg [3] n (fun gk v wr => ∃ (m : Nat) (sa : Option Addr) (sc : Nat), v = .slice sa m sc ∧ m ≤ n ∧ m ≤ gk ∧ Hid (popTo p k r r.length = popTo p k r m ∧ IntsO 3 w.heap.size wr.heap.size wr v ((asInts r).take m) ∧ Grew wo wr))
      case atStart => exact ⟨n, sa, sc, rfl, Nat.le_refl _, Nat.le_refl _, by rw [HI.out.1], by
        have := HI.out.2.1
        rwa [List.take_of_length_le (by rw [asInts_len, HI.out.1]; exact Nat.le_refl _)], Grew.refl _⟩
      case round =>
        obtain ⟨m, ta, tc, rfl, hmn, hmg, HJ⟩ := hrel
        have hlen : ((asInts r).take m).length = m := by rw [List.length_take, asInts_len, ← HI.out.1]; omega
        have HLEN := Lib.hid hlen
        by_cases hm : 1 < m
        · obtain ⟨M, hM⟩ : ∃ M, m = M + 2 := ⟨m - 2, by omega⟩
          obtain ⟨N, hN⟩ : ∃ N, m = N + 1 := ⟨m - 1, by omega⟩
          have hrn := HI.out.1
          obtain ⟨A, hA⟩ : ∃ A, r.getD M 0 = A := ⟨_, rfl⟩
          obtain ⟨B, hB⟩ : ∃ B, r.getD N 0 = B := ⟨_, rfl⟩
          have hAk := HR.out.2.2 M (by omega)
          have hBk := HR.out.2.2 N (by omega)
          rw [hA] at hAk
          rw [hB] at hBk
          obtain ⟨g, c', e', _, _, hlc', hcc'⟩ := HJ.out.2.1.pos (by omega)
          rw [hlen] at e' hlc'
          simp only [Value.slice.injEq] at e'
          obtain ⟨rfl, _, rfl⟩ := e'
          have hcA := (HJ.out.2.1.at rfl (i := M) (by omega)).1
          have hcB := (HJ.out.2.1.at rfl (i := N) (by omega)).1
          rw [show ((asInts r).take m).getD M 0 = (A : Int) by
            rw [← hA, ← asInts_at r M (by omega)]; simp [List.getD_eq_getElem?_getD, show M < m by omega]] at hcA
          rw [show ((asInts r).take m).getD N 0 = (B : Int) by
            rw [← hB, ← asInts_at r N (by omega)]; simp [List.getD_eq_getElem?_getD, show N < m by omega]] at hcB
          have HBD : Hid (∀ W, Grew wr W → Calls Try.prog 37 #[.slice a p.length c, .int .i64 A, .int .i64 B, .int .i64 k] W fun e w' => e = .returned (.bool (bendB p A B k)) ∧ Grew W w') := fun W hW =>
            bendsDown_any _ p A B k W (((HV.out.grew HI.out.2.2).grew HJ.out.2.2).grew hW) HP.out (by omega) (by omega) hlt
          have w1 : IntKind.i64.wrap ((m : Int) - 2) = (M : Int) := by rw [wrap_small _ (by omega) (by omega)]; omega
          have w2 : IntKind.i64.wrap ((m : Int) - 1) = (N : Int) := by rw [wrap_small _ (by omega) (by omega)]; omega
          have w3 : (m : Int) - 1 = (N : Int) := by omega
          have w4 : IntKind.i64.wrap (N : Int) = (N : Int) := wrap_small _ (by omega) (by omega)
          have r1 : (0 : Int) ≤ M := by omega
          have r2 : (M : Int) < m := by omega
          have r3 : (0 : Int) ≤ N := by omega
          have r4 : (N : Int) < m := by omega
          have r5 : (1 : Int) < m := by omega
          have r6 : N ≤ c := by omega
          have HAB := Lib.hid (And.intro hA (And.intro hB (And.intro hM hN)))
          cases hbb : bendB p A B k with
          | true =>
            have HBB := Lib.hid hbb
            clear hA hB hbb hrn hM hN
            go_wp2_with (fail)
            refine wp_region_noPanic ?_
            refine wp_region_held_drew (S := fun W => W.cell? ⟨g, M, none⟩ = some (.int .i64 (A : Int)) ∧ W.cell? ⟨g, N, none⟩ = some (.int .i64 (B : Int)) ∧ Grew wr W) (by kernel_rfl) (by exact ⟨hcA, hcB, (Grew.refl wr).drew⟩) (fun hHeld => ?_)
            refine wpAnyH_take (i := 0) (oi := { dst := some 13, op := Op.move (Operand.tmp 3), type := 23, pos := _, after := #[], guard := none }) (v := ?_) rfl (by kernel_rfl) (by kernel_rfl) (by kernel_rfl) (fun _ _ _ h => h) (Or.inl ⟨by rfl, ?hy⟩) (by assumption) ?_
            case hy => (intro w hSw; (try dsimp only at hSw); go_simp; try with_reducible rfl)
            try simp only [Act.put, List.setIfInBounds_toArray, List.set_cons_zero, List.set_cons_succ]
            refine wpAnyH_take (i := 1) (oi := { dst := some 14, op := Op.call { callee := Callee.builtin Builtin.len, args := #[Operand.tmp 13], argTypes := #[23] }, type := 3, pos := _, after := #[{ on := 0, ground := Ground.data }], guard := none }) (v := ?_) rfl (by kernel_rfl) (by kernel_rfl) (by kernel_rfl) (fun _ _ _ h => h) (Or.inl ⟨by rfl, ?hy⟩) (by assumption) ?_
            case hy => (intro w hSw; (try dsimp only at hSw); go_simp; try with_reducible rfl)
            try simp only [Act.put, List.setIfInBounds_toArray, List.set_cons_zero, List.set_cons_succ]
            refine wpAnyH_take (i := 2) (oi := { dst := some 15, op := Op.binOp BinOp.gtr 3 (Operand.tmp 14) (Operand.const (Value.int IntKind.i64 1)) 3, type := 4, pos := _, after := #[{ on := 1, ground := Ground.data }], guard := none }) (v := .bool true) rfl (by kernel_rfl) (by kernel_rfl) (by kernel_rfl) (fun _ _ _ h => h) (Or.inl ⟨by rfl, ?hy⟩) (by assumption) ?_
            case hy => (intro w hSw; (try dsimp only at hSw); go_simp <;> (try with_reducible rfl) <;> (try simp [*]))
            try simp only [Act.put, List.setIfInBounds_toArray, List.set_cons_zero, List.set_cons_succ]
            refine wpAnyH_take (i := 3) (oi := { dst := some 16, op := Op.move (Operand.tmp 15), type := 4, pos := _, after := #[{ on := 2, ground := Ground.data }], guard := none }) (v := ?_) rfl (by kernel_rfl) (by kernel_rfl) (by kernel_rfl) (fun _ _ _ h => h) (Or.inl ⟨by rfl, ?hy⟩) (by assumption) ?_
            case hy => (intro w hSw; (try dsimp only at hSw); go_simp; try with_reducible rfl)
            try simp only [Act.put, List.setIfInBounds_toArray, List.set_cons_zero, List.set_cons_succ]
            refine wpAnyH_take (i := 4) (oi := { dst := some 17, op := Op.move (Operand.tmp 0), type := 23, pos := _, after := #[{ on := 3, ground := Ground.guard }], guard := some (3, true) }) (v := ?_) rfl (by kernel_rfl) (by kernel_rfl) (by kernel_rfl) (fun _ _ _ h => h) (Or.inl ⟨by rfl, ?hy⟩) (by assumption) ?_
            case hy => (intro w hSw; (try dsimp only at hSw); go_simp; try with_reducible rfl)
            try simp only [Act.put, List.setIfInBounds_toArray, List.set_cons_zero, List.set_cons_succ]
            refine wpAnyH_take (i := 5) (oi := { dst := some 18, op := Op.move (Operand.tmp 3), type := 23, pos := _, after := #[{ on := 3, ground := Ground.guard }], guard := some (3, true) }) (v := ?_) rfl (by kernel_rfl) (by kernel_rfl) (by kernel_rfl) (fun _ _ _ h => h) (Or.inl ⟨by rfl, ?hy⟩) (by assumption) ?_
            case hy => (intro w hSw; (try dsimp only at hSw); go_simp; try with_reducible rfl)
            try simp only [Act.put, List.setIfInBounds_toArray, List.set_cons_zero, List.set_cons_succ]
            refine wpAnyH_take (i := 6) (oi := { dst := some 19, op := Op.move (Operand.tmp 3), type := 23, pos := _, after := #[{ on := 3, ground := Ground.guard }], guard := some (3, true) }) (v := ?_) rfl (by kernel_rfl) (by kernel_rfl) (by kernel_rfl) (fun _ _ _ h => h) (Or.inl ⟨by rfl, ?hy⟩) (by assumption) ?_
            case hy => (intro w hSw; (try dsimp only at hSw); go_simp; try with_reducible rfl)
            try simp only [Act.put, List.setIfInBounds_toArray, List.set_cons_zero, List.set_cons_succ]
            refine wpAnyH_take (i := 7) (oi := { dst := some 20, op := Op.call { callee := Callee.builtin Builtin.len, args := #[Operand.tmp 19], argTypes := #[23] }, type := 3, pos := _, after := #[{ on := 6, ground := Ground.data }, { on := 3, ground := Ground.guard }], guard := some (3, true) }) (v := ?_) rfl (by kernel_rfl) (by kernel_rfl) (by kernel_rfl) (fun _ _ _ h => h) (Or.inl ⟨by rfl, ?hy⟩) (by assumption) ?_
            case hy => (intro w hSw; (try dsimp only at hSw); go_simp; try with_reducible rfl)
            try simp only [Act.put, List.setIfInBounds_toArray, List.set_cons_zero, List.set_cons_succ]
            refine wpAnyH_take (i := 8) (oi := { dst := some 21, op := Op.binOp BinOp.sub 3 (Operand.tmp 20) (Operand.const (Value.int IntKind.i64 2)) 3, type := 3, pos := _, after := #[{ on := 7, ground := Ground.data }, { on := 3, ground := Ground.guard }], guard := some (3, true) }) (v := ?_) rfl (by kernel_rfl) (by kernel_rfl) (by kernel_rfl) (fun _ _ _ h => h) (Or.inl ⟨by rfl, ?hy⟩) (by assumption) ?_
            case hy => (intro w hSw; (try dsimp only at hSw); go_simp; try with_reducible rfl)
            try simp only [Act.put, List.setIfInBounds_toArray, List.set_cons_zero, List.set_cons_succ]
            refine wpAnyH_take (i := 9) (oi := { dst := some 22, op := Op.indexAddr 23 (Operand.tmp 18) (Operand.tmp 21), type := 0, pos := _, after := #[{ on := 5, ground := Ground.data }, { on := 8, ground := Ground.data }, { on := 3, ground := Ground.guard }], guard := some (3, true) }) (v := ?_) rfl (by kernel_rfl) (by kernel_rfl) (by kernel_rfl) (fun _ _ _ h => h) (Or.inl ⟨by rfl, ?hy⟩) (by assumption) ?_
            case hy => (intro w hSw; (try dsimp only at hSw); go_simp; try with_reducible rfl)
            try simp only [Act.put, List.setIfInBounds_toArray, List.set_cons_zero, List.set_cons_succ]
            refine wpAnyH_take (i := 10) (oi := { dst := some 23, op := Op.load 3 (Operand.tmp 22), type := 3, pos := _, after := #[{ on := 9, ground := Ground.data }, { on := 3, ground := Ground.guard }], guard := some (3, true) }) (v := ?_) rfl (by kernel_rfl) (by kernel_rfl) (by kernel_rfl) (fun _ _ _ h => h) (Or.inl ⟨by rfl, ?hy⟩) (by assumption) ?_
            case hy => (intro w hSw; (try dsimp only at hSw); go_simp; try with_reducible rfl)
            try simp only [Act.put, List.setIfInBounds_toArray, List.set_cons_zero, List.set_cons_succ]
            refine wpAnyH_take (i := 11) (oi := { dst := some 24, op := Op.move (Operand.tmp 3), type := 23, pos := _, after := #[{ on := 3, ground := Ground.guard }], guard := some (3, true) }) (v := ?_) rfl (by kernel_rfl) (by kernel_rfl) (by kernel_rfl) (fun _ _ _ h => h) (Or.inl ⟨by rfl, ?hy⟩) (by assumption) ?_
            case hy => (intro w hSw; (try dsimp only at hSw); go_simp; try with_reducible rfl)
            try simp only [Act.put, List.setIfInBounds_toArray, List.set_cons_zero, List.set_cons_succ]
            refine wpAnyH_take (i := 12) (oi := { dst := some 25, op := Op.move (Operand.tmp 3), type := 23, pos := _, after := #[{ on := 3, ground := Ground.guard }], guard := some (3, true) }) (v := ?_) rfl (by kernel_rfl) (by kernel_rfl) (by kernel_rfl) (fun _ _ _ h => h) (Or.inl ⟨by rfl, ?hy⟩) (by assumption) ?_
            case hy => (intro w hSw; (try dsimp only at hSw); go_simp; try with_reducible rfl)
            try simp only [Act.put, List.setIfInBounds_toArray, List.set_cons_zero, List.set_cons_succ]
            refine wpAnyH_take (i := 13) (oi := { dst := some 26, op := Op.call { callee := Callee.builtin Builtin.len, args := #[Operand.tmp 25], argTypes := #[23] }, type := 3, pos := _, after := #[{ on := 12, ground := Ground.data }, { on := 3, ground := Ground.guard }], guard := some (3, true) }) (v := ?_) rfl (by kernel_rfl) (by kernel_rfl) (by kernel_rfl) (fun _ _ _ h => h) (Or.inl ⟨by rfl, ?hy⟩) (by assumption) ?_
            case hy => (intro w hSw; (try dsimp only at hSw); go_simp; try with_reducible rfl)
            try simp only [Act.put, List.setIfInBounds_toArray, List.set_cons_zero, List.set_cons_succ]
            refine wpAnyH_take (i := 14) (oi := { dst := some 27, op := Op.binOp BinOp.sub 3 (Operand.tmp 26) (Operand.const (Value.int IntKind.i64 1)) 3, type := 3, pos := _, after := #[{ on := 13, ground := Ground.data }, { on := 3, ground := Ground.guard }], guard := some (3, true) }) (v := ?_) rfl (by kernel_rfl) (by kernel_rfl) (by kernel_rfl) (fun _ _ _ h => h) (Or.inl ⟨by rfl, ?hy⟩) (by assumption) ?_
            case hy => (intro w hSw; (try dsimp only at hSw); go_simp; try with_reducible rfl)
            try simp only [Act.put, List.setIfInBounds_toArray, List.set_cons_zero, List.set_cons_succ]
            refine wpAnyH_take (i := 15) (oi := { dst := some 28, op := Op.indexAddr 23 (Operand.tmp 24) (Operand.tmp 27), type := 0, pos := _, after := #[{ on := 11, ground := Ground.data }, { on := 14, ground := Ground.data }, { on := 3, ground := Ground.guard }], guard := some (3, true) }) (v := ?_) rfl (by kernel_rfl) (by kernel_rfl) (by kernel_rfl) (fun _ _ _ h => h) (Or.inl ⟨by rfl, ?hy⟩) (by assumption) ?_
            case hy => (intro w hSw; (try dsimp only at hSw); go_simp; try with_reducible rfl)
            try simp only [Act.put, List.setIfInBounds_toArray, List.set_cons_zero, List.set_cons_succ]
            refine wpAnyH_take (i := 16) (oi := { dst := some 29, op := Op.load 3 (Operand.tmp 28), type := 3, pos := _, after := #[{ on := 15, ground := Ground.data }, { on := 3, ground := Ground.guard }], guard := some (3, true) }) (v := ?_) rfl (by kernel_rfl) (by kernel_rfl) (by kernel_rfl) (fun _ _ _ h => h) (Or.inl ⟨by rfl, ?hy⟩) (by assumption) ?_
            case hy => (intro w hSw; (try dsimp only at hSw); go_simp; try with_reducible rfl)
            try simp only [Act.put, List.setIfInBounds_toArray, List.set_cons_zero, List.set_cons_succ]
            refine wpAnyH_take (i := 17) (oi := { dst := some 30, op := Op.move (Operand.tmp 4), type := 3, pos := _, after := #[{ on := 3, ground := Ground.guard }], guard := some (3, true) }) (v := ?_) rfl (by kernel_rfl) (by kernel_rfl) (by kernel_rfl) (fun _ _ _ h => h) (Or.inl ⟨by rfl, ?hy⟩) (by assumption) ?_
            case hy => (intro w hSw; (try dsimp only at hSw); go_simp; try with_reducible rfl)
            try simp only [Act.put, List.setIfInBounds_toArray, List.set_cons_zero, List.set_cons_succ]
            refine wpAnyH_ready (rs := [18]) (by kernel_rfl) (by simp) ?_
            refine AllReadyH.cons (i := 18) (o := { dst := some 31, op := Op.call { callee := Callee.value (Operand.func 37), args := #[Operand.tmp 17, Operand.tmp 23, Operand.tmp 29, Operand.tmp 30], argTypes := #[23, 3, 3, 3] }, type := 4, pos := _, after := #[{ on := 4, ground := Ground.data }, { on := 10, ground := Ground.data }, { on := 16, ground := Ground.data }, { on := 17, ground := Ground.data }, { on := 3, ground := Ground.chain }, { on := 3, ground := Ground.guard }], guard := some (3, true) }) rfl (fun KK hKK => ?_) AllReadyH.nil
            go_simp
            go_at_call 37
            refine (HBD.out _ hHeld.2.2).mono ?_
            rw [HBB.out]
            rintro e w10 ⟨rfl, hg10⟩
            have HG10 := Lib.hid hg10
            clear hg10
            refine hKK.out _ _ (by exact ⟨HG10.out.cell hHeld.1, HG10.out.cell hHeld.2.1, hHeld.2.2.trans HG10.out⟩) (fun hHeld => ?_)
            clear hKK KK
            try simp only [Act.put, List.setIfInBounds_toArray, List.set_cons_zero, List.set_cons_succ]
            refine wpAnyH_take (i := 19) (oi := { dst := some 32, op := Op.unOp UnOp.not 4 (Operand.tmp 31), type := 4, pos := _, after := #[{ on := 18, ground := Ground.data }, { on := 3, ground := Ground.guard }], guard := some (3, true) }) (v := ?_) rfl (by kernel_rfl) (by kernel_rfl) (by kernel_rfl) (fun _ _ _ h => h) (Or.inl ⟨by rfl, ?hy⟩) (by assumption) ?_
            case hy => (intro w hSw; (try dsimp only at hSw); go_simp; try with_reducible rfl)
            try simp only [Act.put, List.setIfInBounds_toArray, List.set_cons_zero, List.set_cons_succ]
            refine wpAnyH_take (i := 20) (oi := { dst := some 33, op := Op.pick (Operand.tmp 16) (Operand.tmp 32) (Operand.const (Value.bool false)), type := 4, pos := _, after := #[{ on := 3, ground := Ground.data }, { on := 19, ground := Ground.data }], guard := none }) (v := ?_) rfl (by kernel_rfl) (by kernel_rfl) (by kernel_rfl) (fun _ _ _ h => h) (Or.inl ⟨by rfl, ?hy⟩) (by assumption) ?_
            case hy => (intro w hSw; (try dsimp only at hSw); go_simp; try with_reducible rfl)
            try simp only [Act.put, List.setIfInBounds_toArray, List.set_cons_zero, List.set_cons_succ]
            refine wpAnyH_done (by kernel_rfl) ?_ _
            refine NoPanic.normal ?_
            have HGN := Lib.hid (HJ.out.2.2.trans hHeld.2.2)
            have HC : Hid (∃ X : List Int, (asInts r).take m = X ∧ X.length = m ∧ IntsO 3 w.heap.size w10.heap.size w10 (.slice (some ⟨g, 0, none⟩) m tc) X ∧ popTo p k r r.length = m) :=
              ⟨_, rfl, HLEN.out, (HJ.out.2.1.grew hHeld.2.2).wide (Nat.le_refl _) hHeld.2.2.size, by
                rw [HJ.out.1]
                refine popTo_done (.inr ⟨M, HAB.out.2.2.1, ?_⟩)
                rw [HAB.out.1, show M + 1 = N by have := HAB.out.2.2; omega, HAB.out.2.1]
                exact HBB.out⟩
            clear hHeld hcA hcB w1 w2 w3 w4 r1 r2 r3 r4 r5 r6
            obtain ⟨X, hX1, hX2, hX3, hX4⟩ := HC.out
            have HX := Lib.hid (And.intro hX1 (And.intro hX2 hX4))
            have HXO := Lib.hid hX3
            have hXl : X.length + 1 ≤ 17592186044416 := by omega
            have hXk : X.length + 1 ≤ k + 1 := by omega
            have hws : w.heap.size ≤ w10.heap.size := (HI.out.2.2.trans HGN.out).size
            clear hX1 hX2 hX3 hX4 HC
            go_wp2_with (at_builtin; refine wpList_append_int rfl (.tmp 39) (.tmp 41) 23 rfl Try.underlying23 Try.infoE rfl rfl rfl HXO.out hXl hws ?_; intro g5 c5 w5 hO5 hW5 hS5)
            have HF : Hid (IntsO 3 w.heap.size w5.heap.size w5 (.slice (some ⟨g5, 0, none⟩) (X.length + 1) c5) (X ++ [(k : Int)]) ∧ Grew w w5) := ⟨hO5, Within.grew (HI.out.2.2.trans HGN.out) hW5 (Nat.le_refl _)⟩
            clear hO5 hW5 hS5
            go_wp2
            go_roundg (gn - 1)
            case measure => omega
            case rel => exact ⟨k + 1, X.length + 1, _, c5, rfl, by go_num, by omega, by omega, hXk, by
              have hc := roof_close HR.out.1 HX.out.2.2 (by have := HI.out.1; omega)
              rw [hc.1, hc.2, HX.out.1, HX.out.2.1]
              have := HF.out.1
              rw [HX.out.2.1] at this
              exact ⟨rfl, this, HF.out.2⟩⟩
          | false =>
            have HBB := Lib.hid hbb
            clear hA hB hbb hrn hM hN
            go_wp2_with (fail)
            refine wp_region_noPanic ?_
            refine wp_region_held_drew (S := fun W => W.cell? ⟨g, M, none⟩ = some (.int .i64 (A : Int)) ∧ W.cell? ⟨g, N, none⟩ = some (.int .i64 (B : Int)) ∧ Grew wr W) (by kernel_rfl) (by exact ⟨hcA, hcB, (Grew.refl wr).drew⟩) (fun hHeld => ?_)
            refine wpAnyH_take (i := 0) (oi := { dst := some 13, op := Op.move (Operand.tmp 3), type := 23, pos := _, after := #[], guard := none }) (v := ?_) rfl (by kernel_rfl) (by kernel_rfl) (by kernel_rfl) (fun _ _ _ h => h) (Or.inl ⟨by rfl, ?hy⟩) (by assumption) ?_
            case hy => (intro w hSw; (try dsimp only at hSw); go_simp; try with_reducible rfl)
            try simp only [Act.put, List.setIfInBounds_toArray, List.set_cons_zero, List.set_cons_succ]
            refine wpAnyH_take (i := 1) (oi := { dst := some 14, op := Op.call { callee := Callee.builtin Builtin.len, args := #[Operand.tmp 13], argTypes := #[23] }, type := 3, pos := _, after := #[{ on := 0, ground := Ground.data }], guard := none }) (v := ?_) rfl (by kernel_rfl) (by kernel_rfl) (by kernel_rfl) (fun _ _ _ h => h) (Or.inl ⟨by rfl, ?hy⟩) (by assumption) ?_
            case hy => (intro w hSw; (try dsimp only at hSw); go_simp; try with_reducible rfl)
            try simp only [Act.put, List.setIfInBounds_toArray, List.set_cons_zero, List.set_cons_succ]
            refine wpAnyH_take (i := 2) (oi := { dst := some 15, op := Op.binOp BinOp.gtr 3 (Operand.tmp 14) (Operand.const (Value.int IntKind.i64 1)) 3, type := 4, pos := _, after := #[{ on := 1, ground := Ground.data }], guard := none }) (v := .bool true) rfl (by kernel_rfl) (by kernel_rfl) (by kernel_rfl) (fun _ _ _ h => h) (Or.inl ⟨by rfl, ?hy⟩) (by assumption) ?_
            case hy => (intro w hSw; (try dsimp only at hSw); go_simp <;> (try with_reducible rfl) <;> (try simp [*]))
            try simp only [Act.put, List.setIfInBounds_toArray, List.set_cons_zero, List.set_cons_succ]
            refine wpAnyH_take (i := 3) (oi := { dst := some 16, op := Op.move (Operand.tmp 15), type := 4, pos := _, after := #[{ on := 2, ground := Ground.data }], guard := none }) (v := ?_) rfl (by kernel_rfl) (by kernel_rfl) (by kernel_rfl) (fun _ _ _ h => h) (Or.inl ⟨by rfl, ?hy⟩) (by assumption) ?_
            case hy => (intro w hSw; (try dsimp only at hSw); go_simp; try with_reducible rfl)
            try simp only [Act.put, List.setIfInBounds_toArray, List.set_cons_zero, List.set_cons_succ]
            refine wpAnyH_take (i := 4) (oi := { dst := some 17, op := Op.move (Operand.tmp 0), type := 23, pos := _, after := #[{ on := 3, ground := Ground.guard }], guard := some (3, true) }) (v := ?_) rfl (by kernel_rfl) (by kernel_rfl) (by kernel_rfl) (fun _ _ _ h => h) (Or.inl ⟨by rfl, ?hy⟩) (by assumption) ?_
            case hy => (intro w hSw; (try dsimp only at hSw); go_simp; try with_reducible rfl)
            try simp only [Act.put, List.setIfInBounds_toArray, List.set_cons_zero, List.set_cons_succ]
            refine wpAnyH_take (i := 5) (oi := { dst := some 18, op := Op.move (Operand.tmp 3), type := 23, pos := _, after := #[{ on := 3, ground := Ground.guard }], guard := some (3, true) }) (v := ?_) rfl (by kernel_rfl) (by kernel_rfl) (by kernel_rfl) (fun _ _ _ h => h) (Or.inl ⟨by rfl, ?hy⟩) (by assumption) ?_
            case hy => (intro w hSw; (try dsimp only at hSw); go_simp; try with_reducible rfl)
            try simp only [Act.put, List.setIfInBounds_toArray, List.set_cons_zero, List.set_cons_succ]
            refine wpAnyH_take (i := 6) (oi := { dst := some 19, op := Op.move (Operand.tmp 3), type := 23, pos := _, after := #[{ on := 3, ground := Ground.guard }], guard := some (3, true) }) (v := ?_) rfl (by kernel_rfl) (by kernel_rfl) (by kernel_rfl) (fun _ _ _ h => h) (Or.inl ⟨by rfl, ?hy⟩) (by assumption) ?_
            case hy => (intro w hSw; (try dsimp only at hSw); go_simp; try with_reducible rfl)
            try simp only [Act.put, List.setIfInBounds_toArray, List.set_cons_zero, List.set_cons_succ]
            refine wpAnyH_take (i := 7) (oi := { dst := some 20, op := Op.call { callee := Callee.builtin Builtin.len, args := #[Operand.tmp 19], argTypes := #[23] }, type := 3, pos := _, after := #[{ on := 6, ground := Ground.data }, { on := 3, ground := Ground.guard }], guard := some (3, true) }) (v := ?_) rfl (by kernel_rfl) (by kernel_rfl) (by kernel_rfl) (fun _ _ _ h => h) (Or.inl ⟨by rfl, ?hy⟩) (by assumption) ?_
            case hy => (intro w hSw; (try dsimp only at hSw); go_simp; try with_reducible rfl)
            try simp only [Act.put, List.setIfInBounds_toArray, List.set_cons_zero, List.set_cons_succ]
            refine wpAnyH_take (i := 8) (oi := { dst := some 21, op := Op.binOp BinOp.sub 3 (Operand.tmp 20) (Operand.const (Value.int IntKind.i64 2)) 3, type := 3, pos := _, after := #[{ on := 7, ground := Ground.data }, { on := 3, ground := Ground.guard }], guard := some (3, true) }) (v := ?_) rfl (by kernel_rfl) (by kernel_rfl) (by kernel_rfl) (fun _ _ _ h => h) (Or.inl ⟨by rfl, ?hy⟩) (by assumption) ?_
            case hy => (intro w hSw; (try dsimp only at hSw); go_simp; try with_reducible rfl)
            try simp only [Act.put, List.setIfInBounds_toArray, List.set_cons_zero, List.set_cons_succ]
            refine wpAnyH_take (i := 9) (oi := { dst := some 22, op := Op.indexAddr 23 (Operand.tmp 18) (Operand.tmp 21), type := 0, pos := _, after := #[{ on := 5, ground := Ground.data }, { on := 8, ground := Ground.data }, { on := 3, ground := Ground.guard }], guard := some (3, true) }) (v := ?_) rfl (by kernel_rfl) (by kernel_rfl) (by kernel_rfl) (fun _ _ _ h => h) (Or.inl ⟨by rfl, ?hy⟩) (by assumption) ?_
            case hy => (intro w hSw; (try dsimp only at hSw); go_simp; try with_reducible rfl)
            try simp only [Act.put, List.setIfInBounds_toArray, List.set_cons_zero, List.set_cons_succ]
            refine wpAnyH_take (i := 10) (oi := { dst := some 23, op := Op.load 3 (Operand.tmp 22), type := 3, pos := _, after := #[{ on := 9, ground := Ground.data }, { on := 3, ground := Ground.guard }], guard := some (3, true) }) (v := ?_) rfl (by kernel_rfl) (by kernel_rfl) (by kernel_rfl) (fun _ _ _ h => h) (Or.inl ⟨by rfl, ?hy⟩) (by assumption) ?_
            case hy => (intro w hSw; (try dsimp only at hSw); go_simp; try with_reducible rfl)
            try simp only [Act.put, List.setIfInBounds_toArray, List.set_cons_zero, List.set_cons_succ]
            refine wpAnyH_take (i := 11) (oi := { dst := some 24, op := Op.move (Operand.tmp 3), type := 23, pos := _, after := #[{ on := 3, ground := Ground.guard }], guard := some (3, true) }) (v := ?_) rfl (by kernel_rfl) (by kernel_rfl) (by kernel_rfl) (fun _ _ _ h => h) (Or.inl ⟨by rfl, ?hy⟩) (by assumption) ?_
            case hy => (intro w hSw; (try dsimp only at hSw); go_simp; try with_reducible rfl)
            try simp only [Act.put, List.setIfInBounds_toArray, List.set_cons_zero, List.set_cons_succ]
            refine wpAnyH_take (i := 12) (oi := { dst := some 25, op := Op.move (Operand.tmp 3), type := 23, pos := _, after := #[{ on := 3, ground := Ground.guard }], guard := some (3, true) }) (v := ?_) rfl (by kernel_rfl) (by kernel_rfl) (by kernel_rfl) (fun _ _ _ h => h) (Or.inl ⟨by rfl, ?hy⟩) (by assumption) ?_
            case hy => (intro w hSw; (try dsimp only at hSw); go_simp; try with_reducible rfl)
            try simp only [Act.put, List.setIfInBounds_toArray, List.set_cons_zero, List.set_cons_succ]
            refine wpAnyH_take (i := 13) (oi := { dst := some 26, op := Op.call { callee := Callee.builtin Builtin.len, args := #[Operand.tmp 25], argTypes := #[23] }, type := 3, pos := _, after := #[{ on := 12, ground := Ground.data }, { on := 3, ground := Ground.guard }], guard := some (3, true) }) (v := ?_) rfl (by kernel_rfl) (by kernel_rfl) (by kernel_rfl) (fun _ _ _ h => h) (Or.inl ⟨by rfl, ?hy⟩) (by assumption) ?_
            case hy => (intro w hSw; (try dsimp only at hSw); go_simp; try with_reducible rfl)
            try simp only [Act.put, List.setIfInBounds_toArray, List.set_cons_zero, List.set_cons_succ]
            refine wpAnyH_take (i := 14) (oi := { dst := some 27, op := Op.binOp BinOp.sub 3 (Operand.tmp 26) (Operand.const (Value.int IntKind.i64 1)) 3, type := 3, pos := _, after := #[{ on := 13, ground := Ground.data }, { on := 3, ground := Ground.guard }], guard := some (3, true) }) (v := ?_) rfl (by kernel_rfl) (by kernel_rfl) (by kernel_rfl) (fun _ _ _ h => h) (Or.inl ⟨by rfl, ?hy⟩) (by assumption) ?_
            case hy => (intro w hSw; (try dsimp only at hSw); go_simp; try with_reducible rfl)
            try simp only [Act.put, List.setIfInBounds_toArray, List.set_cons_zero, List.set_cons_succ]
            refine wpAnyH_take (i := 15) (oi := { dst := some 28, op := Op.indexAddr 23 (Operand.tmp 24) (Operand.tmp 27), type := 0, pos := _, after := #[{ on := 11, ground := Ground.data }, { on := 14, ground := Ground.data }, { on := 3, ground := Ground.guard }], guard := some (3, true) }) (v := ?_) rfl (by kernel_rfl) (by kernel_rfl) (by kernel_rfl) (fun _ _ _ h => h) (Or.inl ⟨by rfl, ?hy⟩) (by assumption) ?_
            case hy => (intro w hSw; (try dsimp only at hSw); go_simp; try with_reducible rfl)
            try simp only [Act.put, List.setIfInBounds_toArray, List.set_cons_zero, List.set_cons_succ]
            refine wpAnyH_take (i := 16) (oi := { dst := some 29, op := Op.load 3 (Operand.tmp 28), type := 3, pos := _, after := #[{ on := 15, ground := Ground.data }, { on := 3, ground := Ground.guard }], guard := some (3, true) }) (v := ?_) rfl (by kernel_rfl) (by kernel_rfl) (by kernel_rfl) (fun _ _ _ h => h) (Or.inl ⟨by rfl, ?hy⟩) (by assumption) ?_
            case hy => (intro w hSw; (try dsimp only at hSw); go_simp; try with_reducible rfl)
            try simp only [Act.put, List.setIfInBounds_toArray, List.set_cons_zero, List.set_cons_succ]
            refine wpAnyH_take (i := 17) (oi := { dst := some 30, op := Op.move (Operand.tmp 4), type := 3, pos := _, after := #[{ on := 3, ground := Ground.guard }], guard := some (3, true) }) (v := ?_) rfl (by kernel_rfl) (by kernel_rfl) (by kernel_rfl) (fun _ _ _ h => h) (Or.inl ⟨by rfl, ?hy⟩) (by assumption) ?_
            case hy => (intro w hSw; (try dsimp only at hSw); go_simp; try with_reducible rfl)
            try simp only [Act.put, List.setIfInBounds_toArray, List.set_cons_zero, List.set_cons_succ]
            refine wpAnyH_ready (rs := [18]) (by kernel_rfl) (by simp) ?_
            refine AllReadyH.cons (i := 18) (o := { dst := some 31, op := Op.call { callee := Callee.value (Operand.func 37), args := #[Operand.tmp 17, Operand.tmp 23, Operand.tmp 29, Operand.tmp 30], argTypes := #[23, 3, 3, 3] }, type := 4, pos := _, after := #[{ on := 4, ground := Ground.data }, { on := 10, ground := Ground.data }, { on := 16, ground := Ground.data }, { on := 17, ground := Ground.data }, { on := 3, ground := Ground.chain }, { on := 3, ground := Ground.guard }], guard := some (3, true) }) rfl (fun KK hKK => ?_) AllReadyH.nil
            go_simp
            go_at_call 37
            refine (HBD.out _ hHeld.2.2).mono ?_
            rw [HBB.out]
            rintro e w10 ⟨rfl, hg10⟩
            have HG10 := Lib.hid hg10
            clear hg10
            refine hKK.out _ _ (by exact ⟨HG10.out.cell hHeld.1, HG10.out.cell hHeld.2.1, hHeld.2.2.trans HG10.out⟩) (fun hHeld => ?_)
            clear hKK KK
            try simp only [Act.put, List.setIfInBounds_toArray, List.set_cons_zero, List.set_cons_succ]
            refine wpAnyH_take (i := 19) (oi := { dst := some 32, op := Op.unOp UnOp.not 4 (Operand.tmp 31), type := 4, pos := _, after := #[{ on := 18, ground := Ground.data }, { on := 3, ground := Ground.guard }], guard := some (3, true) }) (v := ?_) rfl (by kernel_rfl) (by kernel_rfl) (by kernel_rfl) (fun _ _ _ h => h) (Or.inl ⟨by rfl, ?hy⟩) (by assumption) ?_
            case hy => (intro w hSw; (try dsimp only at hSw); go_simp; try with_reducible rfl)
            try simp only [Act.put, List.setIfInBounds_toArray, List.set_cons_zero, List.set_cons_succ]
            refine wpAnyH_take (i := 20) (oi := { dst := some 33, op := Op.pick (Operand.tmp 16) (Operand.tmp 32) (Operand.const (Value.bool false)), type := 4, pos := _, after := #[{ on := 3, ground := Ground.data }, { on := 19, ground := Ground.data }], guard := none }) (v := ?_) rfl (by kernel_rfl) (by kernel_rfl) (by kernel_rfl) (fun _ _ _ h => h) (Or.inl ⟨by rfl, ?hy⟩) (by assumption) ?_
            case hy => (intro w hSw; (try dsimp only at hSw); go_simp; try with_reducible rfl)
            try simp only [Act.put, List.setIfInBounds_toArray, List.set_cons_zero, List.set_cons_succ]
            refine wpAnyH_done (by kernel_rfl) ?_ _
            refine NoPanic.normal ?_
            have HGN := Lib.hid (HJ.out.2.2.trans hHeld.2.2)
            have HF : Hid (popTo p k r r.length = popTo p k r N ∧ IntsO 3 w.heap.size w10.heap.size w10 (.slice (some ⟨g, 0, none⟩) N tc) ((asInts r).take N)) := by
              refine ⟨?_, ?_⟩
              · rw [HJ.out.1, HAB.out.2.2.1, show N = M + 1 by have := HAB.out.2.2; omega]
                refine popTo_next ?_
                rw [HAB.out.1, show M + 1 = N by have := HAB.out.2.2; omega, HAB.out.2.1]
                exact HBB.out
              · have h := ((HJ.out.2.1.grew hHeld.2.2).wide (Nat.le_refl w.heap.size) hHeld.2.2.size).init N (by have := HLEN.out; omega)
                rwa [List.take_take, Nat.min_eq_left (by omega)] at h
            clear hHeld hcA hcB
            go_wp2
            clear w1 w2 w3 w4
            go_roundg (gk - 1)
            case measure => omega
            case rel => exact ⟨N, _, tc, rfl, by omega, by omega, HF.out.1, HF.out.2, HGN.out⟩
        · have HC : Hid (∃ X : List Int, (asInts r).take m = X ∧ X.length = m ∧ IntsO 3 w.heap.size wr.heap.size wr (.slice ta m tc) X ∧ popTo p k r r.length = m) :=
            ⟨_, rfl, HLEN.out, HJ.out.2.1, by rw [HJ.out.1]; exact popTo_done (.inl (by omega))⟩
          have hd : decide ((1 : Int) < (m : Int)) = false := decide_eq_false (by omega)
          have hm1 : (m : Int) ≤ 1 := by omega
          clear hm hlen
          go_wp2_with (fail)
          refine wp_region_noPanic ?_
          refine wp_region_held_drew (S := fun W => Grew wr W) (by kernel_rfl) (by exact (Grew.refl wr).drew) (fun hHeld => ?_)
          refine wpAnyH_take (i := 0) (oi := { dst := some 13, op := Op.move (Operand.tmp 3), type := 23, pos := _, after := #[], guard := none }) (v := ?_) rfl (by kernel_rfl) (by kernel_rfl) (by kernel_rfl) (fun _ _ _ h => h) (Or.inl ⟨by rfl, ?hy⟩) (by assumption) ?_
          case hy => (intro w hSw; (try dsimp only at hSw); go_simp; try with_reducible rfl)
          try simp only [Act.put, List.setIfInBounds_toArray, List.set_cons_zero, List.set_cons_succ]
          refine wpAnyH_take (i := 1) (oi := { dst := some 14, op := Op.call { callee := Callee.builtin Builtin.len, args := #[Operand.tmp 13], argTypes := #[23] }, type := 3, pos := _, after := #[{ on := 0, ground := Ground.data }], guard := none }) (v := ?_) rfl (by kernel_rfl) (by kernel_rfl) (by kernel_rfl) (fun _ _ _ h => h) (Or.inl ⟨by rfl, ?hy⟩) (by assumption) ?_
          case hy => (intro w hSw; (try dsimp only at hSw); go_simp; try with_reducible rfl)
          try simp only [Act.put, List.setIfInBounds_toArray, List.set_cons_zero, List.set_cons_succ]
          refine wpAnyH_take (i := 2) (oi := { dst := some 15, op := Op.binOp BinOp.gtr 3 (Operand.tmp 14) (Operand.const (Value.int IntKind.i64 1)) 3, type := 4, pos := _, after := #[{ on := 1, ground := Ground.data }], guard := none }) (v := .bool false) rfl (by kernel_rfl) (by kernel_rfl) (by kernel_rfl) (fun _ _ _ h => h) (Or.inl ⟨by rfl, ?hy⟩) (by assumption) ?_
          case hy => (intro w hSw; (try dsimp only at hSw); go_simp <;> (try with_reducible rfl) <;> (try simp [*]))
          try simp only [Act.put, List.setIfInBounds_toArray, List.set_cons_zero, List.set_cons_succ]
          refine wpAnyH_take (i := 3) (oi := { dst := some 16, op := Op.move (Operand.tmp 15), type := 4, pos := _, after := #[{ on := 2, ground := Ground.data }], guard := none }) (v := ?_) rfl (by kernel_rfl) (by kernel_rfl) (by kernel_rfl) (fun _ _ _ h => h) (Or.inl ⟨by rfl, ?hy⟩) (by assumption) ?_
          case hy => (intro w hSw; (try dsimp only at hSw); go_simp; try with_reducible rfl)
          try simp only [Act.put, List.setIfInBounds_toArray, List.set_cons_zero, List.set_cons_succ]
          refine wpAnyH_take (i := 4) (oi := { dst := some 17, op := Op.move (Operand.tmp 0), type := 23, pos := _, after := #[{ on := 3, ground := Ground.guard }], guard := some (3, true) }) (v := undef) rfl (by kernel_rfl) (by kernel_rfl) (by kernel_rfl) (fun _ _ _ h => h) (Or.inr ⟨by rfl, rfl⟩) (by assumption) ?_
          try simp only [Act.put, List.setIfInBounds_toArray, List.set_cons_zero, List.set_cons_succ]
          refine wpAnyH_take (i := 5) (oi := { dst := some 18, op := Op.move (Operand.tmp 3), type := 23, pos := _, after := #[{ on := 3, ground := Ground.guard }], guard := some (3, true) }) (v := undef) rfl (by kernel_rfl) (by kernel_rfl) (by kernel_rfl) (fun _ _ _ h => h) (Or.inr ⟨by rfl, rfl⟩) (by assumption) ?_
          try simp only [Act.put, List.setIfInBounds_toArray, List.set_cons_zero, List.set_cons_succ]
          refine wpAnyH_take (i := 6) (oi := { dst := some 19, op := Op.move (Operand.tmp 3), type := 23, pos := _, after := #[{ on := 3, ground := Ground.guard }], guard := some (3, true) }) (v := undef) rfl (by kernel_rfl) (by kernel_rfl) (by kernel_rfl) (fun _ _ _ h => h) (Or.inr ⟨by rfl, rfl⟩) (by assumption) ?_
          try simp only [Act.put, List.setIfInBounds_toArray, List.set_cons_zero, List.set_cons_succ]
          refine wpAnyH_take (i := 7) (oi := { dst := some 20, op := Op.call { callee := Callee.builtin Builtin.len, args := #[Operand.tmp 19], argTypes := #[23] }, type := 3, pos := _, after := #[{ on := 6, ground := Ground.data }, { on := 3, ground := Ground.guard }], guard := some (3, true) }) (v := undef) rfl (by kernel_rfl) (by kernel_rfl) (by kernel_rfl) (fun _ _ _ h => h) (Or.inr ⟨by rfl, rfl⟩) (by assumption) ?_
          try simp only [Act.put, List.setIfInBounds_toArray, List.set_cons_zero, List.set_cons_succ]
          refine wpAnyH_take (i := 8) (oi := { dst := some 21, op := Op.binOp BinOp.sub 3 (Operand.tmp 20) (Operand.const (Value.int IntKind.i64 2)) 3, type := 3, pos := _, after := #[{ on := 7, ground := Ground.data }, { on := 3, ground := Ground.guard }], guard := some (3, true) }) (v := undef) rfl (by kernel_rfl) (by kernel_rfl) (by kernel_rfl) (fun _ _ _ h => h) (Or.inr ⟨by rfl, rfl⟩) (by assumption) ?_
          try simp only [Act.put, List.setIfInBounds_toArray, List.set_cons_zero, List.set_cons_succ]
          refine wpAnyH_take (i := 9) (oi := { dst := some 22, op := Op.indexAddr 23 (Operand.tmp 18) (Operand.tmp 21), type := 0, pos := _, after := #[{ on := 5, ground := Ground.data }, { on := 8, ground := Ground.data }, { on := 3, ground := Ground.guard }], guard := some (3, true) }) (v := undef) rfl (by kernel_rfl) (by kernel_rfl) (by kernel_rfl) (fun _ _ _ h => h) (Or.inr ⟨by rfl, rfl⟩) (by assumption) ?_
          try simp only [Act.put, List.setIfInBounds_toArray, List.set_cons_zero, List.set_cons_succ]
          refine wpAnyH_take (i := 10) (oi := { dst := some 23, op := Op.load 3 (Operand.tmp 22), type := 3, pos := _, after := #[{ on := 9, ground := Ground.data }, { on := 3, ground := Ground.guard }], guard := some (3, true) }) (v := undef) rfl (by kernel_rfl) (by kernel_rfl) (by kernel_rfl) (fun _ _ _ h => h) (Or.inr ⟨by rfl, rfl⟩) (by assumption) ?_
          try simp only [Act.put, List.setIfInBounds_toArray, List.set_cons_zero, List.set_cons_succ]
          refine wpAnyH_take (i := 11) (oi := { dst := some 24, op := Op.move (Operand.tmp 3), type := 23, pos := _, after := #[{ on := 3, ground := Ground.guard }], guard := some (3, true) }) (v := undef) rfl (by kernel_rfl) (by kernel_rfl) (by kernel_rfl) (fun _ _ _ h => h) (Or.inr ⟨by rfl, rfl⟩) (by assumption) ?_
          try simp only [Act.put, List.setIfInBounds_toArray, List.set_cons_zero, List.set_cons_succ]
          refine wpAnyH_take (i := 12) (oi := { dst := some 25, op := Op.move (Operand.tmp 3), type := 23, pos := _, after := #[{ on := 3, ground := Ground.guard }], guard := some (3, true) }) (v := undef) rfl (by kernel_rfl) (by kernel_rfl) (by kernel_rfl) (fun _ _ _ h => h) (Or.inr ⟨by rfl, rfl⟩) (by assumption) ?_
          try simp only [Act.put, List.setIfInBounds_toArray, List.set_cons_zero, List.set_cons_succ]
          refine wpAnyH_take (i := 13) (oi := { dst := some 26, op := Op.call { callee := Callee.builtin Builtin.len, args := #[Operand.tmp 25], argTypes := #[23] }, type := 3, pos := _, after := #[{ on := 12, ground := Ground.data }, { on := 3, ground := Ground.guard }], guard := some (3, true) }) (v := undef) rfl (by kernel_rfl) (by kernel_rfl) (by kernel_rfl) (fun _ _ _ h => h) (Or.inr ⟨by rfl, rfl⟩) (by assumption) ?_
          try simp only [Act.put, List.setIfInBounds_toArray, List.set_cons_zero, List.set_cons_succ]
          refine wpAnyH_take (i := 14) (oi := { dst := some 27, op := Op.binOp BinOp.sub 3 (Operand.tmp 26) (Operand.const (Value.int IntKind.i64 1)) 3, type := 3, pos := _, after := #[{ on := 13, ground := Ground.data }, { on := 3, ground := Ground.guard }], guard := some (3, true) }) (v := undef) rfl (by kernel_rfl) (by kernel_rfl) (by kernel_rfl) (fun _ _ _ h => h) (Or.inr ⟨by rfl, rfl⟩) (by assumption) ?_
          try simp only [Act.put, List.setIfInBounds_toArray, List.set_cons_zero, List.set_cons_succ]
          refine wpAnyH_take (i := 15) (oi := { dst := some 28, op := Op.indexAddr 23 (Operand.tmp 24) (Operand.tmp 27), type := 0, pos := _, after := #[{ on := 11, ground := Ground.data }, { on := 14, ground := Ground.data }, { on := 3, ground := Ground.guard }], guard := some (3, true) }) (v := undef) rfl (by kernel_rfl) (by kernel_rfl) (by kernel_rfl) (fun _ _ _ h => h) (Or.inr ⟨by rfl, rfl⟩) (by assumption) ?_
          try simp only [Act.put, List.setIfInBounds_toArray, List.set_cons_zero, List.set_cons_succ]
          refine wpAnyH_take (i := 16) (oi := { dst := some 29, op := Op.load 3 (Operand.tmp 28), type := 3, pos := _, after := #[{ on := 15, ground := Ground.data }, { on := 3, ground := Ground.guard }], guard := some (3, true) }) (v := undef) rfl (by kernel_rfl) (by kernel_rfl) (by kernel_rfl) (fun _ _ _ h => h) (Or.inr ⟨by rfl, rfl⟩) (by assumption) ?_
          try simp only [Act.put, List.setIfInBounds_toArray, List.set_cons_zero, List.set_cons_succ]
          refine wpAnyH_take (i := 17) (oi := { dst := some 30, op := Op.move (Operand.tmp 4), type := 3, pos := _, after := #[{ on := 3, ground := Ground.guard }], guard := some (3, true) }) (v := undef) rfl (by kernel_rfl) (by kernel_rfl) (by kernel_rfl) (fun _ _ _ h => h) (Or.inr ⟨by rfl, rfl⟩) (by assumption) ?_
          try simp only [Act.put, List.setIfInBounds_toArray, List.set_cons_zero, List.set_cons_succ]
          refine wpAnyH_take (i := 18) (oi := { dst := some 31, op := Op.call { callee := Callee.value (Operand.func 37), args := #[Operand.tmp 17, Operand.tmp 23, Operand.tmp 29, Operand.tmp 30], argTypes := #[23, 3, 3, 3] }, type := 4, pos := _, after := #[{ on := 4, ground := Ground.data }, { on := 10, ground := Ground.data }, { on := 16, ground := Ground.data }, { on := 17, ground := Ground.data }, { on := 3, ground := Ground.chain }, { on := 3, ground := Ground.guard }], guard := some (3, true) }) (v := undef) rfl (by kernel_rfl) (by kernel_rfl) (by kernel_rfl) (fun _ _ _ h => h) (Or.inr ⟨by rfl, rfl⟩) (by assumption) ?_
          try simp only [Act.put, List.setIfInBounds_toArray, List.set_cons_zero, List.set_cons_succ]
          refine wpAnyH_take (i := 19) (oi := { dst := some 32, op := Op.unOp UnOp.not 4 (Operand.tmp 31), type := 4, pos := _, after := #[{ on := 18, ground := Ground.data }, { on := 3, ground := Ground.guard }], guard := some (3, true) }) (v := undef) rfl (by kernel_rfl) (by kernel_rfl) (by kernel_rfl) (fun _ _ _ h => h) (Or.inr ⟨by rfl, rfl⟩) (by assumption) ?_
          try simp only [Act.put, List.setIfInBounds_toArray, List.set_cons_zero, List.set_cons_succ]
          refine wpAnyH_take (i := 20) (oi := { dst := some 33, op := Op.pick (Operand.tmp 16) (Operand.tmp 32) (Operand.const (Value.bool false)), type := 4, pos := _, after := #[{ on := 3, ground := Ground.data }, { on := 19, ground := Ground.data }], guard := none }) (v := ?_) rfl (by kernel_rfl) (by kernel_rfl) (by kernel_rfl) (fun _ _ _ h => h) (Or.inl ⟨by rfl, ?hy⟩) (by assumption) ?_
          case hy => (intro w hSw; (try dsimp only at hSw); go_simp; try with_reducible rfl)
          try simp only [Act.put, List.setIfInBounds_toArray, List.set_cons_zero, List.set_cons_succ]
          refine wpAnyH_done (by kernel_rfl) ?_ _
          refine NoPanic.normal ?_
          have HGN := Lib.hid (HJ.out.2.2.trans hHeld)
          obtain ⟨w10, hw10⟩ : ∃ w10, wr.drew = w10 := ⟨_, rfl⟩
          have HC' := HC.out
          have HC : Hid (∃ X : List Int, (asInts r).take m = X ∧ X.length = m ∧ IntsO 3 w.heap.size w10.heap.size w10 (.slice ta m tc) X ∧ popTo p k r r.length = m) := by
            obtain ⟨X, q1, q2, q3, q4⟩ := HC'
            refine ⟨X, q1, q2, ?_, q4⟩
            rw [← hw10]; exact q3.grew ((Grew.refl _).drew)
          rw [hw10] at HGN ⊢
          clear hHeld HC' hw10 hd
          obtain ⟨X, hX1, hX2, hX3, hX4⟩ := HC.out
          have HX := Lib.hid (And.intro hX1 (And.intro hX2 hX4))
          have HXO := Lib.hid hX3
          have hXl : X.length + 1 ≤ 17592186044416 := by omega
          have hXk : X.length + 1 ≤ k + 1 := by omega
          have hws : w.heap.size ≤ w10.heap.size := (HI.out.2.2.trans HGN.out).size
          clear hX1 hX2 hX3 hX4 HC
          go_wp2_with (at_builtin; refine wpList_append_int rfl (.tmp 39) (.tmp 41) 23 rfl Try.underlying23 Try.infoE rfl rfl rfl HXO.out hXl hws ?_; intro g5 c5 w5 hO5 hW5 hS5)
          have HF : Hid (IntsO 3 w.heap.size w5.heap.size w5 (.slice (some ⟨g5, 0, none⟩) (X.length + 1) c5) (X ++ [(k : Int)]) ∧ Grew w w5) := ⟨hO5, Within.grew (HI.out.2.2.trans HGN.out) hW5 (Nat.le_refl _)⟩
          clear hO5 hW5 hS5
          go_wp2
          go_roundg (gn - 1)
          case measure => omega
          case rel => exact ⟨k + 1, X.length + 1, _, c5, rfl, by go_num, by omega, by omega, hXk, by
            have hc := roof_close HR.out.1 HX.out.2.2 (by have := HI.out.1; omega)
            rw [hc.1, hc.2, HX.out.1, HX.out.2.1]
            have := HF.out.1
            rw [HX.out.2.1] at this
            exact ⟨rfl, this, HF.out.2⟩⟩
    · obtain rfl : k = p.length := by omega
      have HO := HI.out
      go_wp2
      go_ret
      exact ⟨_, rfl, HI.out.2.1, HI.out.2.2⟩
end Go.Proofs.Ythljmolkicfdaaa
