/- The contracts of spec's of, mutate and DrawReadQuad. -/
import Derived.Test.YtlfoimjohdaofaaDoorSomeG
import Derived.Test.YtlfoimjohdaofaaDoorSQuad
import Derived.Test.YtlfoimjohdaofaaDoorReadM
import Derived.Test.YtlfoimjohdaofaaDoorHeldMono
import Derived.OwnWalk
namespace Go.Proofs.YtlfoimjohdaofaaDoor
open Go.RowKit

/-- The text of a grid is short. -/
theorem qT_small (f : Nat → Nat → Int) (k : Nat) : ∀ t l b r, t ≤ b → l ≤ r → b - t < 6 → r - l < 6 → (b - t) + (r - l) < k → (qT f k t l b r).size + 2 ≤ 5 * wt ((b - t) * (r - l)) := by
  induction k with
  | zero => intro t l b r _ _ _ _ hk; omega
  | succ k ih =>
    intro t l b r htb hlr h6 k6 hk
    have hp := wt_pos ((b - t) * (r - l))
    by_cases h0 : t = b ∨ l = r
    · rw [qT_none h0]
      show 1 + 2 ≤ _
      omega
    · cases he : evenQ f t l b r with
      | true =>
        rw [qT_even h0 he, ByteArray.size_append]
        have := numS_size (f t l).toNat
        show _ + 1 + 2 ≤ _
        omega
      | false =>
        obtain ⟨k0, k1, k2, k3⟩ := quarters_less htb hlr hk he
        have hM := midQ_bd t b htb
        have hK := midQ_bd l r hlr
        have hc := cells_two (t := t) (b := b) (l := l) (r := r) (by omega) (by omega) (evenQ_big f t l b r he)
        have hw := quartL_wts htb hlr h6 k6 hc
        simp only [wts, quartL, List.map_cons, List.map_nil, List.sum_cons, List.sum_nil] at hw
        have q0 := ih t l (midQ t b) (midQ l r) hM.1 hK.1 (by omega) (by omega) k0
        have q1 := ih t (midQ l r) (midQ t b) r hM.1 hK.2 (by omega) (by omega) k1
        have q2 := ih (midQ t b) l b (midQ l r) hM.2 hK.1 (by omega) (by omega) k2
        have q3 := ih (midQ t b) (midQ l r) b r hM.2 hK.2 (by omega) (by omega) k3
        rw [qT_more h0 he]
        simp only [ByteArray.size_append]
        show 1 + _ + _ + _ + _ + 1 + 2 ≤ _
        omega
theorem quadX_small (H : List (List Int)) : (quadX H).size ≤ 400 := by
  unfold quadX
  split
  · rename_i hp
    have G := Grid.of hp
    have h1 := qT_small (cellS H) 11 0 0 H.length (H.getD 0 []).length (Nat.zero_le _) (Nat.zero_le _) (by have := G.n5; omega) (by have := G.m5; omega) (by have := G.n5; have := G.m5; omega)
    have h2 : (H.length - 0) * ((H.getD 0 []).length - 0) ≤ 5 * 5 := Nat.mul_le_mul (by have := G.n5; omega) (by have := G.m5; omega)
    have h3 : wt ((H.length - 0) * ((H.getD 0 []).length - 0)) ≤ 75 := by unfold wt; split <;> omega
    omega
  · exact Nat.zero_le _

set_option maxRecDepth 100000 in
set_option maxHeartbeats 1000000 in
theorem of_any (w0 w : World) (rb p g n c : Nat) (hr : Rdr w0 w rb p) (hp : p ≤ 100000) (hg : rb < g) (h1 : 1 ≤ n) (h2 : n ≤ 1000) (hc : ∀ i, i < n → ∃ t : ByteArray, w.cell? ⟨g, i, none⟩ = some (.string t) ∧ t.size ≤ 2) :
    Calls Tryd.prog 51 #[.pointer (some ⟨rb, 0, none⟩), .slice (some ⟨g, 0, none⟩) n c] w fun e w' => ∃ t : ByteArray, t.size ≤ 2 ∧ e = .returned (.string t) ∧ Rdr w0 w' rb (p + 1) ∧ Within rb (rb + 1) w w' := by
  have HP := Lib.hid (pick_any w0 w rb p n hr hp (by omega))
  have HC := Lib.hid hc
  clear hc hr
  go_enter Tryd.func51, Tryd.ntmps51
  go_wp2_with (fail)
  refine HP.out.mono ?_
  rintro e w' ⟨m, rfl, hm0, hm1, hr', hw⟩
  obtain ⟨m, rfl⟩ := Int.eq_ofNat_of_zero_le hm0
  have hm : m < n := by omega
  obtain ⟨t, hct, hts⟩ := HC.out m hm
  have hct' := hw.cell hct (.inr (by show rb + 1 ≤ g; omega))
  have HE := Lib.hid hts
  have HQ := Lib.hid (And.intro hr' hw)
  clear hr' hw hm1 hct hts
  go_wp2
  go_ret
  exact ⟨t, HE.out, rfl, HQ.out⟩
theorem of_lit (w0 w : World) (rb p n : Nat) (C : Array Value) (T : TypeId) (hr : Rdr w0 w rb p) (hp : p ≤ 100000) (h1 : 1 ≤ n) (h2 : n ≤ 1000) (hC : ∀ i, i < n → ∃ t : ByteArray, C[i]? = some (.string t) ∧ t.size ≤ 2) (W : World) (hW : W = w.alloc (.cells C T) ∨ W = (w.alloc (.cells C T)).drew) :
    Calls Tryd.prog 51 #[.pointer (some ⟨rb, 0, none⟩), .slice (some ⟨w.heap.size, 0, none⟩) n n] W fun e w' => ∃ t : ByteArray, t.size ≤ 2 ∧ e = .returned (.string t) ∧ Rdr w0 w' rb (p + 1) ∧ Within rb (rb + 1) W w' := by
  have hg : Grew w W := by rcases hW with rfl | rfl <;> first | exact (Grew.refl w).alloc _ | exact ((Grew.refl w).alloc _).drew
  have hb : W.heap[w.heap.size]? = some (.cells C T (0, 0)) := by
    rcases hW with rfl | rfl <;> exact heap_alloc_new _ _
  refine of_any w0 W rb p w.heap.size n n (hr.later hg) hp hr.lt h1 h2 fun i hi => ?_
  obtain ⟨t, ht, hs⟩ := hC i hi
  exact ⟨t, (cell_of_block hb i).trans ht, hs⟩
def MutPost (w0 w : World) (rb p : Nat) (s : ByteArray) (e : Ending) (w' : World) : Prop := ∃ (t : ByteArray) (q : Nat), e = .returned (.string t) ∧ t.size ≤ s.size + 2 ∧ Rdr w0 w' rb q ∧ q ≤ p + 3 ∧ Within rb (rb + 1) w w'
set_option maxRecDepth 100000 in
set_option maxHeartbeats 4000000 in
theorem mutate_any (w0 w : World) (rb p : Nat) (s : ByteArray) (hs : s.size ≤ 100000) (hr : Rdr w0 w rb p) (hp : p ≤ 1000) :
    Calls Tryd.prog 29 #[.pointer (some ⟨rb, 0, none⟩), .string s] w (MutPost w0 w rb p s) := by
  have HP := Lib.hid (pick_any w0 w rb p ((s.size : Int) + 1) hr (by omega) (by omega))
  have HS := Lib.hid hs
  have HPP := Lib.hid hp
  have hw1 : IntKind.i64.wrap ((s.size : Int) + 1) = (s.size : Int) + 1 := IntWalk.i64_in _ (by omega)
  unfold MutPost
  clear hr hs hp
  go_enter Tryd.func29, Tryd.ntmps29
  go_wp2_with (fail)
  refine HP.out.mono ?_
  rintro e w1 ⟨k, rfl, hk0, hk1, hr1, hW1⟩
  obtain ⟨k, rfl⟩ := Int.eq_ofNat_of_zero_le hk0
  have hks : k ≤ s.size := by omega
  have HK := Lib.hid hks
  have HR1 := Lib.hid hr1
  have HW1 := Lib.hid hW1
  have HP2 := Lib.hid (pick_any w0 w1 rb (p + 1) 5 hr1 (by have := HPP.out; omega) (by omega))
  clear hk0 hk1 hr1 hW1 hw1 hks
  go_wp2_with (fail)
  refine HP2.out.mono ?_
  rintro e w2 ⟨d, rfl, hd0, hd1, hr2, hW2⟩
  have HR2 := Lib.hid hr2
  have HW2 := Lib.hid (HW1.out.trans hW2)
  have HRB := Lib.hid hr2.lt
  clear hr2 hW2
  obtain ⟨Y, eY⟩ : ∃ Y, s.extract 0 k = Y := ⟨_, rfl⟩
  have hysz : Y.size ≤ k := by rw [← eY, ByteArray.size_extract]; omega
  have hsl : ∀ W : World, (Instr.slice 9 (.string s) none (some (.int .i64 (k : Int))) none).run Tryd.prog W = .ok (.string Y) W := fun W => by
    rw [run_slice_string_to_if W 9 s .i64 (k : Int) Tryd.underlying9, if_pos ⟨by omega, by have := HK.out; omega⟩, ← eY]
    rfl
  have hd : d = 0 ∨ d = 1 ∨ d = 2 ∨ d = 3 ∨ d = 4 := by omega
  have HF : Hid (∀ t : ByteArray, t.size ≤ s.size + 2 → ∃ (t' : ByteArray) (q : Nat), Ending.returned (.string t) = .returned (.string t') ∧ t'.size ≤ s.size + 2 ∧ Rdr w0 w2 rb q ∧ q ≤ p + 3 ∧ Within rb (rb + 1) w w2) := Lib.hid fun t ht => ⟨t, p + 2, rfl, ht, HR2.out, by omega, HW2.out⟩
  clear hd0 hd1 eY HP HP2
  by_cases hd01 : d = 0 ∨ d = 1
  · by_cases hlt : k < s.size
    · obtain ⟨Z, eZ⟩ : ∃ Z, s.extract (k + 1) s.size = Z := ⟨_, rfl⟩
      have hzsz : Z.size ≤ s.size - (k + 1) := by rw [← eZ, ByteArray.size_extract]; omega
      have hsl2 : ∀ W : World, (Instr.slice 9 (.string s) (some (.int .i64 ((k : Int) + 1))) none none).run Tryd.prog W = .ok (.string Z) W := fun W => by
        rw [run_slice_string_from_if W 9 s .i64 ((k : Int) + 1) Tryd.underlying9, if_pos ⟨by omega, by omega⟩, ← eZ]
        rfl
      have hk1 : IntKind.i64.wrap ((k : Int) + 1) = (k : Int) + 1 := IntWalk.i64_in _ (by have := HS.out; omega)
      have HYZ := Lib.hid (And.intro hysz (And.intro hzsz hlt))
      have hki : (k : Int) < s.size := by omega
      clear eZ hysz hzsz hd
      rcases hd01 with rfl | rfl
      all_goals
        go_wp2
        refine wp_region_noPanic ?_
        refine wp_region_held_drew (S := fun W => Within rb (rb + 1) w2 W) (by kernel_rfl) (by exact (Within.refl _ _ _).drew) (fun hHeld => ?_)
        refine wpAnyH_take (i := 0) (oi := { dst := some 20, op := Op.move (Operand.tmp 1), type := 9, pos := _, after := #[], guard := none }) (v := ?_) rfl (by kernel_rfl) (by kernel_rfl) (by kernel_rfl) (fun _ _ _ h => h) (Or.inl ⟨by rfl, ?hy⟩) (by assumption) ?_
        case hy => (intro w hSw; (try dsimp only at hSw); go_simp; try with_reducible rfl)
        try simp only [Act.put, List.setIfInBounds_toArray, List.set_cons_zero, List.set_cons_succ]
        refine wpAnyH_take (i := 1) (oi := { dst := some 21, op := Op.move (Operand.tmp 5), type := 3, pos := _, after := #[], guard := none }) (v := ?_) rfl (by kernel_rfl) (by kernel_rfl) (by kernel_rfl) (fun _ _ _ h => h) (Or.inl ⟨by rfl, ?hy⟩) (by assumption) ?_
        case hy => (intro w hSw; (try dsimp only at hSw); go_simp; try with_reducible rfl)
        try simp only [Act.put, List.setIfInBounds_toArray, List.set_cons_zero, List.set_cons_succ]
        refine wpAnyH_take (i := 2) (oi := { dst := some 22, op := Op.slice 9 (Operand.tmp 20) none (some (Operand.tmp 21)) none, type := 9, pos := _, after := #[{ on := 0, ground := Ground.data }, { on := 1, ground := Ground.data }], guard := none }) (v := ?_) rfl (by kernel_rfl) (by kernel_rfl) (by kernel_rfl) (fun _ _ _ h => h) (Or.inl ⟨by rfl, ?hy⟩) (by assumption) ?_
        case hy => (intro w hSw; (try dsimp only at hSw); go_simp; try with_reducible rfl)
        try simp only [Act.put, List.setIfInBounds_toArray, List.set_cons_zero, List.set_cons_succ]
        refine wpAnyH_take (i := 3) (oi := { dst := some 23, op := Op.move (Operand.tmp 0), type := 37, pos := _, after := #[], guard := none }) (v := ?_) rfl (by kernel_rfl) (by kernel_rfl) (by kernel_rfl) (fun _ _ _ h => h) (Or.inl ⟨by rfl, ?hy⟩) (by assumption) ?_
        case hy => (intro w hSw; (try dsimp only at hSw); go_simp; try with_reducible rfl)
        try simp only [Act.put, List.setIfInBounds_toArray, List.set_cons_zero, List.set_cons_succ]
        refine wpAnyH_take (i := 7) (oi := { dst := some 27, op := Op.move (Operand.tmp 1), type := 9, pos := _, after := #[], guard := none }) (v := ?_) rfl (by kernel_rfl) (by kernel_rfl) (by kernel_rfl) (fun _ _ _ h => h) (Or.inl ⟨by rfl, ?hy⟩) (by assumption) ?_
        case hy => (intro w hSw; (try dsimp only at hSw); go_simp; try with_reducible rfl)
        try simp only [Act.put, List.setIfInBounds_toArray, List.set_cons_zero, List.set_cons_succ]
        refine wpAnyH_take (i := 8) (oi := { dst := some 28, op := Op.move (Operand.tmp 5), type := 3, pos := _, after := #[], guard := none }) (v := ?_) rfl (by kernel_rfl) (by kernel_rfl) (by kernel_rfl) (fun _ _ _ h => h) (Or.inl ⟨by rfl, ?hy⟩) (by assumption) ?_
        case hy => (intro w hSw; (try dsimp only at hSw); go_simp; try with_reducible rfl)
        try simp only [Act.put, List.setIfInBounds_toArray, List.set_cons_zero, List.set_cons_succ]
        refine wpAnyH_take (i := 9) (oi := { dst := some 29, op := Op.binOp BinOp.add 3 (Operand.tmp 28) (Operand.const (Value.int IntKind.i64 1)) 3, type := 3, pos := _, after := #[{ on := 8, ground := Ground.data }], guard := none }) (v := ?_) rfl (by kernel_rfl) (by kernel_rfl) (by kernel_rfl) (fun _ _ _ h => h) (Or.inl ⟨by rfl, ?hy⟩) (by assumption) ?_
        case hy => (intro w hSw; (try dsimp only at hSw); go_simp; try with_reducible rfl)
        try simp only [Act.put, List.setIfInBounds_toArray, List.set_cons_zero, List.set_cons_succ]
        refine wpAnyH_take (i := 10) (oi := { dst := some 30, op := Op.slice 9 (Operand.tmp 27) (some (Operand.tmp 29)) none none, type := 9, pos := _, after := #[{ on := 7, ground := Ground.data }, { on := 9, ground := Ground.data }], guard := none }) (v := ?_) rfl (by kernel_rfl) (by kernel_rfl) (by kernel_rfl) (fun _ _ _ h => h) (Or.inl ⟨by rfl, ?hy⟩) (by assumption) ?_
        case hy => (intro w hSw; (try dsimp only at hSw); go_simp; try with_reducible rfl)
        try simp only [Act.put, List.setIfInBounds_toArray, List.set_cons_zero, List.set_cons_succ]
        refine wpAnyH_ready (rs := [4]) (by kernel_rfl) (by simp) ?_
        refine AllReadyH.cons (i := 4) (o := { dst := some 24, op := Op.buildSlice 88 8 #[(0, Operand.const (Value.string { data := #[49] })), (1, Operand.const (Value.string { data := #[48] })), (2, Operand.const (Value.string { data := #[40] })), (3, Operand.const (Value.string { data := #[47] })), (4, Operand.const (Value.string { data := #[44] })), (5, Operand.const (Value.string { data := #[32] })), (6, Operand.const (Value.string { data := #[59] })), (7, Operand.const (Value.string { data := #[41] }))], type := 88, pos := _, after := #[], guard := none }) rfl (fun KK hKK => ?_) (AllReadyH.nil)
        go_simp
        refine hKK.out _ _ (by exact hHeld.alloc _) (fun hHeld => ?_)
        clear hKK KK
        try simp only [Act.put, List.setIfInBounds_toArray, List.set_cons_zero, List.set_cons_succ]
        refine wpAnyH_ready (rs := [5]) (by kernel_rfl) (by simp) ?_
        refine AllReadyH.cons (i := 5) (o := { dst := some 25, op := Op.call { callee := Callee.value (Operand.func 51), args := #[Operand.tmp 23, Operand.tmp 24], argTypes := #[37, 88] }, type := 9, pos := _, after := #[{ on := 3, ground := Ground.data }, { on := 4, ground := Ground.data }], guard := none }) rfl (fun KK hKK => ?_) (AllReadyH.nil)
        go_simp
        go_at_call 51
        have HOF := Lib.hid (of_lit w0 w2 rb (p + 2) 8 (#[.string ⟨#[49]⟩, .string ⟨#[48]⟩, .string ⟨#[40]⟩, .string ⟨#[47]⟩, .string ⟨#[44]⟩, .string ⟨#[32]⟩, .string ⟨#[59]⟩, .string ⟨#[41]⟩] : Array Value) 9 HR2.out (by have := HPP.out; omega) (by decide) (by decide) (fun i hi => by
          have h8 : i = 0 ∨ i = 1 ∨ i = 2 ∨ i = 3 ∨ i = 4 ∨ i = 5 ∨ i = 6 ∨ i = 7 := by omega
          rcases h8 with rfl | rfl | rfl | rfl | rfl | rfl | rfl | rfl <;> exact ⟨_, rfl, by decide⟩) _ (.inr rfl))
        refine HOF.out.mono ?_
        rintro e5 w5 ⟨t, hts, rfl, hr5, hw5⟩
        have HT := Lib.hid hts
        have HR5 := Lib.hid hr5
        have HW5 := Lib.hid hw5
        have hz1 : ¬ 9223372036854775807 < Y.size + t.size := by have := HYZ.out; have := HS.out; omega
        have hz2 : ¬ 9223372036854775807 < Y.size + t.size + Z.size := by have := HYZ.out; have := HS.out; omega
        clear hts hr5 hw5
        refine hKK.out _ _ (by exact hHeld.trans HW5.out) (fun hHeld => ?_)
        clear hKK KK
        try simp only [Act.put, List.setIfInBounds_toArray, List.set_cons_zero, List.set_cons_succ]
        refine wpAnyH_take (i := 6) (oi := { dst := some 26, op := Op.binOp BinOp.add 9 (Operand.tmp 22) (Operand.tmp 25) 9, type := 9, pos := _, after := #[{ on := 2, ground := Ground.data }, { on := 5, ground := Ground.data }], guard := none }) (v := ?_) rfl (by kernel_rfl) (by kernel_rfl) (by kernel_rfl) (fun _ _ _ h => h) (Or.inl ⟨by rfl, ?hy⟩) (by assumption) ?_
        case hy => (intro w hSw; (try dsimp only at hSw); go_simp; try with_reducible rfl)
        try simp only [Act.put, List.setIfInBounds_toArray, List.set_cons_zero, List.set_cons_succ]
        refine wpAnyH_take (i := 11) (oi := { dst := some 31, op := Op.binOp BinOp.add 9 (Operand.tmp 26) (Operand.tmp 30) 9, type := 9, pos := _, after := #[{ on := 6, ground := Ground.data }, { on := 10, ground := Ground.data }], guard := none }) (v := ?_) rfl (by kernel_rfl) (by kernel_rfl) (by kernel_rfl) (fun _ _ _ h => h) (Or.inl ⟨by rfl, ?hy⟩) (by assumption) ?_
        case hy => (intro w hSw; (try dsimp only at hSw); go_simp; try with_reducible rfl)
        try simp only [Act.put, List.setIfInBounds_toArray, List.set_cons_zero, List.set_cons_succ]
        refine wpAnyH_take (i := 12) (oi := { dst := some 4, op := Op.assign (Operand.tmp 31), type := 9, pos := _, after := #[{ on := 11, ground := Ground.data }, { on := 5, ground := Ground.chain }, { on := 0, ground := Ground.phase }, { on := 1, ground := Ground.phase }, { on := 2, ground := Ground.phase }, { on := 3, ground := Ground.phase }, { on := 4, ground := Ground.phase }, { on := 5, ground := Ground.phase }, { on := 6, ground := Ground.phase }, { on := 7, ground := Ground.phase }, { on := 8, ground := Ground.phase }, { on := 9, ground := Ground.phase }, { on := 10, ground := Ground.phase }, { on := 11, ground := Ground.phase }], guard := none }) (v := ?_) rfl (by kernel_rfl) (by kernel_rfl) (by kernel_rfl) (fun _ _ _ h => h) (Or.inl ⟨by rfl, ?hy⟩) (by assumption) ?_
        case hy => (intro w hSw; (try dsimp only at hSw); go_simp; try with_reducible rfl)
        try simp only [Act.put, List.setIfInBounds_toArray, List.set_cons_zero, List.set_cons_succ]
        refine wpAnyH_done (by kernel_rfl) ?_ _
        refine NoPanic.normal ?_
        go_wp2
        go_ret
        exact ⟨_, p + 3, rfl, by rw [ByteArray.size_append, ByteArray.size_append]; have := HYZ.out; have := HT.out; omega, HR5.out, Nat.le_refl _, HW2.out.trans hHeld⟩
    · have hki : ¬ (k : Int) < s.size := by omega
      clear hd
      rcases hd01 with rfl | rfl
      all_goals
        go_wp2
        go_ret
        exact HF.out s (by omega)
  · by_cases hd2 : d = 2
    · subst hd2
      clear hd hd01
      go_wp2
      go_ret
      exact HF.out Y (by have := HK.out; omega)
    · by_cases hd3 : d = 3
      · subst hd3
        clear hd hd01 hd2
        have HOF := Lib.hid (of_lit w0 w2 rb (p + 2) 4 (#[.string ⟨#[49]⟩, .string ⟨#[44, 50]⟩, .string ⟨#[32]⟩, .string ⟨#[59]⟩] : Array Value) 9 HR2.out (by have := HPP.out; omega) (by decide) (by decide) (fun i hi => by
          have h8 : i = 0 ∨ i = 1 ∨ i = 2 ∨ i = 3 := by omega
          rcases h8 with rfl | rfl | rfl | rfl <;> exact ⟨_, rfl, by decide⟩) _ (.inl rfl))
        go_wp2_with (fail)
        refine HOF.out.mono ?_
        rintro e5 w5 ⟨t, hts, rfl, hr5, hw5⟩
        have HT := Lib.hid hts
        have HR5 := Lib.hid hr5
        have HW5 := Lib.hid (HW2.out.trans (((Grew.refl w2).alloc _).within _ _ |>.trans hw5))
        have hz1 : ¬ 9223372036854775807 < s.size + t.size := by have := HS.out; omega
        clear hts hr5 hw5 hsl hysz
        go_wp2
        go_ret
        exact ⟨_, p + 3, rfl, by rw [ByteArray.size_append]; have := HT.out; omega, HR5.out, Nat.le_refl _, HW5.out⟩
      · obtain rfl : d = 4 := by omega
        clear hd hd01 hd2 hd3
        go_wp2
        go_ret
        exact HF.out s (by omega)
/-- A text, a number of rows and one of columns that are drawn. -/
def DrawnText (w : World) (e : Ending) (w' : World) : Prop := ∃ (t : ByteArray) (r c : Int), e = .returned (.tuple #[.string t, .int .i64 r, .int .i64 c]) ∧ t.size ≤ 500 ∧ (0 ≤ r ∧ r ≤ 6) ∧ (0 ≤ c ∧ c ≤ 6) ∧ Grew w w'
set_option maxRecDepth 100000 in
set_option maxHeartbeats 4000000 in
theorem DrawReadQuad_any (v : Value) (bs : List Int) (w : World) (hv : NumsV .u8 w v bs) (hb : ∀ i, i < bs.length → 0 ≤ bs.getD i 0 ∧ bs.getD i 0 ≤ 255) :
    Calls Tryd.prog 12 #[v] w (DrawnText w) := by
  have HN := Lib.hid (newReader_any v bs w hv hb)
  unfold DrawnText
  clear hv hb
  go_enter Tryd.func12, Tryd.ntmps12
  go_wp2_with (fail)
  refine HN.out.mono ?_
  rintro e w1 ⟨rfl, hr⟩
  have HR := Lib.hid hr
  clear hr HN
  go_wp2_with (fail)
  refine (goodGrid_any w w1 w.heap.size 0 HR.out (by omega)).mono ?_
  rintro e w2 ⟨v2, H, n, m, q2, rfl, hO2, ⟨hn1, hn5, hm1, hm5, hl, hok⟩, hr2, hq2, hW2⟩
  have HLN : Hid (H.length = n) := Lib.hid hl
  have HNM := Lib.hid (And.intro (And.intro hn1 hn5) (And.intro hm1 hm5))
  obtain ⟨g, c2, e2, hgl, hgh, -, -⟩ := hO2.pos (by omega)
  rw [hl] at e2
  subst e2
  obtain ⟨u, hcu, hU⟩ := hO2.at rfl (i := 0) (by omega)
  obtain ⟨au, cu, rfl⟩ : ∃ a c, u = .slice a m c := by
    have h0 := (hok 0 (by omega)).1
    obtain ⟨a, c, e⟩ := hU.pos (by rw [h0]; exact hm1)
    rw [h0] at e
    exact ⟨_, _, e.1⟩
  have HGB : Hid (w.heap.size + 1 ≤ g) := Lib.hid (by have := HR.out.lt; omega)
  have HR2 := Lib.hid hr2
  have HQ2 := Lib.hid hq2
  have HG2 : Hid (Grew w w2) := Lib.hid (Within.grew HR.out.grew hW2 (Nat.le_refl _))
  have HSQ := Lib.hid (SQuadOf_any _ H w2 hO2.toV)
  unfold TextPost at HSQ
  obtain ⟨s, es⟩ : ∃ s, quadX H = s := ⟨_, rfl⟩
  have HSZ : Hid (s.size ≤ 400) := Lib.hid (by rw [← es]; exact quadX_small H)
  rw [es] at HSQ
  have HC2 := Lib.hid hcu
  clear hO2 hn1 hn5 hm1 hm5 hl hok hr2 hq2 hW2 hcu hU hgl hgh es
  go_wp2_with (fail)
  refine HSQ.out.mono ?_
  rintro e w3 ⟨rfl, hg3⟩
  have HR3 := Lib.hid (HR2.out.later hg3)
  have HC3 := Lib.hid (hg3.cell HC2.out)
  have HG3 := Lib.hid (HG2.out.trans hg3)
  have HP3 := Lib.hid (pick_any w w3 w.heap.size q2 4 HR3.out (by have := HQ2.out; omega) (by omega))
  clear hg3 HSQ HG2 HC2 HR2
  go_wp2_with (fail)
  refine HP3.out.mono ?_
  rintro e w4 ⟨d, rfl, -, -, hr4, hW4⟩
  have HR4 := Lib.hid hr4
  have HC4 := Lib.hid (hW4.cell HC3.out (.inr HGB.out))
  have HG4 := Lib.hid (Within.grew HG3.out hW4 (Nat.le_refl _))
  clear hr4 hW4 HR3 HC3 HG3 HP3
  by_cases hd : d = 0
  · subst hd
    go_wp2_with (fail)
    refine (mutate_any w w4 w.heap.size (q2 + 1) s (by have := HSZ.out; omega) HR4.out (by have := HQ2.out; omega)).mono ?_
    rintro e w5 ⟨t, q, rfl, hts, hr5, hq5, hW5⟩
    have HTS : Hid (t.size ≤ 402) := Lib.hid (by have := HSZ.out; omega)
    have HR5 := Lib.hid hr5
    have HQ5 : Hid (q ≤ 300) := Lib.hid (by have := HQ2.out; omega)
    have HC5 := Lib.hid (hW5.cell HC4.out (.inr HGB.out))
    have HG5 := Lib.hid (Within.grew HG4.out hW5 (Nat.le_refl _))
    clear hts hr5 hq5 hW5
    have HP6 := Lib.hid (pick_any w w5 w.heap.size q 16 HR5.out (by have := HQ5.out; omega) (by omega))
    go_wp2_with (fail)
    refine HP6.out.mono ?_
    rintro e w6 ⟨d2, rfl, -, -, hr6, hW6⟩
    have HR6 := Lib.hid hr6
    have HC6 := Lib.hid (hW6.cell HC5.out (.inr HGB.out))
    have HG6 := Lib.hid (Within.grew HG5.out hW6 (Nat.le_refl _))
    clear hr6 hW6 HP6
    have hn0 : (0 : Int) < n := by have := HNM.out; omega
    have hn1 : 0 < n := by have := HNM.out; omega
    by_cases hd2 : d2 = 0
    · subst hd2
      have HX6 : Hid (IntsO 3 (w.heap.size + 1) (w6.drew.heap.size + 1) (w6.drew.alloc (.cells #[.int .i64 0, .int .i64 6, .int .i64 2] 3)) (.slice (some ⟨w6.heap.size, 0, none⟩) 3 3) [0, 6, 2]) := Lib.hid (IntsO.lit 3 (w.heap.size + 1) w6.drew [0, 6, 2] #[.int .i64 0, .int .i64 6, .int .i64 2] rfl (by have := HR6.out.lt; simp; omega) (by decide))
      have hc6 := (Grew.refl w6).drew.cell HC6.out
      go_wp2
      refine wp_region_noPanic ?_
      refine wp_region_held_drew (S := fun W => W.cell? ⟨g, 0, none⟩ = some (.slice au m cu) ∧ Within w.heap.size (w.heap.size + 1) w6 W) (by kernel_rfl) (by exact ⟨hc6, (Within.refl _ _ _).drew⟩) (fun hHeld => ?_)
      refine wpAnyH_take (i := 0) (oi := { dst := some 23, op := Op.move (Operand.tmp 7), type := 9, pos := _, after := #[], guard := none }) (v := ?_) rfl (by kernel_rfl) (by kernel_rfl) (by kernel_rfl) (fun _ _ _ h => h) (Or.inl ⟨by rfl, ?hy⟩) (by assumption) ?_
      case hy => (intro w hSw; (try dsimp only at hSw); go_simp; try with_reducible rfl)
      try simp only [Act.put, List.setIfInBounds_toArray, List.set_cons_zero, List.set_cons_succ]
      refine wpAnyH_take (i := 1) (oi := { dst := some 24, op := Op.move (Operand.tmp 5), type := 37, pos := _, after := #[], guard := none }) (v := ?_) rfl (by kernel_rfl) (by kernel_rfl) (by kernel_rfl) (fun _ _ _ h => h) (Or.inl ⟨by rfl, ?hy⟩) (by assumption) ?_
      case hy => (intro w hSw; (try dsimp only at hSw); go_simp; try with_reducible rfl)
      try simp only [Act.put, List.setIfInBounds_toArray, List.set_cons_zero, List.set_cons_succ]
      refine wpAnyH_take (i := 4) (oi := { dst := some 27, op := Op.move (Operand.tmp 6), type := 23, pos := _, after := #[], guard := none }) (v := ?_) rfl (by kernel_rfl) (by kernel_rfl) (by kernel_rfl) (fun _ _ _ h => h) (Or.inl ⟨by rfl, ?hy⟩) (by assumption) ?_
      case hy => (intro w hSw; (try dsimp only at hSw); go_simp; try with_reducible rfl)
      try simp only [Act.put, List.setIfInBounds_toArray, List.set_cons_zero, List.set_cons_succ]
      refine wpAnyH_take (i := 5) (oi := { dst := some 28, op := Op.indexAddr 23 (Operand.tmp 27) (Operand.const (Value.int IntKind.i64 0)), type := 0, pos := _, after := #[{ on := 4, ground := Ground.data }], guard := none }) (v := ?_) rfl (by kernel_rfl) (by kernel_rfl) (by kernel_rfl) (fun _ _ _ h => h) (Or.inl ⟨by rfl, ?hy⟩) (by assumption) ?_
      case hy => (intro w hSw; (try dsimp only at hSw); go_simp; try with_reducible rfl)
      try simp only [Act.put, List.setIfInBounds_toArray, List.set_cons_zero, List.set_cons_succ]
      refine wpAnyH_take (i := 6) (oi := { dst := some 29, op := Op.load 28 (Operand.tmp 28), type := 28, pos := _, after := #[{ on := 5, ground := Ground.data }], guard := none }) (v := ?_) rfl (by kernel_rfl) (by kernel_rfl) (by kernel_rfl) (fun _ _ _ h => h) (Or.inl ⟨by rfl, ?hy⟩) (by assumption) ?_
      case hy => (intro w hSw; (try dsimp only at hSw); go_simp; try with_reducible rfl)
      try simp only [Act.put, List.setIfInBounds_toArray, List.set_cons_zero, List.set_cons_succ]
      refine wpAnyH_take (i := 7) (oi := { dst := some 30, op := Op.call { callee := Callee.builtin Builtin.len, args := #[Operand.tmp 29], argTypes := #[28] }, type := 3, pos := _, after := #[{ on := 6, ground := Ground.data }], guard := none }) (v := ?_) rfl (by kernel_rfl) (by kernel_rfl) (by kernel_rfl) (fun _ _ _ h => h) (Or.inl ⟨by rfl, ?hy⟩) (by assumption) ?_
      case hy => (intro w hSw; (try dsimp only at hSw); go_simp; try with_reducible rfl)
      try simp only [Act.put, List.setIfInBounds_toArray, List.set_cons_zero, List.set_cons_succ]
      refine wpAnyH_ready (rs := [2]) (by kernel_rfl) (by simp) ?_
      refine AllReadyH.cons (i := 2) (o := { dst := some 25, op := Op.buildSlice 28 3 #[(0, Operand.const (Value.int IntKind.i64 0)), (1, Operand.const (Value.int IntKind.i64 6)), (2, Operand.const (Value.int IntKind.i64 2))], type := 28, pos := _, after := #[], guard := none }) rfl (fun KK hKK => ?_) (AllReadyH.nil)
      go_simp
      refine hKK.out _ _ (by exact ⟨((Grew.refl _).alloc _).cell hHeld.1, hHeld.2.alloc _⟩) (fun hHeld => ?_)
      clear hKK KK
      try simp only [Act.put, List.setIfInBounds_toArray, List.set_cons_zero, List.set_cons_succ]
      refine wpAnyH_ready (rs := [3]) (by kernel_rfl) (by simp) ?_
      refine AllReadyH.cons (i := 3) (o := { dst := some 26, op := Op.call { callee := Callee.value (Operand.func 30), args := #[Operand.tmp 24, Operand.tmp 25], argTypes := #[37, 28] }, type := 3, pos := _, after := #[{ on := 1, ground := Ground.data }, { on := 2, ground := Ground.data }], guard := none }) rfl (fun KK hKK => ?_) (AllReadyH.nil)
      go_simp
      go_at_call 30
      refine (one_any w _ w.heap.size (q + 1) (w6.heap.size + 1) _ [0, 6, 2] (HR6.out.later ((Grew.refl w6).alloc _).drew) (by have := HQ5.out; omega) (HX6.out.grew (Grew.refl _)) (by decide) (by decide)).mono ?_
      rintro e7 w7 ⟨x, hx, rfl, hr7, hW7⟩
      have HX7 : Hid (0 ≤ x ∧ x ≤ 6) := Lib.hid (by simp at hx; omega)
      have HW7 := Lib.hid hW7
      clear hx hr7 hW7
      refine hKK.out _ _ (by exact ⟨HW7.out.cell hHeld.1 (.inr HGB.out), hHeld.2.trans HW7.out⟩) (fun hHeld => ?_)
      clear hKK KK
      try simp only [Act.put, List.setIfInBounds_toArray, List.set_cons_zero, List.set_cons_succ]
      refine wpAnyH_take (i := 8) (oi := { dst := some 2, op := Op.assign (Operand.tmp 23), type := 9, pos := _, after := #[{ on := 0, ground := Ground.data }, { on := 3, ground := Ground.chain }, { on := 0, ground := Ground.phase }, { on := 1, ground := Ground.textOnly Departure.lateStores }, { on := 2, ground := Ground.textOnly Departure.lateStores }, { on := 3, ground := Ground.textOnly Departure.lateStoresUnsure }, { on := 4, ground := Ground.textOnly Departure.lateStores }, { on := 5, ground := Ground.textOnly Departure.lateStores }, { on := 6, ground := Ground.textOnly Departure.lateStores }, { on := 7, ground := Ground.textOnly Departure.lateStoresUnsure }], guard := none }) (v := ?_) rfl (by kernel_rfl) (by kernel_rfl) (by kernel_rfl) (fun _ _ _ h => h) (Or.inl ⟨by rfl, ?hy⟩) (by assumption) ?_
      case hy => (intro w hSw; (try dsimp only at hSw); go_simp; try with_reducible rfl)
      try simp only [Act.put, List.setIfInBounds_toArray, List.set_cons_zero, List.set_cons_succ]
      refine wpAnyH_take (i := 9) (oi := { dst := some 3, op := Op.assign (Operand.tmp 26), type := 3, pos := _, after := #[{ on := 3, ground := Ground.data }, { on := 8, ground := Ground.chain }, { on := 0, ground := Ground.phase }, { on := 1, ground := Ground.phase }, { on := 2, ground := Ground.phase }, { on := 3, ground := Ground.phase }, { on := 4, ground := Ground.textOnly Departure.lateStores }, { on := 5, ground := Ground.textOnly Departure.lateStores }, { on := 6, ground := Ground.textOnly Departure.lateStores }, { on := 7, ground := Ground.textOnly Departure.lateStoresUnsure }, { on := 8, ground := Ground.phase }], guard := none }) (v := ?_) rfl (by kernel_rfl) (by kernel_rfl) (by kernel_rfl) (fun _ _ _ h => h) (Or.inl ⟨by rfl, ?hy⟩) (by assumption) ?_
      case hy => (intro w hSw; (try dsimp only at hSw); go_simp; try with_reducible rfl)
      try simp only [Act.put, List.setIfInBounds_toArray, List.set_cons_zero, List.set_cons_succ]
      refine wpAnyH_take (i := 10) (oi := { dst := some 4, op := Op.assign (Operand.tmp 30), type := 3, pos := _, after := #[{ on := 7, ground := Ground.data }, { on := 9, ground := Ground.chain }, { on := 0, ground := Ground.phase }, { on := 1, ground := Ground.phase }, { on := 2, ground := Ground.phase }, { on := 3, ground := Ground.phase }, { on := 4, ground := Ground.phase }, { on := 5, ground := Ground.phase }, { on := 6, ground := Ground.phase }, { on := 7, ground := Ground.phase }, { on := 8, ground := Ground.phase }, { on := 9, ground := Ground.phase }], guard := none }) (v := ?_) rfl (by kernel_rfl) (by kernel_rfl) (by kernel_rfl) (fun _ _ _ h => h) (Or.inl ⟨by rfl, ?hy⟩) (by assumption) ?_
      case hy => (intro w hSw; (try dsimp only at hSw); go_simp; try with_reducible rfl)
      try simp only [Act.put, List.setIfInBounds_toArray, List.set_cons_zero, List.set_cons_succ]
      refine wpAnyH_done (by kernel_rfl) ?_ _
      refine NoPanic.normal ?_
      have HF : Hid (t.size ≤ 500 ∧ (0 ≤ x ∧ x ≤ 6) ∧ (0 ≤ (m : Int) ∧ (m : Int) ≤ 6) ∧ Grew w w7) := Lib.hid ⟨by have := HTS.out; omega, HX7.out, by have := HNM.out; omega, Within.grew HG6.out hHeld.2 (Nat.le_refl _)⟩
      clear hHeld
      go_wp2
      go_ret3
      exact ⟨t, _, _, rfl, HF.out⟩
    · have hdb2 : (d2 == 0) = false := by simp [hd2]
      have hc6 := HC6.out
      have HF : Hid (∀ k, (t.size ≤ 500 ∧ (0 ≤ (n : Int) ∧ (n : Int) ≤ 6) ∧ (0 ≤ (m : Int) ∧ (m : Int) ≤ 6) ∧ Grew w (w6.drewN k))) := Lib.hid fun k => ⟨by have := HTS.out; omega, by have := HNM.out; omega, by have := HNM.out; omega, HG6.out.drewN k⟩
      clear hd2
      go_wp2
      go_quiet (fail)
      go_wp2
      go_ret3
      exact ⟨t, _, _, rfl, HF.out _⟩
  · have hdb : (d == 0) = false := by simp [hd]
    obtain ⟨t, et⟩ : ∃ t, t = s := ⟨_, rfl⟩
    obtain ⟨w5, ew5⟩ : ∃ z, z = w4 := ⟨_, rfl⟩
    obtain ⟨q, eq5⟩ : ∃ q, q = q2 + 1 := ⟨_, rfl⟩
    have HTS : Hid (t.size ≤ 402) := Lib.hid (by have := HSZ.out; rw [et]; omega)
    have HR5 : Hid (Rdr w w5 w.heap.size q) := Lib.hid (by rw [ew5, eq5]; exact HR4.out)
    have HQ5 : Hid (q ≤ 300) := Lib.hid (by have := HQ2.out; omega)
    have HC5 : Hid (w5.cell? ⟨g, 0, none⟩ = some (.slice au m cu)) := Lib.hid (by rw [ew5]; exact HC4.out)
    have HG5 : Hid (Grew w w5) := Lib.hid (by rw [ew5]; exact HG4.out)
    rw [← et, ← ew5]
    clear et ew5 eq5
    have HP6 := Lib.hid (pick_any w w5 w.heap.size q 16 HR5.out (by have := HQ5.out; omega) (by omega))
    go_wp2_with (fail)
    refine HP6.out.mono ?_
    rintro e w6 ⟨d2, rfl, -, -, hr6, hW6⟩
    have HR6 := Lib.hid hr6
    have HC6 := Lib.hid (hW6.cell HC5.out (.inr HGB.out))
    have HG6 := Lib.hid (Within.grew HG5.out hW6 (Nat.le_refl _))
    clear hr6 hW6 HP6
    have hn0 : (0 : Int) < n := by have := HNM.out; omega
    have hn1 : 0 < n := by have := HNM.out; omega
    by_cases hd2 : d2 = 0
    · subst hd2
      have HX6 : Hid (IntsO 3 (w.heap.size + 1) (w6.drew.heap.size + 1) (w6.drew.alloc (.cells #[.int .i64 0, .int .i64 6, .int .i64 2] 3)) (.slice (some ⟨w6.heap.size, 0, none⟩) 3 3) [0, 6, 2]) := Lib.hid (IntsO.lit 3 (w.heap.size + 1) w6.drew [0, 6, 2] #[.int .i64 0, .int .i64 6, .int .i64 2] rfl (by have := HR6.out.lt; simp; omega) (by decide))
      have hc6 := (Grew.refl w6).drew.cell HC6.out
      go_wp2
      refine wp_region_noPanic ?_
      refine wp_region_held_drew (S := fun W => W.cell? ⟨g, 0, none⟩ = some (.slice au m cu) ∧ Within w.heap.size (w.heap.size + 1) w6 W) (by kernel_rfl) (by exact ⟨hc6, (Within.refl _ _ _).drew⟩) (fun hHeld => ?_)
      refine wpAnyH_take (i := 0) (oi := { dst := some 23, op := Op.move (Operand.tmp 7), type := 9, pos := _, after := #[], guard := none }) (v := ?_) rfl (by kernel_rfl) (by kernel_rfl) (by kernel_rfl) (fun _ _ _ h => h) (Or.inl ⟨by rfl, ?hy⟩) (by assumption) ?_
      case hy => (intro w hSw; (try dsimp only at hSw); go_simp; try with_reducible rfl)
      try simp only [Act.put, List.setIfInBounds_toArray, List.set_cons_zero, List.set_cons_succ]
      refine wpAnyH_take (i := 1) (oi := { dst := some 24, op := Op.move (Operand.tmp 5), type := 37, pos := _, after := #[], guard := none }) (v := ?_) rfl (by kernel_rfl) (by kernel_rfl) (by kernel_rfl) (fun _ _ _ h => h) (Or.inl ⟨by rfl, ?hy⟩) (by assumption) ?_
      case hy => (intro w hSw; (try dsimp only at hSw); go_simp; try with_reducible rfl)
      try simp only [Act.put, List.setIfInBounds_toArray, List.set_cons_zero, List.set_cons_succ]
      refine wpAnyH_take (i := 4) (oi := { dst := some 27, op := Op.move (Operand.tmp 6), type := 23, pos := _, after := #[], guard := none }) (v := ?_) rfl (by kernel_rfl) (by kernel_rfl) (by kernel_rfl) (fun _ _ _ h => h) (Or.inl ⟨by rfl, ?hy⟩) (by assumption) ?_
      case hy => (intro w hSw; (try dsimp only at hSw); go_simp; try with_reducible rfl)
      try simp only [Act.put, List.setIfInBounds_toArray, List.set_cons_zero, List.set_cons_succ]
      refine wpAnyH_take (i := 5) (oi := { dst := some 28, op := Op.indexAddr 23 (Operand.tmp 27) (Operand.const (Value.int IntKind.i64 0)), type := 0, pos := _, after := #[{ on := 4, ground := Ground.data }], guard := none }) (v := ?_) rfl (by kernel_rfl) (by kernel_rfl) (by kernel_rfl) (fun _ _ _ h => h) (Or.inl ⟨by rfl, ?hy⟩) (by assumption) ?_
      case hy => (intro w hSw; (try dsimp only at hSw); go_simp; try with_reducible rfl)
      try simp only [Act.put, List.setIfInBounds_toArray, List.set_cons_zero, List.set_cons_succ]
      refine wpAnyH_take (i := 6) (oi := { dst := some 29, op := Op.load 28 (Operand.tmp 28), type := 28, pos := _, after := #[{ on := 5, ground := Ground.data }], guard := none }) (v := ?_) rfl (by kernel_rfl) (by kernel_rfl) (by kernel_rfl) (fun _ _ _ h => h) (Or.inl ⟨by rfl, ?hy⟩) (by assumption) ?_
      case hy => (intro w hSw; (try dsimp only at hSw); go_simp; try with_reducible rfl)
      try simp only [Act.put, List.setIfInBounds_toArray, List.set_cons_zero, List.set_cons_succ]
      refine wpAnyH_take (i := 7) (oi := { dst := some 30, op := Op.call { callee := Callee.builtin Builtin.len, args := #[Operand.tmp 29], argTypes := #[28] }, type := 3, pos := _, after := #[{ on := 6, ground := Ground.data }], guard := none }) (v := ?_) rfl (by kernel_rfl) (by kernel_rfl) (by kernel_rfl) (fun _ _ _ h => h) (Or.inl ⟨by rfl, ?hy⟩) (by assumption) ?_
      case hy => (intro w hSw; (try dsimp only at hSw); go_simp; try with_reducible rfl)
      try simp only [Act.put, List.setIfInBounds_toArray, List.set_cons_zero, List.set_cons_succ]
      refine wpAnyH_ready (rs := [2]) (by kernel_rfl) (by simp) ?_
      refine AllReadyH.cons (i := 2) (o := { dst := some 25, op := Op.buildSlice 28 3 #[(0, Operand.const (Value.int IntKind.i64 0)), (1, Operand.const (Value.int IntKind.i64 6)), (2, Operand.const (Value.int IntKind.i64 2))], type := 28, pos := _, after := #[], guard := none }) rfl (fun KK hKK => ?_) (AllReadyH.nil)
      go_simp
      refine hKK.out _ _ (by exact ⟨((Grew.refl _).alloc _).cell hHeld.1, hHeld.2.alloc _⟩) (fun hHeld => ?_)
      clear hKK KK
      try simp only [Act.put, List.setIfInBounds_toArray, List.set_cons_zero, List.set_cons_succ]
      refine wpAnyH_ready (rs := [3]) (by kernel_rfl) (by simp) ?_
      refine AllReadyH.cons (i := 3) (o := { dst := some 26, op := Op.call { callee := Callee.value (Operand.func 30), args := #[Operand.tmp 24, Operand.tmp 25], argTypes := #[37, 28] }, type := 3, pos := _, after := #[{ on := 1, ground := Ground.data }, { on := 2, ground := Ground.data }], guard := none }) rfl (fun KK hKK => ?_) (AllReadyH.nil)
      go_simp
      go_at_call 30
      refine (one_any w _ w.heap.size (q + 1) (w6.heap.size + 1) _ [0, 6, 2] (HR6.out.later ((Grew.refl w6).alloc _).drew) (by have := HQ5.out; omega) (HX6.out.grew (Grew.refl _)) (by decide) (by decide)).mono ?_
      rintro e7 w7 ⟨x, hx, rfl, hr7, hW7⟩
      have HX7 : Hid (0 ≤ x ∧ x ≤ 6) := Lib.hid (by simp at hx; omega)
      have HW7 := Lib.hid hW7
      clear hx hr7 hW7
      refine hKK.out _ _ (by exact ⟨HW7.out.cell hHeld.1 (.inr HGB.out), hHeld.2.trans HW7.out⟩) (fun hHeld => ?_)
      clear hKK KK
      try simp only [Act.put, List.setIfInBounds_toArray, List.set_cons_zero, List.set_cons_succ]
      refine wpAnyH_take (i := 8) (oi := { dst := some 2, op := Op.assign (Operand.tmp 23), type := 9, pos := _, after := #[{ on := 0, ground := Ground.data }, { on := 3, ground := Ground.chain }, { on := 0, ground := Ground.phase }, { on := 1, ground := Ground.textOnly Departure.lateStores }, { on := 2, ground := Ground.textOnly Departure.lateStores }, { on := 3, ground := Ground.textOnly Departure.lateStoresUnsure }, { on := 4, ground := Ground.textOnly Departure.lateStores }, { on := 5, ground := Ground.textOnly Departure.lateStores }, { on := 6, ground := Ground.textOnly Departure.lateStores }, { on := 7, ground := Ground.textOnly Departure.lateStoresUnsure }], guard := none }) (v := ?_) rfl (by kernel_rfl) (by kernel_rfl) (by kernel_rfl) (fun _ _ _ h => h) (Or.inl ⟨by rfl, ?hy⟩) (by assumption) ?_
      case hy => (intro w hSw; (try dsimp only at hSw); go_simp; try with_reducible rfl)
      try simp only [Act.put, List.setIfInBounds_toArray, List.set_cons_zero, List.set_cons_succ]
      refine wpAnyH_take (i := 9) (oi := { dst := some 3, op := Op.assign (Operand.tmp 26), type := 3, pos := _, after := #[{ on := 3, ground := Ground.data }, { on := 8, ground := Ground.chain }, { on := 0, ground := Ground.phase }, { on := 1, ground := Ground.phase }, { on := 2, ground := Ground.phase }, { on := 3, ground := Ground.phase }, { on := 4, ground := Ground.textOnly Departure.lateStores }, { on := 5, ground := Ground.textOnly Departure.lateStores }, { on := 6, ground := Ground.textOnly Departure.lateStores }, { on := 7, ground := Ground.textOnly Departure.lateStoresUnsure }, { on := 8, ground := Ground.phase }], guard := none }) (v := ?_) rfl (by kernel_rfl) (by kernel_rfl) (by kernel_rfl) (fun _ _ _ h => h) (Or.inl ⟨by rfl, ?hy⟩) (by assumption) ?_
      case hy => (intro w hSw; (try dsimp only at hSw); go_simp; try with_reducible rfl)
      try simp only [Act.put, List.setIfInBounds_toArray, List.set_cons_zero, List.set_cons_succ]
      refine wpAnyH_take (i := 10) (oi := { dst := some 4, op := Op.assign (Operand.tmp 30), type := 3, pos := _, after := #[{ on := 7, ground := Ground.data }, { on := 9, ground := Ground.chain }, { on := 0, ground := Ground.phase }, { on := 1, ground := Ground.phase }, { on := 2, ground := Ground.phase }, { on := 3, ground := Ground.phase }, { on := 4, ground := Ground.phase }, { on := 5, ground := Ground.phase }, { on := 6, ground := Ground.phase }, { on := 7, ground := Ground.phase }, { on := 8, ground := Ground.phase }, { on := 9, ground := Ground.phase }], guard := none }) (v := ?_) rfl (by kernel_rfl) (by kernel_rfl) (by kernel_rfl) (fun _ _ _ h => h) (Or.inl ⟨by rfl, ?hy⟩) (by assumption) ?_
      case hy => (intro w hSw; (try dsimp only at hSw); go_simp; try with_reducible rfl)
      try simp only [Act.put, List.setIfInBounds_toArray, List.set_cons_zero, List.set_cons_succ]
      refine wpAnyH_done (by kernel_rfl) ?_ _
      refine NoPanic.normal ?_
      have HF : Hid (t.size ≤ 500 ∧ (0 ≤ x ∧ x ≤ 6) ∧ (0 ≤ (m : Int) ∧ (m : Int) ≤ 6) ∧ Grew w w7) := Lib.hid ⟨by have := HTS.out; omega, HX7.out, by have := HNM.out; omega, Within.grew HG6.out hHeld.2 (Nat.le_refl _)⟩
      clear hHeld
      go_wp2
      go_ret3
      exact ⟨t, _, _, rfl, HF.out⟩
    · have hdb2 : (d2 == 0) = false := by simp [hd2]
      have hc6 := HC6.out
      have HF : Hid (∀ k, (t.size ≤ 500 ∧ (0 ≤ (n : Int) ∧ (n : Int) ≤ 6) ∧ (0 ≤ (m : Int) ∧ (m : Int) ≤ 6) ∧ Grew w (w6.drewN k))) := Lib.hid fun k => ⟨by have := HTS.out; omega, by have := HNM.out; omega, by have := HNM.out; omega, HG6.out.drewN k⟩
      clear hd2
      go_wp2
      go_quiet (fail)
      go_wp2
      go_ret3
      exact ⟨t, _, _, rfl, HF.out _⟩
end Go.Proofs.YtlfoimjohdaofaaDoor
