/- The contract of laws.rowOf: rows laid behind each other. -/
import Derived.Test.YtaeenedjmakelaaDoorTurns
namespace Go.Proofs.YtaeenedjmakelaaDoor
open Go.RowKit

/-- 'append(s, row...)' at a slice of numbers of the call's own. -/
theorem wpList_append_ints {P : Program} {w : World} {ops : Array Oper} {rest : List Oper} {o : Oper} {a : Act} {Q : Exit → Act → World → Prop} (hgd : o.guard = none) (s x : Operand) (t : TypeId)
    (ho : o.op = .call { callee := .builtin .append, args := #[s, x], argTypes := #[t, t] }) {E : TypeId} (ht : P.underlying t = some (.slice E))
    (hinfo : (P.info? E).map (fun i => (i.zero, i.size, i.bytes)) = some (some (.int .i64 0), 1, 8)) {lo hi : Nat} {v : Value} {xs ys : List Int} {b o' c : Nat} (hs : a.eval s = v) (hx : a.eval x = .slice (some ⟨b, o', none⟩) ys.length c)
    (hcells : ∀ i, i < ys.length → w.cell? ⟨b, o' + i, none⟩ = some (.int .i64 (ys.getD i 0)))
    (hv : IntsO E lo hi w v xs) (hy : 0 < ys.length) (hlen : xs.length + ys.length ≤ 17592186044416) (hbase : lo ≤ w.heap.size)
    (h : ∀ g c' w', IntsO E lo w'.heap.size w' (.slice (some ⟨g, 0, none⟩) (xs.length + ys.length) c') (xs ++ ys) → Within lo hi w w' →
      wpList P ops Q rest (a.put o.dst (.slice (some ⟨g, 0, none⟩) (xs.length + ys.length) c')) w') : wpList P ops Q (o :: rest) a w := by
  obtain ⟨i, hi1, hi2, hi3, hi4⟩ := info_parts hinfo
  refine wpList_append_own _ hgd s x t ho lo E i (.int .i64 0) 1 8 ht hi1 hi2 hi3 hi4 rfl (by decide) v xs.length _ hs hv.1 ⟨b, o', none⟩ ys.length c (ys.map (.int .i64)) hx (by simp) ?_ ?_ (by unfold maxLen; omega) (by omega) hbase ?_
  · intro j u hu
    rw [List.getElem?_map, Option.map_eq_some_iff] at hu
    obtain ⟨y, h1, rfl⟩ := hu
    obtain ⟨hj, h2⟩ := List.getElem?_eq_some_iff.1 h1
    have := hcells j hj
    have e : ys.getD j 0 = y := by simp [hj, h2]
    rw [e] at this
    rw [Addr.add_lit]; exact this
  · intro u hu
    obtain ⟨y, _, rfl⟩ := List.mem_map.1 hu
    rfl
  · intro v' w' hown hg _
    have hW : Within lo hi w w' := grownBy_within hg fun g e => ⟨(World.ownsRow.lt hv.1 g e).1, hv.2 g e⟩
    have hO : IntsO E lo w'.heap.size w' v' (xs ++ ys) := IntsO.mk (by simpa using hown) (Nat.le_refl _)
    obtain ⟨g, c', hv', _⟩ := hO.pos (by simp; omega)
    have e : (xs ++ ys).length = xs.length + ys.length := by simp
    rw [e] at hv'
    subst hv'
    exact h g c' w' hO hW

theorem flat_snoc (h : List (List Int)) (k : Nat) (hk : k < h.length) : (h.take k).flatten ++ h.getD k [] = (h.take (k + 1)).flatten := by
  have e : h.getD k [] = h[k] := by simp [hk]
  rw [List.take_succ_eq_append_getElem hk, List.flatten_append, e]
  simp
theorem flat_len (h : List (List Int)) (k : Nat) (hk : k ≤ h.length) (hr : ∀ r, r < h.length → (h.getD r []).length ≤ 1000) : (h.take k).flatten.length ≤ 1000 * k := by
  induction k with
  | zero => simp
  | succ k ih =>
    rw [← flat_snoc h k (by omega), List.length_append]
    have := ih (by omega)
    have := hr k (by omega)
    omega

theorem flat_grid {h : List (List Int)} {m : Nat} (g : Grid h m) (k : Nat) (hk : k ≤ h.length) : (h.take k).flatten.length = k * m := by
  induction k with
  | zero => simp
  | succ k ih =>
    rw [← flat_snoc h k (by omega), List.length_append, ih (by omega), g.len k (by omega), Nat.succ_mul]
theorem flat_grid_len {h : List (List Int)} {m : Nat} (g : Grid h m) : h.flatten.length = h.length * m := by
  have := flat_grid g h.length (Nat.le_refl _)
  rwa [List.take_of_length_le (Nat.le_refl _)] at this

def FlatPost (w : World) (xs : List Int) (e : Ending) (w' : World) : Prop := ∃ g c, e = .returned (.slice (some ⟨g, 0, none⟩) xs.length c) ∧ IntsO 3 w.heap.size w'.heap.size w' (.slice (some ⟨g, 0, none⟩) xs.length c) xs ∧ Grew w w'

set_option maxRecDepth 100000 in
set_option maxHeartbeats 2000000 in
theorem rowOf_any (v : Value) (h : List (List Int)) (w : World) (hv : RowsV w v h) (hn : h.length ≤ 1000) (hr : ∀ r, r < h.length → 1 ≤ (h.getD r []).length ∧ (h.getD r []).length ≤ 1000) :
    Calls Tryd.prog 32 #[v] w (FlatPost w h.flatten) := by
  obtain ⟨a, b, o, c, rfl, ⟨hlc, hcb⟩, ha, HC⟩ := hv.shape
  have HA := Lib.hid ha
  have HR := Lib.hid hr
  have HL := Lib.hid fun k hk => flat_len h k hk fun r h' => (hr r h').2
  clear hv ha hr
  go_enter Tryd.func32, Tryd.ntmps32
  go_wp2_with (fail)
  have H0 : Hid (IntsO 3 w.heap.size (w.alloc (.cells #[] 3)).heap.size (w.alloc (.cells #[] 3)) (.slice (some ⟨w.heap.size, 0, none⟩) 0 0) [] ∧ Grew w (w.alloc (.cells #[] 3))) :=
    ⟨by simpa using IntsO.lit 3 w.heap.size w [] #[] rfl (Nat.le_refl _) (by decide), (Grew.refl w).alloc _⟩
  go_loopg [3, 4] h.length (fun gk v i wr => ∃ k xs g c', v = .slice (some ⟨g, 0, none⟩) (List.length xs) c' ∧ i = .int .i64 ((k : Nat) : Int) ∧ k ≤ h.length ∧ h.length ≤ gk + k ∧
    Hid (IntsO 3 w.heap.size wr.heap.size wr v xs ∧ xs = (h.take k).flatten ∧ Grew w wr))
  case atStart => exact ⟨0, [], _, _, rfl, rfl, Nat.zero_le _, Nat.le_refl _, H0.out.1, rfl, H0.out.2⟩
  case round =>
    obtain ⟨k, xs, g, c', rfl, rfl, hk1, hk2, HI⟩ := hrel
    clear H0
    by_cases hlt : k < h.length
    · have hsw := HI.out.2.2.size
      obtain ⟨u, hck, hu⟩ := HC.out k hlt
      have hrl := HR.out k hlt
      have hfl := HL.out k hk1
      rw [← HI.out.2.1] at hfl
      obtain ⟨row, er⟩ : ∃ row, h.getD k [] = row := ⟨_, rfl⟩
      rw [er] at hu hrl
      have HER := Lib.hid er
      obtain rfl := HA.out (by omega)
      obtain ⟨a1, b1, o1, c1, rfl, _, ha1, HC1⟩ := (hu.grew HI.out.2.2).shape
      obtain rfl := ha1 (by omega)
      have hck' := HI.out.2.2.cell hck
      clear hck hu ha1 er
      go_wp2_with (at_builtin; refine wpList_append_ints rfl (.tmp 12) (.tmp 16) 22 rfl Tryd.underlying22 Tryd.infoI rfl rfl HC1.out HI.out.1 (by omega) (by omega) hsw ?_; intro g5 c5 w5 hO5 hW5)
      have HF := Lib.hid (And.intro hO5 hW5)
      clear hO5 hW5
      go_wp2
      go_roundg (gk - 1)
      case measure => omega
      case rel => exact ⟨k + 1, xs ++ row, g5, c5, by simp, by go_num, by omega, by omega, HF.out.1, by rw [HI.out.2.1, ← flat_snoc h k hlt, HER.out], HF.out.2.grew HI.out.2.2 (Nat.le_refl _)⟩
    · go_wp2
      go_ret
      have e := HI.out.2.1
      rw [List.take_of_length_le (by omega)] at e
      subst e
      exact ⟨_, _, rfl, HI.out.1, HI.out.2.2⟩
end Go.Proofs.YtaeenedjmakelaaDoor
