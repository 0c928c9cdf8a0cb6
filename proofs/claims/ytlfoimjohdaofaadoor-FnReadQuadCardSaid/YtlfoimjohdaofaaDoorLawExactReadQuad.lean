/- The law FnExactReadQuad returns true. -/
import Derived.Test.YtlfoimjohdaofaaDoorMark
import Derived.Test.YtlfoimjohdaofaaDoorEq
import Derived.Test.YtlfoimjohdaofaaDoorExact
import Derived.Test.YtlfoimjohdaofaaDoorSReadQuad
namespace Go.Proofs.YtlfoimjohdaofaaDoor
open Go.RowKit

/-- What a reader of texts by quarters answers, as one: rows of its own, and whether there is a grid. -/
def ReadY (M : List (List Int)) (ok : Bool) (w : World) (e : Ending) (w' : World) : Prop := ∃ v, e = .returned (.tuple #[v, .bool ok]) ∧ RowsO 28 3 w.heap.size w'.heap.size w' v M ∧ Grew w w'
theorem grid_total {H : List (List Int)} {m : Nat} (G : Grid H m) : total H ≤ 25 := by
  have h1 := total_le H 5 (fun r hr => by rw [G.len r hr]; exact G.m5)
  have h2 := G.n5
  omega
theorem readX_one (s : ByteArray) (r c : Int) : ∃ M ok, (∀ w e w', ReadX s r c w e w' → ReadY M ok w e w') ∧ total M ≤ 25 ∧ ((ok = true ∧ IsReadI s r c M) ∨ (ok = false ∧ M = [] ∧ ∀ H, ¬ IsReadI s r c H)) := by
  by_cases h : ∃ H, IsReadI s r c H
  · obtain ⟨H, hH⟩ := h
    refine ⟨H, true, fun w e w' hx => ?_, ?_, .inl ⟨rfl, hH⟩⟩
    · obtain ⟨hg, ⟨v, K, he, hO, hK⟩ | ⟨hN, _⟩⟩ := hx
      · rw [hK.one hH] at hO
        exact ⟨v, he, hO, hg⟩
      · exact absurd hH (hN H)
    · obtain ⟨n, m, _, _, _, G, _⟩ := hH
      exact grid_total G
  · refine ⟨[], false, fun w e w' hx => ?_, by simp [total], .inr ⟨rfl, rfl, fun H hH => h ⟨H, hH⟩⟩⟩
    obtain ⟨hg, ⟨v, K, he, hO, hK⟩ | ⟨hN, he⟩⟩ := hx
    · exact absurd ⟨K, hK⟩ h
    · exact ⟨_, he, RowsO.nil _ _ _ _ _, hg⟩
set_option maxRecDepth 100000 in
set_option maxHeartbeats 8000000 in
theorem FnExactReadQuad_any (s : ByteArray) (r c : Int) (w : World) (hr : -9223372036854775808 ≤ r ∧ r ≤ 9223372036854775807) (hc : -9223372036854775808 ≤ c ∧ c ≤ 9223372036854775807) (hE : ErrAs w) :
    Calls Tryd.prog 5 #[.string s, .int .i64 r, .int .i64 c] w fun e w' => e = .returned (.bool true) ∧ Grew w w' := by
  by_cases hs : 1048576 < s.size
  · clear hr hc hE
    go_enter Tryd.func5, Tryd.ntmps5
    go_wp2
    go_ret
    exact ⟨rfl, Grew.refl _⟩
  obtain ⟨M, ok, hX, hT, -⟩ := readX_one s r c
  have HI : Hid (∀ W, Grew w W → Calls Tryd.prog 9 #[.string s, .int .i64 r, .int .i64 c] W (ReadY M ok W)) := Lib.hid fun W hW => (ReadQuad_any s r c W hr hc (hE.grew hW)).mono fun e w' h => hX _ _ _ h
  have HP : Hid (∀ W, Calls Tryd.prog 13 #[.string s, .int .i64 r, .int .i64 c] W (ReadY M ok W)) := Lib.hid fun W => (SReadQuad_any s r c W (by omega)).mono fun e w' h => hX _ _ _ h
  have HTT := Lib.hid hT
  unfold ReadY at HI HP
  clear hr hc hE hX hT
  go_enter Tryd.func5, Tryd.ntmps5
  go_wp2_with (fail)
  refine (HP.out _).mono ?_
  rintro e w3 ⟨v3, rfl, hw3, hg3⟩
  have H3 := Lib.hid (And.intro hw3 hg3)
  clear hw3 hg3
  go_wp2_with (fail)
  refine (HI.out _ H3.out.2).mono ?_
  rintro e w5 ⟨v5, rfl, hw5, hg5⟩
  obtain ⟨a5, c5, rfl⟩ := hw5.sh
  have H5 : Hid (RowsO 28 3 w.heap.size w3.heap.size w5 v3 M ∧ RowsO 28 3 w3.heap.size w5.heap.size w5 (.slice a5 M.length c5) M ∧ Grew w w5 ∧ w.heap.size ≤ w3.heap.size) :=
    Lib.hid ⟨H3.out.1.grew hg5, hw5, H3.out.2.trans hg5, H3.out.2.size⟩
  clear hw5 hg5 H3
  go_wp2_with (fail)
  refine (eqIntSS_any _ _ M M _ H5.out.2.1.toV H5.out.1.toV).mono ?_
  rw [decide_eq_true (rfl : M = M)]
  rintro e w6 ⟨rfl, hq⟩
  have hg6 := quiet_grew hq
  have H6 : Hid (RowsO 28 3 w.heap.size w3.heap.size w6 v3 M ∧ RowsO 28 3 w3.heap.size w5.heap.size w6 (.slice a5 M.length c5) M ∧ Grew w w6 ∧ w.heap.size ≤ w3.heap.size) :=
    Lib.hid ⟨H5.out.1.grew hg6, H5.out.2.1.grew hg6, H5.out.2.2.1.trans hg6, H5.out.2.2.2⟩
  clear hq hg6 H5
  have e12 : ¬ (1 + (total M : Int)) < 0 := by omega
  go_wp2_with (fail)
  refine (markIntSS_any w3.heap.size w5.heap.size _ M 1 _ H6.out.2.1 (by decide) (by have := HTT.out; omega)).mono ?_
  rintro e w11 ⟨rfl, hm11, hw11⟩
  have H11 : Hid (RowsO 28 3 w.heap.size w3.heap.size w11 v3 M ∧ RowsO 28 3 w3.heap.size w5.heap.size w11 (.slice a5 M.length c5) (markL 1 M) ∧ Grew w w11) :=
    Lib.hid ⟨H6.out.1.within hw11 (.inl (Nat.le_refl _)), hm11, Within.grew H6.out.2.2.1 hw11 H6.out.2.2.2⟩
  clear hm11 hw11 H6
  go_wp2_with (fail)
  refine (heldIntSS_any _ M 1 _ H11.out.2.1.toV (by decide) (by have := HTT.out; omega)).mono ?_
  rintro e w12 ⟨rfl, rfl⟩
  go_wp2_with (fail)
  refine (HI.out _ H11.out.2.2).mono ?_
  rintro e w14 ⟨v14, rfl, hw14, hg14⟩
  have H14 : Hid (RowsV w14 v3 M ∧ RowsV w14 v14 M ∧ RowsV w14 (.slice a5 M.length c5) (markL 1 M) ∧ Grew w w14) :=
    Lib.hid ⟨(H11.out.1.grew hg14).toV, hw14.toV, (H11.out.2.1.grew hg14).toV, H11.out.2.2.trans hg14⟩
  clear hw14 hg14 H11
  go_wp2_with (fail)
  refine (eqIntSS_any _ _ M M _ H14.out.2.1 H14.out.1).mono ?_
  rw [decide_eq_true (rfl : M = M)]
  rintro e w15 ⟨rfl, hq⟩
  have hg15 := quiet_grew hq
  have H15 : Hid (RowsV w15 (.slice a5 M.length c5) (markL 1 M) ∧ Grew w w15) := Lib.hid ⟨H14.out.2.2.1.grew hg15, H14.out.2.2.2.trans hg15⟩
  clear hq hg15 H14
  go_wp2_with (fail)
  refine (heldIntSS_any _ M 1 _ H15.out.1 (by decide) (by have := HTT.out; omega)).mono ?_
  rintro e w16 ⟨rfl, rfl⟩
  go_wp2
  go_ret
  exact ⟨rfl, H15.out.2⟩
end Go.Proofs.YtlfoimjohdaofaaDoor
