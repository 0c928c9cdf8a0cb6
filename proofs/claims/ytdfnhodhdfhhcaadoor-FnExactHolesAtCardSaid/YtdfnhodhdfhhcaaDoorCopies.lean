/- The contract of laws.toIntSS. -/
import Derived.Test.YtdfnhodhdfhhcaaDoorExact
namespace Go.Proofs.YtdfnhodhdfhhcaaDoor
open Go.RowKit

/-- The first k rows, empty ones behind. -/
def upToR (h : List (List Int)) (k : Nat) : List (List Int) := h.take k ++ List.replicate (h.length - k) []
theorem upToR_len (h : List (List Int)) (k : Nat) (hk : k ≤ h.length) : (upToR h k).length = h.length := by simp [upToR]; omega
theorem upToR_set (h : List (List Int)) (k : Nat) (hk : k < h.length) : (upToR h k).set k (h.getD k []) = upToR h (k + 1) := by
  unfold upToR
  have e1 : (h.take k).length = k := by simp; omega
  have e2 : h.length - k = (h.length - (k + 1)) + 1 := by omega
  rw [List.set_append_right _ _ (by omega), e1, Nat.sub_self, e2, List.replicate_succ, List.set_cons_zero, List.take_succ_eq_append_getElem hk, List.append_assoc]
  simp [hk]

def CopyRows (w : World) (h : List (List Int)) (e : Ending) (w' : World) : Prop := ∃ g c, e = .returned (.slice (some ⟨g, 0, none⟩) h.length c) ∧ RowsO 29 3 w.heap.size w'.heap.size w' (.slice (some ⟨g, 0, none⟩) h.length c) h ∧ Grew w w'

set_option maxRecDepth 100000 in
set_option maxHeartbeats 1000000 in
theorem toIntSS_any (v : Value) (h : List (List Int)) (w : World) (hv : RowsV w v h) (hx : h.length ≤ 1048576) (hr : ∀ r, r < h.length → (h.getD r []).length ≤ 1048576) :
    Calls Tryd.prog 29 #[v] w (CopyRows w h) := by
  obtain ⟨a, b, o, c, rfl, ⟨hlc, hcb⟩, ha, HC⟩ := hv.shape
  have HA := Lib.hid ha
  have HR := Lib.hid hr
  clear hv ha hr
  go_enter Tryd.func29, Tryd.ntmps29
  go_wp2_with (at_make; refine wpList_make_rows rfl (.tmp 6) (.tmp 6) 23 rfl Tryd.underlying23 Tryd.infoT (E := 3) rfl rfl rfl rfl (by omega) ?_; intro w1 hO1 hg1 hs1)
  have HO : Hid (RowsO 29 3 w.heap.size w1.heap.size w1 (.slice (some ⟨w.heap.size, 0, none⟩) h.length h.length) (upToR h 0) ∧ Grew w w1) := ⟨by simpa [upToR] using hO1, hg1⟩
  clear hO1 hg1
  go_loopw [4] (fun i wr => ∃ k : Nat, k ≤ h.length ∧ i = .int .i64 k ∧ Hid (RowsO 29 3 w.heap.size wr.heap.size wr (.slice (some ⟨w.heap.size, 0, none⟩) h.length h.length) (upToR h k) ∧ Grew w wr ∧ w.heap.size < wr.heap.size)) (fun i _ => h.length - (intOf i).toNat)
  case atStart => exact ⟨0, Nat.zero_le _, rfl, HO.out.1, HO.out.2, hs1⟩
  case round =>
    obtain ⟨k, hk, rfl, HI⟩ := hrel
    clear HO
    by_cases hlt : k < h.length
    · obtain rfl := HA.out (by omega)
      obtain ⟨u, hck, hu⟩ := HC.out k hlt
      have hck' := HI.out.2.1.cell hck
      have hrk := HR.out k hlt
      obtain ⟨row, er⟩ : ∃ row, h.getD k [] = row := ⟨_, rfl⟩
      rw [er] at hu hrk
      have HE := Lib.hid er
      have HT := Lib.hid (toIntS_any u row wr (hu.grew HI.out.2.1) (by omega))
      clear er
      obtain ⟨a1, b1, o1, c1, rfl, _, _, _⟩ := hu.shape
      clear hck hu
      go_wp2_with (fail)
      refine HT.out.mono ?_
      rintro e w2 ⟨v2, rfl, hO2, hg2, hs2, g2, c2, rfl⟩
      obtain ⟨u0, hcu, _⟩ := HI.out.1.at rfl (i := k) (by rw [upToR_len h k hk]; exact hlt)
      have hcu2 := hg2.cell hcu
      have hfr2 := (HI.out.1.grew hg2).frozenAt rfl k
      have HF := Lib.hid (And.intro hO2 (And.intro hg2 hs2))
      clear hO2 hg2 hs2 hcu
      go_wp2
      go_roundw
      case rel => exact ⟨k + 1, by omega, by go_num, by
        have hs : (w2.setCell ⟨w.heap.size, k, none⟩ (.slice (some ⟨g2, 0, none⟩) row.length c2)).heap.size = w2.heap.size := by simp [World.setCell]
        have := (HI.out.1.grew HF.out.2.1).put (by decide) rfl (i := k) (by rw [upToR_len h k hk]; exact hlt) HF.out.1 (by have := HI.out.2.2; omega) (by have := HF.out.2.2; omega)
        rw [← HE.out, upToR_set h k hlt] at this
        rw [HE.out] at this
        refine ⟨?_, ?_, ?_⟩
        · rw [hs]; exact this
        · exact Within.grew (lo := w.heap.size) (hi := w.heap.size + 1) (HI.out.2.1.trans HF.out.2.1) ((Within.refl _ _ _).setCell (p := ⟨w.heap.size, k, none⟩) (Nat.le_refl _) (Nat.lt_succ_self _) _) (Nat.le_refl _)
        · rw [hs]; have := HI.out.2.2; have := HF.out.2.2; omega⟩
      case measure => simp [intOf]; omega
    · go_wp2
      go_ret
      refine ⟨_, _, rfl, ?_, HI.out.2.1⟩
      have := HI.out.1
      rwa [upToR, List.take_of_length_le (by omega), show h.length - k = 0 by omega, List.replicate_zero, List.append_nil] at this

theorem sz_small2 {h : List (List Int)} (hn : 0 ≤ (1048576 : Int) - h.length - total h) : h.length ≤ 1048576 ∧ ∀ r, r < h.length → (h.getD r []).length ≤ 1048576 :=
  ⟨by omega, fun r hr => by have := row_le_total h r hr; omega⟩
end Go.Proofs.YtdfnhodhdfhhcaaDoor
