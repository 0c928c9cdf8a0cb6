/- The contract of slices.Clone, of whole numbers. -/
import Derived.Test.YtdhokofcgfolnaaDoorRowOf
namespace Go.Proofs.YtdhokofcgfolnaaDoor
open Go.RowKit

theorem not_nil (ad : Addr) (n c : Nat) (W : World) : (binOp .eql 27 (.slice (some ad) n c) (.slice none 0 0)).run Tryd.prog W = .ok (.bool false) W := by kernel_rfl

set_option maxRecDepth 100000 in
set_option maxHeartbeats 1000000 in
theorem slicesClone_any (b o c : Nat) (xs : List Int) (w : World) (hx : ∀ i, i < xs.length → w.cell? ⟨b, o + i, none⟩ = some (.int .i64 (xs.getD i 0))) (h1 : 1 ≤ xs.length) (h2 : xs.length ≤ 1000) :
    Calls Tryd.prog 90 #[.slice (some ⟨b, o, none⟩) xs.length c] w (FlatPost w xs) := by
  have HX := Lib.hid hx
  have H0 : Hid (IntsO 3 w.heap.size (w.alloc (.cells #[] 3)).heap.size (w.alloc (.cells #[] 3)) (.slice (some ⟨w.heap.size, 0, none⟩) 0 0) [] ∧ Grew w (w.alloc (.cells #[] 3)) ∧ ∀ i, i < xs.length → (w.alloc (.cells #[] 3)).cell? ⟨b, o + i, none⟩ = some (.int .i64 (xs.getD i 0))) :=
    Lib.hid ⟨by simpa using IntsO.lit 3 w.heap.size w [] #[] rfl (Nat.le_refl _) (by decide), (Grew.refl w).alloc _, fun i hi => ((Grew.refl w).alloc _).cell (hx i hi)⟩
  have HL : Hid (([] : List Int).length + xs.length ≤ 17592186044416 ∧ w.heap.size ≤ (w.alloc (.cells #[] 3)).heap.size) := Lib.hid ⟨by simp; omega, by simp⟩
  clear hx
  have hnn := not_nil ⟨b, o, none⟩ xs.length c w
  go_enter Tryd.func90, Tryd.ntmps90
  go_wp2_with (at_builtin; refine wpList_append_ints rfl (.tmp 5) (.tmp 6) 27 rfl Tryd.underlying27 Tryd.infoI rfl rfl H0.out.2.2 H0.out.1 h1 HL.out.1 HL.out.2 ?_; intro g5 c5 w5 hO5 hW5)
  go_ret
  simp only [List.length_nil, Nat.zero_add, List.nil_append] at hO5 ⊢
  exact ⟨_, _, rfl, hO5, hW5.grew H0.out.2.1 (Nat.le_refl _)⟩
end Go.Proofs.YtdhokofcgfolnaaDoor
