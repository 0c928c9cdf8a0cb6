/- The contracts of spec.cells and spec.around. -/
import Derived.Test.YtaeenedjmakelaaDoorBeside
namespace Go.Proofs.YtaeenedjmakelaaDoor
open Go.RowKit

set_option maxRecDepth 100000 in
set_option maxHeartbeats 1000000 in
theorem cells_any (v : Value) (h : List (List Int)) (w : World) (hv : RowsV w v h) (hn : 1 ≤ h.length) (hn5 : h.length ≤ 6) (hm5 : (h.getD 0 []).length ≤ 6) :
    Calls Tryd.prog 89 #[v] w fun e w' => e = .returned (.int .i64 ((h.length * (h.getD 0 []).length : Nat) : Int)) ∧ w = w' := by
  obtain ⟨a, b, o, c, rfl, ⟨hlc, hcb⟩, ha, HC⟩ := hv.shape
  obtain rfl := ha hn
  obtain ⟨u, hcu, hu⟩ := HC.out 0 hn
  rw [Nat.add_zero] at hcu
  obtain ⟨row, er⟩ : ∃ row, h.getD 0 [] = row := ⟨_, rfl⟩
  rw [er] at hu hm5 ⊢
  obtain ⟨a1, b1, o1, c1, rfl, _, _, _⟩ := hu.shape
  have hi0 : 0 < h.length := by omega
  have e : ((h.length * row.length : Nat) : Int) = (h.length : Int) * row.length := by simp
  have hb : (h.length : Int) * row.length ≤ 36 := by
    rw [← e]
    have : h.length * row.length ≤ 6 * 6 := Nat.mul_le_mul hn5 hm5
    omega
  have hb0 : 0 ≤ (h.length : Int) * row.length := by rw [← e]; omega
  have HE := Lib.hid e
  clear hu er ha hv e
  go_enter Tryd.func89, Tryd.ntmps89
  go_wp2
  go_ret
  exact ⟨ret_int HE.out.symm, rfl⟩

set_option maxRecDepth 100000 in
set_option maxHeartbeats 8000000 in
theorem aroundS_any (v : Value) (h : List (List Int)) (I : Nat) (w : World) (hv : RowsV w v h) (hg : Shp h (h.getD 0 []).length) (hI : I < h.length * (h.getD 0 []).length) :
    Calls Tryd.prog 91 #[v, .int .i64 I] w (OwnI w (aroundL h.length (h.getD 0 []).length I)) := by
  have G := hg
  have HN := Lib.hid (fun (W : World) (hW : Grew w W) => cells_any v h W (hv.grew hW) G.n1 (by have := G.n5; omega) (by have := G.m5; omega))
  obtain ⟨a, b, o, c, rfl, ⟨hlc, hcb⟩, ha, HC⟩ := hv.shape
  obtain rfl := ha G.n1
  obtain ⟨u, hcu, hu⟩ := HC.out 0 G.n1
  rw [Nat.add_zero] at hcu
  obtain ⟨row, er⟩ : ∃ row, h.getD 0 [] = row := ⟨_, rfl⟩
  rw [er] at hu hI G ⊢
  obtain ⟨n, en⟩ : ∃ n, h.length = n := ⟨_, rfl⟩
  obtain ⟨m, em⟩ : ∃ m, row.length = m := ⟨_, rfl⟩
  have n1 := G.n1
  have n5 := G.n5
  have m1 := G.m1
  have m5 := G.m5
  obtain ⟨a1, b1, o1, c1, rfl, _, _, _⟩ := hu.shape
  rw [en] at hI n1 n5 ⊢
  rw [em] at hI m1 m5 hcu ⊢
  obtain ⟨p, ep⟩ : ∃ p, n * m = p := ⟨_, rfl⟩
  have HN2 : Hid (∀ (W : World), Grew w W → Calls Tryd.prog 89 #[.slice (some ⟨b, o, none⟩) n c] W fun e w' => e = .returned (.int .i64 (p : Int)) ∧ W = w') := by
    have := HN.out
    rw [er, en, em, ep] at this
    exact this
  have hp25 : p ≤ 25 := by rw [← ep]; exact Nat.mul_le_mul n5 m5
  rw [ep] at hI
  have HP := Lib.hid ep
  obtain ⟨q, hq⟩ : ∃ q, I % m = q := ⟨_, rfl⟩
  have HQ := Lib.hid hq
  have t4 : (I : Int) % m = (q : Int) := by rw [← hq]; rfl
  have hqm : q < m := by rw [← hq]; exact Nat.mod_lt _ m1
  have h0n : 0 < n := n1
  have hG0 : Grew w w := Grew.refl w
  clear hv hg ha hu er G HN hq ep HC hlc en em
  by_cases k1 : m ≤ I <;> by_cases k2 : 0 < q <;> by_cases k3 : q < m - 1 <;> by_cases k4 : I + m < p
  all_goals
    have hO0 : IntsO 3 w.heap.size (w.alloc (.cells #[] 3)).heap.size (w.alloc (.cells #[] 3)) (.slice (some ⟨w.heap.size, 0, none⟩) 0 0) [] := by simpa using IntsO.lit 3 w.heap.size w [] #[] rfl (Nat.le_refl _) (by decide)
    have hGa : Grew w (w.alloc (.cells #[] 3)) := hG0.alloc _
    clear hG0
    go_enter Tryd.func91, Tryd.ntmps91
    go_wp2_with (first | (at_builtin; refine wpList_append_int rfl (.tmp 15) (.tmp 19) 22 rfl Tryd.underlying22 Tryd.infoB (lo := w.heap.size) rfl rfl (by simp) (by assumption) (by simp) (Grew.size (by assumption)) ?_; intro g1 c1 w1 hO1 hW1 _; have hG1 := Within.grew (by assumption) hW1 (Nat.le_refl _); clear hW1) | (at_builtin; refine wpList_append_int rfl (.tmp 25) (.tmp 28) 22 rfl Tryd.underlying22 Tryd.infoB (lo := w.heap.size) rfl rfl (by simp) (by assumption) (by simp) (Grew.size (by assumption)) ?_; intro g2 c2 w2 hO2 hW2 _; have hG2 := Within.grew (by assumption) hW2 (Nat.le_refl _); clear hW2) | (at_builtin; refine wpList_append_int rfl (.tmp 36) (.tmp 39) 22 rfl Tryd.underlying22 Tryd.infoB (lo := w.heap.size) rfl rfl (by simp) (by assumption) (by simp) (Grew.size (by assumption)) ?_; intro g3 c3 w3 hO3 hW3 _; have hG3 := Within.grew (by assumption) hW3 (Nat.le_refl _); clear hW3) | (at_builtin; refine wpList_append_int rfl (.tmp 47) (.tmp 51) 22 rfl Tryd.underlying22 Tryd.infoB (lo := w.heap.size) rfl rfl (by simp) (by assumption) (by simp) (Grew.size (by assumption)) ?_; intro g4 c4 w4 hO4 hW4 _; have hG4 := Within.grew (by assumption) hW4 (Nat.le_refl _); clear hW4) | (go_at_call 89; refine (HN2.out _ (by assumption)).mono ?_; rintro e w' ⟨rfl, rfl⟩))
    go_ret
    rw [aroundL, HP.out, HQ.out]
    simp only [k1, k2, k3, k4, if_true, if_false, List.nil_append, List.append_nil]
    exact ⟨_, _, rfl, by assumption, by assumption⟩
theorem around_any (v : Value) (h : List (List Int)) (I : Nat) (w : World) (hv : RowsV w v h) (hg : vGrid h = true) (hI : I < h.length * (h.getD 0 []).length) :
    Calls Tryd.prog 91 #[v, .int .i64 I] w (OwnI w (aroundL h.length (h.getD 0 []).length I)) := aroundS_any v h I w hv (Grid.of hg).shp hI
end Go.Proofs.YtaeenedjmakelaaDoor
