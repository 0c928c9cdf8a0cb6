/- The contract of impl.firstsOf: cells joined as they are of one height. -/
import Derived.Test.YteojdpfhhbcjlaaDoorPieces
import Derived.Shelf.Abstract
namespace Go.Proofs.YteojdpfhhbcjlaaDoor
open Go.RowKit

/-- The one thing of which P holds. -/
noncomputable def pickL {α : Type} [Inhabited α] (P : α → Prop) : α := @dite α (∃ x, P x) (Classical.propDecidable _) (fun h => Classical.choose h) (fun _ => default)
theorem pickL_eq {α : Type} [Inhabited α] {P : α → Prop} {x : α} (h : P x) (hu : ∀ y, P y → y = x) : pickL P = x := by
  have he : ∃ x, P x := ⟨x, h⟩
  unfold pickL
  rw [dif_pos he]
  exact hu _ (Classical.choose_spec he)
theorem pickL_ok {α : Type} [Inhabited α] {P : α → Prop} (h : ∃ x, P x) : P (pickL P) := by
  unfold pickL
  rw [dif_pos h]
  exact Classical.choose_spec h
noncomputable def flatsL (n m : Nat) (J : Nat → Nat → Bool) : List Int := pickL (Flats n m J)
theorem Flats.eq {n m : Nat} {J : Nat → Nat → Bool} {fs : List Int} (hn : n ≤ 5) (hm : m ≤ 5) (F : Flats n m J fs) : flatsL n m J = fs := pickL_eq F fun _ G => G.uniq hn hm F

theorem least_of (P : Nat → Prop) (k : Nat) (hk : P k) : ∃ j, P j ∧ ∀ i, P i → j ≤ i := by
  induction k using Nat.strongRecOn with
  | ind k ih =>
    by_cases h : ∃ i, i < k ∧ P i
    · obtain ⟨i, hi, hp⟩ := h
      exact ih i hi hp
    · exact ⟨k, hk, fun i hi => Nat.le_of_not_lt fun hlt => h ⟨i, hlt, hi⟩⟩
theorem flats_exists {n m : Nat} {J : Nat → Nat → Bool} (hJ : Symm J) (hn : n ≤ 5) (hm : m ≤ 5) : ∃ f, Flats n m J f := by
  have hl : ∀ i, ∃ j, Reach n m J i j ∧ ∀ k, Reach n m J i k → j ≤ k := fun i => least_of _ i .refl
  obtain ⟨F, eF⟩ : ∃ F : Nat → Nat, ∀ i, Reach n m J i (F i) ∧ ∀ k, Reach n m J i k → F i ≤ k := ⟨fun i => Classical.choose (hl i), fun i => Classical.choose_spec (hl i)⟩
  have e : ∀ i, i < n * m → ((List.range (n * m)).map fun i => (F i : Int)).getD i 0 = F i := fun i hi => by simp [hi]
  refine ⟨(List.range (n * m)).map fun i => (F i : Int), by simp, fun i hi => ⟨F i, e i hi, (eF i).2 i .refl, (eF i).1⟩, fun i hi k hk hj => ?_⟩
  have hkN := around_lt hn hm hi hk
  rw [e i hi, e k hkN]
  have h1 : Reach n m J i k := .step .refl hk hj
  have h2 : Reach n m J k i := .step .refl (around_back hn hm hi hk) (hJ _ _ hj)
  have h3 := (eF i).2 _ (h1.trans (eF k).1)
  have h4 := (eF k).2 _ (h2.trans (eF i).1)
  omega
theorem flatsL_ok {n m : Nat} {J : Nat → Nat → Bool} (hJ : Symm J) (hn : n ≤ 5) (hm : m ≤ 5) : Flats n m J (flatsL n m J) := pickL_ok (flats_exists hJ hn hm)

theorem FlatsPost.from {n m : Nat} {J : Nat → Nat → Bool} {w w1 : World} {e : Ending} {w' : World} (h : FlatsPost n m J w1 e w') (hg : Grew w w1) : FlatsPost n m J w e w' := by
  obtain ⟨g, c, fs, he, hO, hF, hG⟩ := h
  exact ⟨g, c, fs, he, hO.wide hg.size (Nat.le_refl _), hF, hg.trans hG⟩

set_option maxHeartbeats 1000000 in
theorem sameClo_any (B g c N I K : Nat) (p : List Int) (W : World) (hB : W.cell? ⟨B, 0, none⟩ = some (.slice (some ⟨g, 0, none⟩) N c)) (hI : I < N) (hK : K < N)
    (h1 : W.cell? ⟨g, I, none⟩ = some (.int .i64 (p.getD I 0))) (h2 : W.cell? ⟨g, K, none⟩ = some (.int .i64 (p.getD K 0))) :
    Calls Tryd.prog 91 #[.int .i64 I, .int .i64 K, .pointer (some ⟨B, 0, none⟩)] W fun e w' => e = .returned (.bool (sameH p I K)) ∧ ∃ q, w' = W.drewN q := by
  obtain ⟨x, ex⟩ : ∃ x, p.getD I 0 = x := ⟨_, rfl⟩
  obtain ⟨y, ey⟩ : ∃ y, p.getD K 0 = y := ⟨_, rfl⟩
  have HS : Hid (sameH p I K = (x == y)) := Lib.hid (by
    rw [sameH, ex, ey]
    by_cases h : x = y <;> simp [h])
  rw [ex] at h1
  rw [ey] at h2
  have hI' : (I : Int) < (N : Int) := by omega
  have hK' : (K : Int) < (N : Int) := by omega
  clear ex ey
  go_enter Tryd.func91, Tryd.ntmps91
  go_wp2
  go_quiet (fail)
  go_wp2
  go_ret
  exact ⟨ret_bool HS.out.symm, _, rfl⟩

set_option maxHeartbeats 1000000 in
theorem firstsOf_any (v : Value) (h : List (List Int)) (n m : Nat) (w : World) (hv : RowsV w v h) (hg : vGrid h = true) (hS : Steps w) (en : h.length = n) (em : (h.getD 0 []).length = m) :
    Calls Tryd.prog 56 #[v] w (FlatsPost n m (sameH h.flatten) w) := by
  have G := Grid.of hg
  have hK := slicesConcat_any v h w hv G.n1 (Nat.le_trans G.n5 (by decide)) (fun r hr => by have := G.len r hr; have := G.m1; have := G.m5; omega)
  have hpl := flat_grid_len G
  rw [en, em] at hpl
  obtain ⟨p, ep⟩ : ∃ p, h.flatten = p := ⟨_, rfl⟩
  rw [ep] at hK hpl ⊢
  have HK := Lib.hid hK
  obtain ⟨N, eN⟩ : ∃ N, n * m = N := ⟨_, rfl⟩
  rw [eN] at hpl
  have HP : Hid (∀ (B g c : Nat) (w1 : World), Grew w w1 → B < w1.heap.size → w1.cell? ⟨B, 0, none⟩ = some (.slice (some ⟨g, 0, none⟩) N c) → IntsO 3 w.heap.size w1.heap.size w1 (.slice (some ⟨g, 0, none⟩) N c) p →
      Calls Tryd.prog 90 #[v, .func (.func 91) #[] #[.pointer (some ⟨B, 0, none⟩)]] w1 (FlatsPost n m (sameH p) w)) := by
    refine Lib.hid fun B g c w1 hg1 hB hcB hO => ?_
    refine (firstsOfPieces_any v h n m (sameH p) (sameH_symm p) 91 #[.pointer (some ⟨B, 0, none⟩)] (enters_of Tryd.func91 (by kernel_rfl) rfl) w1 (hv.grew hg1) hg (hS.grew hg1) en em ?_).mono fun e w' hh => hh.from hg1
    intro I K W hW hI hK
    rw [eN] at hI hK
    have hOW := hO.grew hW
    exact sameClo_any B g c N I K p W (hW.cell hcB) hI hK (hOW.at rfl (by omega)).1 (hOW.at rfl (by omega)).1
  obtain ⟨a, b, o, c, rfl, _, _, _⟩ := hv.shape
  clear hv hg hS G hK en em ep eN
  have hmf : ∀ (fn : Fn) (first cap : Array Value) (w : World), (Instr.makeFunc fn first cap).run Tryd.prog w = .ok (.func fn first cap) w := fun _ _ _ _ => rfl
  go_enter Tryd.func56, Tryd.ntmps56
  go_wp2_with (fail)
  refine HK.out.mono ?_
  rintro e w1 ⟨g1, c1, rfl, hO1, hg1⟩
  rw [hpl] at hO1 ⊢
  have H1 : Hid (IntsO 3 w.heap.size (w1.alloc (.cells #[.slice (some ⟨g1, 0, none⟩) N c1] 27)).heap.size (w1.alloc (.cells #[.slice (some ⟨g1, 0, none⟩) N c1] 27)) (.slice (some ⟨g1, 0, none⟩) N c1) p ∧ Grew w (w1.alloc (.cells #[.slice (some ⟨g1, 0, none⟩) N c1] 27))) :=
    Lib.hid ⟨(hO1.grew ((Grew.refl w1).alloc _)).wide (Nat.le_refl _) (by simp), hg1.alloc _⟩
  clear hO1 hg1 hpl
  go_wp2_with (fail)
  refine (HP.out w1.heap.size g1 c1 _ H1.out.2 (by simp) (by simp) H1.out.1).mono ?_
  rintro e w2 ⟨g2, c2, fs, rfl, hO2, hF2, hg2⟩
  have HF := Lib.hid (And.intro hO2 (And.intro hF2 hg2))
  clear hO2 hF2 hg2
  go_wp2
  go_ret
  exact ⟨g2, c2, fs, rfl, HF.out⟩
end Go.Proofs.YteojdpfhhbcjlaaDoor
