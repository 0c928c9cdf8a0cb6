/- The contracts of slices.Insert at what a queue holds, and of the queue's put. -/
import Derived.Test.YtjibmfignifpcaaDoorInsertP
import Derived.Test.YtjibmfignifpcaaDoorBSearch
import Derived.StillTailTactics
namespace Go.Proofs.YtjibmfignifpcaaDoor
open Go.RowKit

/-- What waits at B: nothing yet (then g is B), or the pairs q in the block g. -/
def WaitV (w : World) (B g : Nat) (a : Option Addr) (c : Nat) (q : List (Int × Int)) : Prop :=
  c ≤ 9223372036854775807 ∧ ((a = none ∧ q = [] ∧ c = 0 ∧ g = B) ∨ ∃ o, a = some ⟨g, o, none⟩ ∧ PairsO w g o c 52 q ∧ g ≠ B)
theorem WaitV.lt {w : World} {B g : Nat} {a : Option Addr} {c : Nat} {q : List (Int × Int)} (h : WaitV w B g a c q) (hB : B < w.heap.size) : g < w.heap.size := by
  rcases h.2 with ⟨_, _, _, rfl⟩ | ⟨o, _, h, _⟩
  · exact hB
  · exact h.lt
theorem WaitV.cap {w : World} {B g : Nat} {a : Option Addr} {c : Nat} {q : List (Int × Int)} (h : WaitV w B g a c q) : q.length ≤ c := by
  rcases h.2 with ⟨_, rfl, _, _⟩ | ⟨o, _, h, _⟩
  · exact Nat.zero_le _
  · exact h.cap
theorem WaitV.only {S : Nat → Prop} {w w' : World} {B g : Nat} {a : Option Addr} {c : Nat} {q : List (Int × Int)} (h : WaitV w B g a c q) (hO : Only S w w') (hS : g ≠ B → ¬ S g) : WaitV w' B g a c q := by
  refine ⟨h.1, h.2.imp id ?_⟩
  rintro ⟨o, h1, h2, h3⟩
  exact ⟨o, h1, h2.block (hO.block g h2.lt (hS h3)), h3⟩
theorem WaitV.grew {w w' : World} {B g : Nat} {a : Option Addr} {c : Nat} {q : List (Int × Int)} (h : WaitV w B g a c q) (hg : Grew w w') : WaitV w' B g a c q :=
  h.only (S := fun _ => False) hg.only fun _ e => e

theorem insert_any (B g : Nat) (a : Option Addr) (c k n vb : Nat) (q : List (Int × Int)) (x y : Int) (w : World) (hQ : WaitV w B g a c q) (hB : B < w.heap.size) (hn : q.length = n) (hk : k ≤ n) (hlen : n ≤ 1000) (hv : ItemAt w vb x y) (hne : vb ≠ g) :
    Calls Tryd.prog 93 #[.slice a n c, .int .i64 k, .slice (some ⟨vb, 0, none⟩) 1 1] w
      fun e w' => ∃ g' a' c', e = .returned (.slice a' (n + 1) c') ∧ WaitV w' B g' a' c' (q.take k ++ (x, y) :: q.drop k) ∧ g' ≠ B ∧ (g' = g ∨ w.heap.size ≤ g') ∧ Only (fun i => i = g ∧ g ≠ B) w w' := by
  obtain ⟨hc63, hQ⟩ := hQ
  rcases hQ with ⟨rfl, rfl, rfl, rfl⟩ | ⟨o, rfl, hP, hgB⟩
  · obtain rfl : n = 0 := by simpa using hn.symm
    obtain rfl : k = 0 := by omega
    refine (insert_end_grow none 0 vb [] x y w (.inl ⟨rfl, rfl⟩) rfl (by omega) hv).mono ?_
    rintro e w' ⟨c, rfl, hc, hP, hg⟩
    exact ⟨w.heap.size, _, c, rfl, ⟨hc, .inr ⟨0, rfl, hP, by omega⟩⟩, by omega, .inr (Nat.le_refl _), hg.only⟩
  · have hcap := hP.cap
    rw [hn] at hcap
    by_cases hr : n + 1 ≤ c
    · by_cases hkn : k < n
      · refine (insert_shift g o c k n vb q x y w hP hn hkn hr hc63 hv hne).mono ?_
        rintro e w' ⟨rfl, hP', hW⟩
        exact ⟨g, _, c, rfl, ⟨hc63, .inr ⟨o, rfl, hP', hgB⟩⟩, hgB, .inl rfl, hW.only fun i h1 h2 => ⟨by omega, hgB⟩⟩
      · obtain rfl : k = n := by omega
        refine (insert_end_room g o c k vb q x y w hP hn hr hc63 hv).mono ?_
        rintro e w' ⟨rfl, hP', hW⟩
        exact ⟨g, _, c, rfl, ⟨hc63, .inr ⟨o, rfl, hP', hgB⟩⟩, hgB, .inl rfl, hW.only fun i h1 h2 => ⟨by omega, hgB⟩⟩
    · obtain rfl : c = n := by omega
      by_cases hkn : k < c
      · refine (insert_grow g o k c vb q x y w hP hn hkn hlen hv).mono ?_
        rintro e w' ⟨c', rfl, hc, hP', hg⟩
        exact ⟨w.heap.size, _, c', rfl, ⟨hc, .inr ⟨0, rfl, hP', by omega⟩⟩, by omega, .inr (Nat.le_refl _), hg.only⟩
      · obtain rfl : k = c := by omega
        refine (insert_end_grow (some ⟨g, o, none⟩) k vb q x y w (.inr ⟨g, o, rfl, hP⟩) hn hlen hv).mono ?_
        rintro e w' ⟨c', rfl, hc, hP', hg⟩
        exact ⟨w.heap.size, _, c', rfl, ⟨hc, .inr ⟨0, rfl, hP', by omega⟩⟩, by omega, .inr (Nat.le_refl _), hg.only⟩

/-- The queue at B: its order is by water, and q waits. -/
def QB (w : World) (B g : Nat) (q : List (Int × Int)) : Prop :=
  ∃ a c, w.cell? ⟨B, 0, none⟩ = some (.func (.func 52) #[] #[]) ∧ w.cell? ⟨B, 1, none⟩ = some (.slice a q.length c) ∧ w.frozen? ⟨B, 1, none⟩ = false ∧ WaitV w B g a c q
theorem QB.only {S : Nat → Prop} {w w' : World} {B g : Nat} {q : List (Int × Int)} (h : QB w B g q) (hO : Only S w w') (hB : ¬ S B) (hS : g ≠ B → ¬ S g) : QB w' B g q := by
  obtain ⟨a, c, h1, h2, h3, h4⟩ := h
  exact ⟨a, c, hO.cell h1 hB, hO.cell h2 hB, hO.frozen h2 h3 hB, h4.only hO hS⟩
theorem QB.grew {w w' : World} {B g : Nat} {q : List (Int × Int)} (h : QB w B g q) (hg : Grew w w') : QB w' B g q := h.only (S := fun _ => False) hg.only (fun e => e) fun _ e => e
theorem QB.lt {w : World} {B g : Nat} {q : List (Int × Int)} (h : QB w B g q) : B < w.heap.size ∧ g < w.heap.size := by
  obtain ⟨a, c, h1, h2, h3, h4⟩ := h
  have hB := World.block_lt_of_cell? _ _ h1
  exact ⟨hB, h4.lt hB⟩

/-- What put leaves. -/
def PutPost (w : World) (B g : Nat) (q : List (Int × Int)) (x y : Int) (e : Ending) (w' : World) : Prop :=
  e = .returned (.tuple #[]) ∧ ∃ k g', k ≤ q.length ∧ (∀ t, t < k → (q.getD t (0, 0)).2 < y) ∧ (∀ t, k ≤ t → t < q.length → y ≤ (q.getD t (0, 0)).2) ∧ QB w' B g' (q.take k ++ (x, y) :: q.drop k) ∧ (g' = g ∨ w.heap.size ≤ g') ∧ Only (fun i => i = B ∨ i = g) w w'

set_option maxRecDepth 100000 in
set_option maxHeartbeats 4000000 in
theorem put_any (B g : Nat) (q : List (Int × Int)) (x y : Int) (w : World) (hQ : QB w B g q) (hlen : q.length ≤ 1000) (hs : ∀ s t, s ≤ t → t < q.length → (q.getD s (0, 0)).2 ≤ (q.getD t (0, 0)).2) :
    Calls Tryd.prog 54 #[.pointer (some ⟨B, 0, none⟩), .agg #[.int .i64 x, .int .i64 y]] w (PutPost w B g q x y) := by
  have hlt := hQ.lt
  obtain ⟨a, c, hc0, hc1, hf1, hW⟩ := hQ
  obtain ⟨n, en⟩ : ∃ n, q.length = n := ⟨_, rfl⟩
  have hcap := hW.cap
  have hc63 := hW.1
  rw [en] at hc1 hcap
  have hBV : B ≠ w.heap.size := by omega
  obtain ⟨w1, ew1⟩ : ∃ w1, w.alloc (.cells #[.int .i64 x, .int .i64 y] 52) = w1 := ⟨_, rfl⟩
  have hg1 : Grew w w1 := by rw [← ew1]; exact (Grew.refl w).alloc _
  have hv0 : w1.cell? ⟨w.heap.size, 0, none⟩ = some (.int .i64 x) := by rw [← ew1]; simp
  have hv1 : w1.cell? ⟨w.heap.size, 1, none⟩ = some (.int .i64 y) := by rw [← ew1]; simp
  have HKP : Hid (∀ W W' : World, (Grew w1 W ∧ W.cell? ⟨B, 0, none⟩ = some (.func (.func 52) #[] #[]) ∧ W.cell? ⟨B, 1, none⟩ = some (.slice a n c) ∧ W.cell? ⟨w.heap.size, 0, none⟩ = some (.int .i64 x) ∧ W.cell? ⟨w.heap.size, 1, none⟩ = some (.int .i64 y)) → Grew W W' →
      (Grew w1 W' ∧ W'.cell? ⟨B, 0, none⟩ = some (.func (.func 52) #[] #[]) ∧ W'.cell? ⟨B, 1, none⟩ = some (.slice a n c) ∧ W'.cell? ⟨w.heap.size, 0, none⟩ = some (.int .i64 x) ∧ W'.cell? ⟨w.heap.size, 1, none⟩ = some (.int .i64 y))) :=
    Lib.hid fun W W' h g => ⟨h.1.trans g, g.cell h.2.1, g.cell h.2.2.1, g.cell h.2.2.2.1, g.cell h.2.2.2.2⟩
  have HS0 : Hid (Grew w1 w1.drew ∧ w1.drew.cell? ⟨B, 0, none⟩ = some (.func (.func 52) #[] #[]) ∧ w1.drew.cell? ⟨B, 1, none⟩ = some (.slice a n c) ∧ w1.drew.cell? ⟨w.heap.size, 0, none⟩ = some (.int .i64 x) ∧ w1.drew.cell? ⟨w.heap.size, 1, none⟩ = some (.int .i64 y)) :=
    Lib.hid (HKP.out w1 w1.drew ⟨Grew.refl _, hg1.cell hc0, hg1.cell hc1, hv0, hv1⟩ ((Grew.refl _).drew))
  have HBS : Hid (∀ W, Grew w1 W → Calls Tryd.prog 92 #[.slice a n c, .agg #[.int .i64 x, .int .i64 y], .func (.func 52) #[] #[]] W
      fun e w' => ∃ (k : Nat) (bb : Bool), e = .returned (.tuple #[.int .i64 (k : Int), .bool bb]) ∧ k ≤ n ∧ Hid ((∀ t, t < k → (q.getD t (0, 0)).2 < y) ∧ (∀ t, k ≤ t → t < q.length → y ≤ (q.getD t (0, 0)).2)) ∧ Grew W w') := by
    refine Lib.hid fun W hgW => ?_
    have hWW := hW.grew (hg1.trans hgW)
    have key : ∀ b o, (0 < q.length → a = some ⟨b, o, none⟩) → (∀ j, j < q.length → W.cell? ⟨b, o + j * 2, none⟩ = some (.int .i64 (q.getD j (0, 0)).1) ∧ W.cell? ⟨b, o + j * 2 + 1, none⟩ = some (.int .i64 (q.getD j (0, 0)).2)) → Calls Tryd.prog 92 #[.slice a n c, .agg #[.int .i64 x, .int .i64 y], .func (.func 52) #[] #[]] W
        fun e w' => ∃ (k : Nat) (bb : Bool), e = .returned (.tuple #[.int .i64 (k : Int), .bool bb]) ∧ k ≤ n ∧ Hid ((∀ t, t < k → (q.getD t (0, 0)).2 < y) ∧ (∀ t, k ≤ t → t < q.length → y ≤ (q.getD t (0, 0)).2)) ∧ Grew W w' := fun b o h1 h2 => by
      have := bsearch_any a b o c q x y 52 #[] (enters_of Tryd.func52 (by kernel_rfl) rfl) W (fun c1 w1 c2 w2 W => byWater_any c1 w1 c2 w2 W) hlen ⟨by omega, hc63⟩ h1 h2 hs
      rw [en] at this
      refine this.mono ?_
      rintro e w' ⟨k, bb, rfl, hk, h3, h4, h5⟩
      exact ⟨k, bb, rfl, hk, Lib.hid ⟨h3, by rw [en]; exact h4⟩, h5⟩
    rcases hWW.2 with ⟨_, rfl, _, _⟩ | ⟨o, rfl, hP, _⟩
    · exact key 0 0 (fun h => absurd h (Nat.lt_irrefl _)) (fun j h => absurd h (Nat.not_lt_zero _))
    · refine key g o (fun _ => rfl) fun j hj => ?_
      have := hP.cell j hj
      rw [show j * 2 = 2 * j by omega]
      exact this
  have HIN : Hid (∀ (W : World) (k : Nat), Grew w1 W → k ≤ n → Calls Tryd.prog 93 #[.slice a n c, .int .i64 k, .slice (some ⟨W.heap.size, 0, none⟩) 1 1] (W.alloc (.cells #[.int .i64 x, .int .i64 y] 52))
      fun e w' => ∃ a' c', e = .returned (.slice a' (n + 1) c') ∧ w'.cell? ⟨B, 1, none⟩ = some (.slice a n c) ∧ w'.frozen? ⟨B, 1, none⟩ = false ∧
        Hid (∃ g', QB (w'.setCell ⟨B, 1, none⟩ (.slice a' (n + 1) c')) B g' (q.take k ++ (x, y) :: q.drop k) ∧ (g' = g ∨ w.heap.size ≤ g') ∧ Only (fun i => i = B ∨ i = g) w (w'.setCell ⟨B, 1, none⟩ (.slice a' (n + 1) c')))) := by
    refine Lib.hid fun W k hgW hk => ?_
    have hgA : Grew w (W.alloc (.cells #[.int .i64 x, .int .i64 y] 52)) := (hg1.trans hgW).alloc _
    have hsz := (hg1.trans hgW).size
    refine (insert_any B g a c k n W.heap.size q x y _ (hW.grew hgA) (Nat.lt_of_lt_of_le hlt.1 hgA.size) en hk (by omega) (heap_alloc_new W _) (by omega)).mono ?_
    rintro e w' ⟨g', a', c', rfl, hW', hgB, hg', hO⟩
    have hnB : ¬ (B = g ∧ g ≠ B) := fun h => h.2 h.1.symm
    have k0 := hO.cell (hgA.cell hc0) hnB
    have k1 := hO.cell (hgA.cell hc1) hnB
    have kf := hO.frozen (hgA.cell hc1) ((Grew.only (S := fun _ => False) hgA).frozen hc1 hf1 (fun e => e)) hnB
    refine ⟨a', c', rfl, k1, kf, Lib.hid ⟨g', ⟨a', c', ?_, ?_, ?_, ?_⟩, ?_, ?_⟩⟩
    · rw [World.cell?_setCell_other _ _ _ _ (by simp)]; exact k0
    · rw [World.cell?_setCell_same _ _ _ k1]
      simp only [List.length_append, List.length_cons, List.length_take, List.length_drop]
      congr 2
      omega
    · simpa using kf
    · exact hW'.only (S := fun i => i = B) ((Only.refl (fun i => i = B) w').setCell (p := ⟨B, 1, none⟩) rfl _) (fun h => h)
    · have := hgA.size
      rcases hg' with h | h
      · exact .inl h
      · exact .inr (by omega)
    · exact ((hgA.only (S := fun i => i = B ∨ i = g)).trans hO fun i _ h => .inr h.1).setCell (.inl rfl) _
  have hsz1 : w1.heap.size = w.heap.size + 1 := by rw [← ew1]; simp
  have HFR : Hid (∀ W, Grew w1 W → W.frozen? ⟨B, 1, none⟩ = false ∧ B < W.heap.size ∧ w.heap.size < W.heap.size) := Lib.hid fun W hgW => ⟨(Grew.only (S := fun _ => False) (hg1.trans hgW)).frozen hc1 hf1 (fun e => e), by have := hgW.size; omega, by have := hgW.size; omega⟩
  have HEN := Lib.hid en
  clear hW hcap hlen hs hc0 hc1 hf1 hlt hv0 hv1 hg1 en hsz1
  unfold PutPost
  go_enter Tryd.func54, Tryd.ntmps54
  go_wp2_with (fail)
  go_region_held3 (fun W => Grew w1 W ∧ W.cell? ⟨B, 0, none⟩ = some (.func (.func 52) #[] #[]) ∧ W.cell? ⟨B, 1, none⟩ = some (.slice a n c) ∧ W.cell? ⟨w.heap.size, 0, none⟩ = some (.int .i64 x) ∧ W.cell? ⟨w.heap.size, 1, none⟩ = some (.int .i64 y))
    (first
      | exact HS0.out
      | assumption
      | exact HKP.out _ _ (by assumption) hgw
      | exact HKP.out _ _ (by assumption) ((Grew.refl _).drew))
    (first
      | (go_at_call 92; refine (HBS.out _ (And.left (by assumption))).mono ?_; rintro e w2 ⟨k, bb, rfl, hk, hkk, hgw⟩))
  have HS2 : Hid (Grew w1 w2 ∧ w2.cell? ⟨B, 0, none⟩ = some (.func (.func 52) #[] #[]) ∧ w2.cell? ⟨B, 1, none⟩ = some (.slice a n c) ∧ w2.cell? ⟨w.heap.size, 0, none⟩ = some (.int .i64 x) ∧ w2.cell? ⟨w.heap.size, 1, none⟩ = some (.int .i64 y)) := Lib.hid (by assumption)
  obtain ⟨hf2, hB2, hV2⟩ := HFR.out w2 HS2.out.1
  have hc2 := HS2.out.2.2.1
  have hx2 := HS2.out.2.2.2.1
  have hy2 := HS2.out.2.2.2.2
  have HI2 := Lib.hid (HIN.out w2.drew k HS2.out.1.drew hk)
  clear HKP HS0 HBS HIN HFR
  go_wp2
  go_region_with (go_at_call 93; refine HI2.out.mono ?_; rintro e w4 ⟨a', c', rfl, hc4, hf4, hQ4⟩)
  all_goals
    go_wp2
    go_end0
    obtain ⟨g', q1, q2, q3⟩ := hQ4.out
    exact ⟨rfl, k, g', by rw [HEN.out]; exact hk, hkk.out.1, hkk.out.2, q1, q2, q3⟩
end Go.Proofs.YtjibmfignifpcaaDoor
