/- The heights of water on raised ground, and on turned ground. -/
import Derived.Test.YthjnfkphlildaaaDoorShapes2
import Derived.Test.YthjnfkphlildaaaDoorRaised
import Derived.Test.YthjnfkphlildaaaDoorLawFlatsOf
namespace Go.Proofs.YthjnfkphlildaaaDoor
open Go.RowKit

theorem getD_up (p : List Int) (i : Nat) (hi : i < p.length) : (p.map fun x => x + 1).getD i 0 = p.getD i 0 + 1 := by simp [hi]
theorem Level.raise {n m : Nat} {p w : List Int} (W : Level n m p w) (hn : n ≤ 5) (hm : m ≤ 5) (hp : p.length = n * m) : Level n m (p.map fun x => x + 1) (w.map fun x => x + 1) := by
  have e1 : ∀ i, i < n * m → (p.map fun x => x + 1).getD i 0 = p.getD i 0 + 1 := fun i hi => getD_up p i (by omega)
  have e2 : ∀ i, i < n * m → (w.map fun x => x + 1).getD i 0 = w.getD i 0 + 1 := fun i hi => getD_up w i (by rw [W.len]; exact hi)
  refine ⟨by simp [W.len], fun i hi he => ?_, fun i hi k hk => ?_, fun i hi => ?_⟩
  · rw [e1 i hi, e2 i hi]
    have := W.edge i hi he
    omega
  · have hkN := around_lt hn hm hi hk
    rw [e1 i hi, e2 i hi, e2 k hkN]
    have := W.calm i hi k hk
    omega
  · rw [e2 i hi]
    exact (W.esc i hi).mono fun j hj h => by rw [e1 j hj]; omega
theorem fillL_raised {h : List (List Int)} (hg : vGrid h = true) (hr : vGrid (raisedL h) = true) : fillL (raisedL h) = raisedL (fillL h) := by
  have G := Grid.of hg
  have W := grid_level hg
  have e1 : (raisedL h).length = h.length := by simp [raisedL]
  have e2 : ((raisedL h).getD 0 []).length = (h.getD 0 []).length := by
    unfold raisedL
    rw [getD_map' _ _ 0 [] [] G.n1, List.length_map]
  have e3 : (raisedL h).flatten = h.flatten.map fun x => x + 1 := by
    rw [List.map_flatten, raisedL]
  rw [fillL_yes (n := h.length) (m := (h.getD 0 []).length) hr e1 e2 (by rw [e3]; exact W.raise G.n5 G.m5 (flat_grid_len G)), fillL_yes hg rfl rfl W, raisedL, shapeL_map]

/-- The place of a cell when rows are columns. -/
def tau (n m i : Nat) : Nat := (i % m) * n + i / m
def tauChk (n m i : Nat) : Bool := decide (tau n m i < m * n) && decide (tau m n (tau n m i) = i) && decide (edgeL m n (tau n m i) = edgeL n m i) && decide (tau n m i / n = i % m) && decide (tau n m i % n = i / m) && (aroundL n m i).all (fun k => decide (((tau n m k.toNat : Nat) : Int) ∈ aroundL m n (tau n m i)))
theorem tau_chk : ∀ n, n < 6 → ∀ m, m < 6 → ∀ i, i < 25 → (n * m ≤ i ∨ tauChk n m i = true) := by decide +kernel
structure TauF (n m i : Nat) : Prop where
  lt : tau n m i < m * n
  back : tau m n (tau n m i) = i
  edge : edgeL m n (tau n m i) = edgeL n m i
  row : tau n m i / n = i % m
  col : tau n m i % n = i / m
  nb : ∀ k : Nat, (k : Int) ∈ aroundL n m i → ((tau n m k : Nat) : Int) ∈ aroundL m n (tau n m i)
theorem tauF {n m i : Nat} (hn : n ≤ 5) (hm : m ≤ 5) (hi : i < n * m) : TauF n m i := by
  have h25 : i < 25 := Nat.lt_of_lt_of_le hi (Nat.mul_le_mul hn hm)
  rcases tau_chk n (by omega) m (by omega) i h25 with h | h
  · omega
  · simp only [tauChk, Bool.and_eq_true, List.all_eq_true, decide_eq_true_eq] at h
    obtain ⟨⟨⟨⟨⟨h1, h2⟩, h3⟩, h4⟩, h5⟩, h6⟩ := h
    exact ⟨h1, h2, h3, h4, h5, fun k hk => by have := h6 k hk; rwa [Int.toNat_natCast] at this⟩
theorem Esc.flip {n m i : Nat} {p q : List Int} {L : Int} (hn : n ≤ 5) (hm : m ≤ 5) (hq : ∀ j, j < n * m → q.getD (tau n m j) 0 = p.getD j 0) (h : Esc n m p L i) : Esc m n q L (tau n m i) := by
  induction h with
  | edge h1 h2 h3 => exact .edge (tauF hn hm h1).lt (by rw [(tauF hn hm h1).edge]; exact h2) (by rw [hq _ h1]; exact h3)
  | step h1 h2 h3 _ ih => exact .step (tauF hn hm h1).lt ((tauF hn hm h1).nb _ h2) (by rw [hq _ h1]; exact h3) ih
theorem Level.flip {n m : Nat} {p q w x : List Int} (W : Level n m p w) (hn : n ≤ 5) (hm : m ≤ 5) (hq : ∀ j, j < n * m → q.getD (tau n m j) 0 = p.getD j 0) (hx : ∀ j, j < n * m → x.getD (tau n m j) 0 = w.getD j 0) (hl : x.length = m * n) : Level m n q x := by
  have key : ∀ j, j < m * n → ∃ i, i < n * m ∧ tau n m i = j ∧ x.getD j 0 = w.getD i 0 ∧ q.getD j 0 = p.getD i 0 ∧ i = tau m n j := fun j hj => by
    have T := tauF (n := m) (m := n) hm hn hj
    refine ⟨tau m n j, T.lt, T.back, ?_, ?_, rfl⟩
    · have := hx _ T.lt; rwa [T.back] at this
    · have := hq _ T.lt; rwa [T.back] at this
  refine ⟨hl, fun j hj he => ?_, fun j hj k hk => ?_, fun j hj => ?_⟩
  · obtain ⟨i, hi, e, e1, e2, e3⟩ := key j hj
    rw [e1, e2]
    refine W.edge i hi ?_
    rw [← (tauF hn hm hi).edge, e]; exact he
  · obtain ⟨i, hi, e, e1, e2, e3⟩ := key j hj
    obtain ⟨i2, hi2, f, f1, f2, f3⟩ := key k (around_lt hm hn hj hk)
    rw [e1, e2, f1]
    refine W.calm i hi i2 ?_
    have := (tauF (n := m) (m := n) hm hn hj).nb k hk
    rw [e3, f3]; exact this
  · obtain ⟨i, hi, e, e1, e2, e3⟩ := key j hj
    rw [e1, ← e]
    exact (W.esc i hi).flip hn hm hq
/-- A grid turned, in one row. -/
theorem flip_at {h : List (List Int)} {m : Nat} (g : Grid h m) (i : Nat) (hi : i < h.length * m) : (flipL h).flatten.getD (tau h.length m i) 0 = h.flatten.getD i 0 := by
  have T := tauF g.n5 g.m5 hi
  have em : (h.getD 0 []).length = m := g.len 0 g.n1
  have F := flip_grid g
  have hr := div_lt_of _ _ i hi
  have hc := Nat.mod_lt i g.m1
  rw [flat_at F _ (by rw [flipL_len em]; exact T.lt), T.row, T.col, flipL_at em _ hc, getD_map' _ _ _ [] 0 hr, flat_at g i hi]
theorem fillL_flip {h : List (List Int)} (hg : vGrid h = true) : fillL (flipL h) = flipL (fillL h) := by
  have G := Grid.of hg
  have W := grid_level hg
  obtain ⟨A, eA, eF⟩ := fill_grid hg
  have F := flip_grid G
  have FA := flip_grid A
  have e1 : (flipL h).length = (h.getD 0 []).length := flipL_len rfl
  have e2 : ((flipL h).getD 0 []).length = h.length := F.len 0 F.n1
  have ea : ((fillL h).getD 0 []).length = (h.getD 0 []).length := A.len 0 A.n1
  have e3 : (flipL (fillL h)).length = (h.getD 0 []).length := flipL_len ea
  rw [eA] at FA
  have hl := flat_grid_len FA
  rw [e3] at hl
  have V : Level (h.getD 0 []).length h.length (flipL h).flatten (flipL (fillL h)).flatten := by
    refine W.flip G.n5 G.m5 (fun j hj => flip_at G j hj) (fun j hj => ?_) hl
    have := flip_at A j (by rw [eA]; exact hj)
    rw [eA, eF] at this
    exact this
  rw [fillL_yes F.to e1 e2 V]
  have := shape_flatten FA
  rw [e3] at this
  exact this
end Go.Proofs.YthjnfkphlildaaaDoor
