/- What the fewest steps keep. -/
import Derived.Test.YtdhokofcgfolnaaDoorWayLaw
import Derived.Test.YtdhokofcgfolnaaDoorFewest
namespace Go.Proofs.YtdhokofcgfolnaaDoor

/-- How far rows and columns are apart. -/
def apartL (m i k : Nat) : Int := max (((i / m : Nat) : Int) - (k / m : Nat)) (((k / m : Nat) : Int) - (i / m : Nat)) + max (((i % m : Nat) : Int) - (k % m : Nat)) (((k % m : Nat) : Int) - (i % m : Nat))
def edgeChk (n m I : Nat) : Bool := (aroundL n m I).all fun x => decide (apartL m I x.toNat ≤ 1)
theorem edge_chk : ∀ n, n < 6 → ∀ m, m < 6 → ∀ I, I < 25 → (n * m ≤ I ∨ edgeChk n m I = true) := by decide +kernel
section
variable {n m N : Nat} {p : List Int}
theorem edge_apart (hn : n ≤ 5) (hm : m ≤ 5) {i j : Nat} (hi : i < n * m) (hj : (j : Int) ∈ aroundL n m i) : apartL m i j ≤ 1 := by
  have h25 : n * m ≤ 25 := Nat.mul_le_mul hn hm
  rcases edge_chk n (by omega) m (by omega) i (by omega) with h | h
  · omega
  · have := List.all_eq_true.1 h _ hj
    simpa using this
theorem walk_apart (hn : n ≤ 5) (hm : m ≤ 5) {f : Int → Int → Int} {s i k : Nat} {v : Int} (h : Walk (aroundL n m) p f s i k v) (hi : i < n * m) : apartL m i k ≤ s := by
  induction h with
  | nil s i => unfold apartL; omega
  | cons h1 _ ih =>
    have h2 := ih (around_lt hn hm hi h1)
    have h3 := edge_apart hn hm hi h1
    unfold apartL at h2 h3 ⊢
    omega
/-- As many steps are enough both ways. -/
theorem enough_back (hn : n ≤ 5) (hm : m ≤ 5) (hp : ∀ i, i < n * m → 0 ≤ p.getD i 0 ∧ p.getD i 0 ≤ 12) {i k s : Nat} (hi : i < n * m) (hk : k < n * m) (h : costT (aroundL n m) p upF k s i = climbN n m p i k) : costT (aroundL n m) p upF i s k = climbN n m p k i := by
  have h0 : ∀ i x, x ∈ aroundL n m i → 0 ≤ x := fun i x hx => around_nonneg hx
  obtain ⟨c0, _, _⟩ := climbN_walk hn hm hp hi hk
  obtain ⟨d0, _, d2⟩ := climbN_walk hn hm hp hk hi
  rcases costT_least (p := p) upF_rule h0 k s i with ⟨g, _⟩ | ⟨_, g, _⟩
  · omega
  · rw [h] at g
    have hb := g.back hn hm hi
    rw [← climbN_back hn hm hp hi hk] at hb
    rcases costT_least (p := p) upF_rule h0 i s k with ⟨_, e⟩ | ⟨_, e1, e2⟩
    · exact absurd hb (e _)
    · have := e2 _ hb
      have := d2 _ _ e1
      omega
/-- The fewest steps from i to k. -/
def fewN (n m : Nat) (p : List Int) (i k : Nat) : Int := lastCh (aroundL n m) p k (n * m) i
theorem fewN_back (hn : n ≤ 5) (hm : m ≤ 5) (hp : ∀ i, i < n * m → 0 ≤ p.getD i 0 ∧ p.getD i 0 ≤ 12) {i k : Nat} (hi : i < n * m) (hk : k < n * m) : fewN n m p k i = fewN n m p i k := by
  have h0 : ∀ i x, x ∈ aroundL n m i → 0 ≤ x := fun i x hx => around_nonneg hx
  obtain ⟨r, h1, _, h3, h4⟩ := lastCh_spec (p := p) (e := k) h0 i (n * m)
  obtain ⟨q, g1, _, g3, g4⟩ := lastCh_spec (p := p) (e := i) h0 k (n * m)
  have a1 := enough_back hn hm hp hi hk h3
  have a2 := enough_back hn hm hp hk hi g3
  have b1 : ¬ r < q := fun h => g4 r h a1
  have b2 : ¬ q < r := fun h => h4 q h a2
  unfold fewN
  rw [h1, g1]
  omega
theorem fewN_apart (hn : n ≤ 5) (hm : m ≤ 5) (hp : ∀ i, i < n * m → 0 ≤ p.getD i 0 ∧ p.getD i 0 ≤ 12) {i k : Nat} (hi : i < n * m) (hk : k < n * m) : apartL m i k ≤ fewN n m p i k ∧ 0 ≤ fewN n m p i k := by
  have h0 : ∀ i x, x ∈ aroundL n m i → 0 ≤ x := fun i x hx => around_nonneg hx
  obtain ⟨r, h1, _, h3, h4⟩ := lastCh_spec (p := p) (e := k) h0 i (n * m)
  obtain ⟨c0, _, _⟩ := climbN_walk hn hm hp hi hk
  unfold fewN
  rw [h1]
  rcases costT_least (p := p) upF_rule h0 k r i with ⟨g, _⟩ | ⟨_, g, _⟩
  · unfold climbN at c0; omega
  · exact ⟨walk_apart hn hm g hi, by omega⟩
end
end Go.Proofs.YtdhokofcgfolnaaDoor
