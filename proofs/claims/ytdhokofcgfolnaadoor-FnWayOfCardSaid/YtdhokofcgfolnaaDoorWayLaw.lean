/- What the least climbs keep: over a third cell, and back. -/
import Derived.Test.YtdhokofcgfolnaaDoorWays
import Derived.Test.YtdhokofcgfolnaaDoorCosts
namespace Go.Proofs.YtdhokofcgfolnaaDoor

section
variable {n m N : Nat} {p : List Int}
theorem Walk.append {ar : Nat → List Int} {s t i x k : Nat} {u v : Int} (h : Walk ar p upF s i x u) (g : Walk ar p upF t x k v) : Walk ar p upF (s + t) i k (u + v) := by
  induction h with
  | nil s i => rw [Int.zero_add]; exact g.le (by omega)
  | cons h1 _ ih =>
    have := Walk.cons (f := upF) h1 (ih g)
    rw [show ∀ a b c : Int, upF a (b + c) = upF a b + c from fun a b c => by unfold upF; omega] at this
    rw [Nat.add_right_comm]
    exact this
theorem Walk.back (hn : n ≤ 5) (hm : m ≤ 5) {s i k : Nat} {v : Int} (h : Walk (aroundL n m) p upF s i k v) (hi : i < n * m) : Walk (aroundL n m) p upF s k i (v - (p.getD k 0 - p.getD i 0)) := by
  induction h with
  | nil s i =>
    have := Walk.nil (ar := aroundL n m) (p := p) (f := upF) s i
    rwa [show (0 : Int) - (p.getD i 0 - p.getD i 0) = 0 by omega]
  | cons h1 _ ih =>
    have hj := around_lt hn hm hi h1
    have := (ih hj).snoc (around_back hn hm hi h1)
    rw [show ∀ (a b c v : Int), upF (b - a) v - (c - a) = v - (c - b) + max (a - b) 0 from fun a b c v => by unfold upF; omega]
    exact this
/-- All cells are joined. -/
theorem all_joined (hn : n ≤ 5) (hm : m ≤ 5) (hp : ∀ i, i < n * m → 0 ≤ p.getD i 0 ∧ p.getD i 0 ≤ 12) {i k : Nat} (hi : i < n * m) (hk : k < n * m) {J : Nat → Nat → Bool} (hJ : ∀ a b, a < n * m → b < n * m → J a b = true) : Reach n m J i k := by
  have h := ((passN_way hn hm hp hi hk).up (passN_top hn hm hp hi hk).2).2
  clear hk
  induction h with
  | refl => exact .refl
  | step h1 h2 h3 ih => exact .step ih h2 (hJ _ _ (h1.lt hn hm hi) (around_lt hn hm (h1.lt hn hm hi) h2))
theorem reach_walk {J : Nat → Nat → Bool} {i k : Nat} (h : Reach n m J i k) : ∃ s v, Walk (aroundL n m) p upF s i k v := by
  induction h with
  | refl => exact ⟨0, 0, .nil _ _⟩
  | step h1 h2 h3 ih =>
    obtain ⟨s, v, h4⟩ := ih
    exact ⟨s + 1, _, h4.snoc h2⟩

/-- The least climbs from i to k. -/
def climbN (n m : Nat) (p : List Int) (i k : Nat) : Int := costT (aroundL n m) p upF k (n * m) i
theorem around_in (hn : n ≤ 5) (hm : m ≤ 5) : ∀ i x, i < n * m → x ∈ aroundL n m i → 0 ≤ x ∧ x < (n * m : Nat) := fun i x hi hx => by
  obtain ⟨h1, h2, _⟩ := (around_facts hn hm (I := i) hi).1 _ hx
  omega
theorem climbN_least (hn : n ≤ 5) (hm : m ≤ 5) {i k : Nat} (hi : i < n * m) : Least (fun v => ∃ s, Walk (aroundL n m) p upF s i k v) (climbN n m p i k) := by
  have hst := short_still (p := p) (e := k) upF_rule up_short (around_in hn hm) (fun i x hx => around_nonneg hx)
  have hl := hst.least upF_rule (around_in hn hm) (fun i x hx => around_nonneg hx) i hi
  rwa [← hst.all (around_in hn hm) (n * m) (by omega) i hi] at hl
theorem climbN_walk (hn : n ≤ 5) (hm : m ≤ 5) (hp : ∀ i, i < n * m → 0 ≤ p.getD i 0 ∧ p.getD i 0 ≤ 12) {i k : Nat} (hi : i < n * m) (hk : k < n * m) : 0 ≤ climbN n m p i k ∧ (∃ s, Walk (aroundL n m) p upF s i k (climbN n m p i k)) ∧ ∀ s v, Walk (aroundL n m) p upF s i k v → climbN n m p i k ≤ v := by
  rcases climbN_least (p := p) (k := k) hn hm hi with ⟨_, h⟩ | ⟨h1, h2, h3⟩
  · obtain ⟨s, v, hw⟩ := reach_walk (p := p) (all_joined hn hm hp hi hk (J := fun _ _ => true) fun _ _ _ _ => rfl)
    exact absurd ⟨s, hw⟩ (h v)
  · exact ⟨h1, h2, fun s v hw => h3 v ⟨s, hw⟩⟩
theorem climbN_tri (hn : n ≤ 5) (hm : m ≤ 5) (hp : ∀ i, i < n * m → 0 ≤ p.getD i 0 ∧ p.getD i 0 ≤ 12) {i x k : Nat} (hi : i < n * m) (hx : x < n * m) (hk : k < n * m) : climbN n m p i k ≤ climbN n m p i x + climbN n m p x k := by
  obtain ⟨_, ⟨s, h1⟩, _⟩ := climbN_walk hn hm hp hi hx
  obtain ⟨_, ⟨t, h2⟩, _⟩ := climbN_walk hn hm hp hx hk
  exact (climbN_walk hn hm hp hi hk).2.2 _ _ (h1.append h2)
theorem climbN_back (hn : n ≤ 5) (hm : m ≤ 5) (hp : ∀ i, i < n * m → 0 ≤ p.getD i 0 ∧ p.getD i 0 ≤ 12) {i k : Nat} (hi : i < n * m) (hk : k < n * m) : climbN n m p k i = climbN n m p i k - (p.getD k 0 - p.getD i 0) := by
  obtain ⟨_, ⟨s, h1⟩, h2⟩ := climbN_walk hn hm hp hi hk
  obtain ⟨_, ⟨t, h3⟩, h4⟩ := climbN_walk hn hm hp hk hi
  have h5 := h4 _ _ (h1.back hn hm hi)
  have h6 := h2 _ _ (h3.back hn hm hk)
  omega
theorem climbN_self (hn : n ≤ 5) (hm : m ≤ 5) (hp : ∀ i, i < n * m → 0 ≤ p.getD i 0 ∧ p.getD i 0 ≤ 12) {i : Nat} (hi : i < n * m) : climbN n m p i i = 0 := by
  obtain ⟨h1, _, h2⟩ := climbN_walk hn hm hp hi hi
  have := h2 0 0 (.nil _ _)
  omega
theorem climbN_up (hn : n ≤ 5) (hm : m ≤ 5) (hp : ∀ i, i < n * m → 0 ≤ p.getD i 0 ∧ p.getD i 0 ≤ 12) {i k : Nat} (hi : i < n * m) : climbN n m p i k ≤ 300 := by
  have := (costT_up upF_rule (around_in hn hm) hp (e := k) (n * m) i hi).2
  have h25 : n * m ≤ 25 := Nat.mul_le_mul hn hm
  unfold climbN
  omega
end
end Go.Proofs.YtdhokofcgfolnaaDoor
