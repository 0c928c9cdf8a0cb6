/- The contract of impl.ReadQuad. -/
import Derived.Test.YtlfoimjohdaofaaDoorGridOf
import Derived.Test.YtlfoimjohdaofaaDoorAs
import Derived.Lib.MinMax
namespace Go.Proofs.YtlfoimjohdaofaaDoor
open Go.RowKit

/-- H is the grid of r rows and c columns whose text is s. -/
def IsReadI (s : ByteArray) (r c : Int) (H : List (List Int)) : Prop := ∃ n m : Nat, r = n ∧ c = m ∧ ((1 ≤ n ∧ n ≤ 5) ∧ 1 ≤ m ∧ m ≤ 5) ∧ IsRead s n m H
/-- What a reader of texts by quarters answers. -/
def ReadX (s : ByteArray) (r c : Int) (w : World) (e : Ending) (w' : World) : Prop :=
  Grew w w' ∧ ((∃ v H, e = .returned (.tuple #[v, .bool true]) ∧ RowsO 28 3 w.heap.size w'.heap.size w' v H ∧ IsReadI s r c H) ∨ ((∀ H, ¬ IsReadI s r c H) ∧ e = .returned (.tuple #[.slice none 0 0, .bool false])))
theorem IsReadI.one {s : ByteArray} {r c : Int} {H K : List (List Int)} (h : IsReadI s r c H) (k : IsReadI s r c K) : H = K := by
  obtain ⟨n, m, rfl, rfl, -, h⟩ := h
  obtain ⟨n', m', e1, e2, -, k⟩ := k
  obtain rfl : n = n' := by omega
  obtain rfl : m = m' := by omega
  exact h.one k

set_option maxRecDepth 100000 in
set_option maxHeartbeats 4000000 in
theorem ReadQuad_any (s : ByteArray) (r c : Int) (w : World) (hr : -9223372036854775808 ≤ r ∧ r ≤ 9223372036854775807) (hc : -9223372036854775808 ≤ c ∧ c ≤ 9223372036854775807) (hE : ErrAs w) :
    Calls Tryd.prog 9 #[.string s, .int .i64 r, .int .i64 c] w (ReadX s r c w) := by
  have HPQ : Hid (∀ e w', ReadX s r c w e w' ↔ (Grew w w' ∧ ((∃ v H, e = .returned (.tuple #[v, .bool true]) ∧ RowsO 28 3 w.heap.size w'.heap.size w' v H ∧ IsReadI s r c H) ∨ ((∀ H, ¬ IsReadI s r c H) ∧ e = .returned (.tuple #[.slice none 0 0, .bool false]))))) := Lib.hid fun _ _ => Iff.rfl
  by_cases hg : (1 ≤ r ∧ r ≤ 5) ∧ 1 ≤ c ∧ c ≤ 5
  · obtain ⟨n, rfl⟩ : ∃ n : Nat, r = n := ⟨r.toNat, by omega⟩
    obtain ⟨m, rfl⟩ : ∃ m : Nat, c = m := ⟨c.toNat, by omega⟩
    have HB : Hid ((1 ≤ n ∧ n ≤ 5) ∧ 1 ≤ m ∧ m ≤ 5) := Lib.hid (by omega)
    have HGO := Lib.hid (gridOf_any s n m w HB.out.1.1 HB.out.1.2 HB.out.2.1 HB.out.2.2)
    unfold GridOfPost at HGO
    have h1 : decide (min (n : Int) (m : Int) < 1) = false := decide_eq_false (by omega)
    have h2 : decide (5 < max (n : Int) (m : Int)) = false := decide_eq_false (by omega)
    have HE := Lib.hid hE
    clear hr hc hg hE
    go_enter Tryd.func9, Tryd.ntmps9
    go_wp2_with (fail)
    refine HGO.out.mono ?_
    rintro e w1 ⟨hg1, hR⟩
    rcases hR with ⟨v, H, rfl, hO, hI⟩ | ⟨hN, rfl⟩
    · have HF : Hid (∀ C : Obj, Grew w (w1.alloc C) ∧ RowsO 28 3 w.heap.size (w1.alloc C).heap.size (w1.alloc C) v H ∧ IsReadI s (n : Int) (m : Int) H) := Lib.hid fun C => ⟨hg1.alloc C, (hO.grew ((Grew.refl w1).alloc C)).wide (Nat.le_refl _) ((Grew.refl w1).alloc C).size, n, m, rfl, rfl, HB.out, hI⟩
      clear hg1 hO hI h1 h2
      go_wp2_with (fail)
      refine (as_nil _ _).mono ?_
      rintro e w2 ⟨rfl, rfl⟩
      go_wp2
      go_ret2
      exact (HPQ.out _ _).2 ⟨(HF.out _).1, .inl ⟨_, _, rfl, (HF.out _).2⟩⟩
    · have HN : Hid (∀ H, ¬ IsReadI s (n : Int) (m : Int) H) := Lib.hid fun H ⟨n', m', e1, e2, _, h⟩ => hN H (by
        obtain rfl : n' = n := by omega
        obtain rfl : m' = m := by omega
        exact h)
      have HG1 := Lib.hid hg1
      clear hg1 hN h1 h2
      go_wp2_with (fail)
      have HE1 : Hid (∀ C : Obj, ErrAs (w1.alloc C)) := Lib.hid fun C => HE.out.grew (HG1.out.alloc C)
      refine (as_hit s ⟨w1.heap.size, 0, none⟩ (.string ⟨#[]⟩) _ (HE1.out _) (by simp) (by simp)).mono ?_
      rintro e w2 ⟨rfl, rfl⟩
      go_wp2
      go_ret2
      refine (HPQ.out _ _).2 ⟨?_, .inr ⟨HN.out, rfl⟩⟩
      exact ((((HG1.out.alloc _).alloc _).alloc _).alloc _).alloc _
  · have HN : Hid (∀ H, ¬ IsReadI s r c H) := Lib.hid fun H ⟨n, m, e1, e2, hb, _⟩ => hg (by omega)
    have h12 : (decide (min r c < 1) || decide (5 < max r c)) = true := by
      rw [Bool.or_eq_true, decide_eq_true_eq, decide_eq_true_eq]
      omega
    clear hg hr hc hE
    go_enter Tryd.func9, Tryd.ntmps9
    cases h1 : decide (min r c < 1) with
    | true =>
      go_wp2
      go_ret2
      exact (HPQ.out _ _).2 ⟨Grew.refl _, .inr ⟨HN.out, rfl⟩⟩
    | false =>
      have h2 : decide (5 < max r c) = true := by rw [h1] at h12; simpa using h12
      clear h12
      go_wp2
      go_ret2
      exact (HPQ.out _ _).2 ⟨Grew.refl _, .inr ⟨HN.out, rfl⟩⟩
end Go.Proofs.YtlfoimjohdaofaaDoor
