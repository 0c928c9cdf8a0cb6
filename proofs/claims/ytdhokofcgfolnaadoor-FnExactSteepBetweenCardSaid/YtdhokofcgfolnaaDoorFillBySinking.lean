/- The contract of impl.FillBySinking. -/
import Derived.Test.YtdhokofcgfolnaaDoorSink
namespace Go.Proofs.YtdhokofcgfolnaaDoor
open Go.RowKit

/-- The heights, with MaxHeight on the cells before I that are not at the edge. -/
def topped (n m : Nat) (p : List Int) (I : Nat) (xs : List Int) : Prop := xs.length = n * m ∧ ∀ i, i < n * m → xs.getD i 0 = if i < I ∧ edgeL n m i = false then 12 else p.getD i 0
theorem topped_start {n m : Nat} {p : List Int} (h : p.length = n * m) : topped n m p 0 p := ⟨h, fun i _ => by rw [if_neg (by omega)]⟩
theorem topped_edge {n m I : Nat} {p xs : List Int} (h : topped n m p I xs) (he : edgeL n m I = true) : topped n m p (I + 1) xs :=
  ⟨h.1, fun i hi => by
    rw [h.2 i hi]
    by_cases e : i = I
    · subst e; rw [if_neg (by rw [he]; simp), if_neg (by rw [he]; simp)]
    · by_cases e2 : i < I ∧ edgeL n m i = false
      · rw [if_pos e2, if_pos ⟨by omega, e2.2⟩]
      · rw [if_neg e2, if_neg (fun h => e2 ⟨by omega, h.2⟩)]⟩
theorem topped_top {n m I : Nat} {p xs : List Int} (h : topped n m p I xs) (hI : I < n * m) (he : edgeL n m I = false) : topped n m p (I + 1) (xs.set I 12) :=
  ⟨by simp [h.1], fun i hi => by
    rw [getD_set _ _ _ _ (by rw [h.1]; exact hI)]
    by_cases e : i = I
    · subst e; rw [if_pos rfl, if_pos ⟨by omega, he⟩]
    · rw [if_neg e, h.2 i hi]
      by_cases e2 : i < I ∧ edgeL n m i = false
      · rw [if_pos e2, if_pos ⟨by omega, e2.2⟩]
      · rw [if_neg e2, if_neg (fun h => e2 ⟨by omega, h.2⟩)]⟩
theorem topped_sink {n m : Nat} {p xs : List Int} (h : topped n m p (n * m) xs) (hp : ∀ i, i < n * m → p.getD i 0 ≤ 12) : Sink n m p xs :=
  sink_start h.1 hp fun i hi => by
    rw [h.2 i hi]
    cases he : edgeL n m i with
    | true => rw [if_neg (by simp), if_pos rfl]
    | false => rw [if_pos ⟨hi, rfl⟩, if_neg (by simp)]

end Go.Proofs.YtdhokofcgfolnaaDoor
