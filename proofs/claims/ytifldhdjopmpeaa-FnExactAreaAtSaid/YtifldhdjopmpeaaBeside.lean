/- The contract of impl.cellsBeside. -/
import Derived.Test.YtifldhdjopmpeaaBesideL
namespace Go.Proofs.Ytifldhdjopmpeaa
open Go.RowKit

theorem Try.infoB : (Try.prog.info? 3).map (fun i => (i.zero, i.size, i.bytes)) = some (some (.int .i64 0), 1, 8) := by kernel_rfl
/-- '==' between two arrays of two integers. -/
theorem run_equalIn_pair {P : Program} (w : World) (d : Nat) (t e : TypeId) (a b x y : Int) (i : TypeInfo) (ht : P.underlying t = some (.array 2 e)) (he : P.underlying e = some (.int .i64)) (hi : P.info? e = some i) (hs : i.size = 1) :
    (Op.equalIn (d + 2) t (.agg #[.int .i64 a, .int .i64 b]) (.agg #[.int .i64 x, .int .i64 y])).run P w = .ok ((a == x) && (b == y)) w := by
  rw [Op.equalIn]
  simp only [Sem.run_bind, run_underlying ht, Result.andThen_ok, sizeOf, typeInfo, run_program, hi]
  simp only [Sem.run_pure, Result.andThen_ok, hs]
  simp [part, List.range'_succ, List.forIn_cons, isAgg, run_underlying he, run_equalIn_int w d e .i64 .i64 a x he, run_equalIn_int w d e .i64 .i64 b y he]
  by_cases h1 : a = x <;> by_cases h2 : b = y <;> simp [h1, h2]
def stepCells : Array Value := #[.int .i64 (-1), .int .i64 0, .int .i64 0, .int .i64 (-1), .int .i64 0, .int .i64 1, .int .i64 1, .int .i64 0]
/-- The table of steps lies in block 0. -/
def Steps (w : World) : Prop := ∃ t, w.heap[0]? = some (.cells stepCells t (0, 0))
theorem Steps.grew {w w' : World} (h : Steps w) (hg : Grew w w') : Steps w' := by
  obtain ⟨t, ht⟩ := h
  exact ⟨t, (hg.block (Array.getElem?_eq_some_iff.1 ht).1).trans ht⟩

/-- New numbers in new memory; a value whose length is told. -/
def OwnI (w : World) (xs : List Int) (e : Ending) (w' : World) : Prop := ∃ a c, e = .returned (.slice a xs.length c) ∧ IntsO 3 w.heap.size w'.heap.size w' (.slice a xs.length c) xs ∧ Grew w w'


theorem beside_yes {n m I k r q : Nat} {xs : List Int} {dr dc tr tc : Int} (h : xs = besideL n m I k) (hin : inK n m I k = true) (hr : I / m = r) (hq : I % m = q) (h1 : stepR k = dr) (h2 : stepC k = dc) (h3 : (r : Int) + dr = tr) (h4 : (q : Int) + dc = tc) :
    xs ++ [tr * m + tc] = besideL n m I (k + 1) := by
  subst hr; subst hq; subst h1; subst h2; subst h3; subst h4
  rw [besideL, ← h, if_pos hin]
  rfl
theorem beside_no {n m I k : Nat} {xs : List Int} (h : xs = besideL n m I k) (hin : inK n m I k = false) : xs = besideL n m I (k + 1) := by
  rw [besideL, ← h, if_neg (by rw [hin]; exact Bool.false_ne_true), List.append_nil]

/-- What cellAfter answers. -/
def afterL (n m I k : Nat) (tr tc : Int) : Int := if inK n m I k = true then tr * m + tc else 0
def AfterPost (n m I k : Nat) (w : World) (e : Ending) (w' : World) : Prop := e = .returned (.tuple #[.int .i64 (if inK n m I k = true then ((I / m : Nat) + stepR k) * m + ((I % m : Nat) + stepC k) else 0), .bool (inK n m I k)]) ∧ Grew w w'


end Go.Proofs.Ytifldhdjopmpeaa
