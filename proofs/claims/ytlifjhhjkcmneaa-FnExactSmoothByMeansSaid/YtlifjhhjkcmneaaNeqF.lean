/- Fractions compared by == and !=. -/
import Derived.Test.YtlifjhhjkcmneaaFr
import Derived.Laws.StructEq
namespace Go.Proofs.Ytlifjhhjkcmneaa
open Go.RowKit

theorem fracFields : Try.prog.underlying 29 = some (.struct (Try.prog.fieldsOf 29)) := by
  unfold Program.fieldsOf
  rw [Try.underlying29]
theorem eqInF (x1 x2 y1 y2 : Int) (W : World) : (Op.equalIn 10000 29 (.agg #[.int .i64 x1, .int .i64 x2]) (.agg #[.int .i64 y1, .int .i64 y2])).run Try.prog W = .ok (decide ((x1, x2) = (y1, y2))) W := by
  rw [run_equalIn_agg W 9999 _ _ _ fracFields (by kernel_rfl)]
  have h3 := Try.underlying3
  have ha : ∀ W, (isAgg 3).run Try.prog W = .ok false W := fun W => by simp [isAgg, run_underlying h3]
  unfold Program.fieldsOf
  rw [Try.underlying29]
  have e1 := run_equalIn_int (P := Try.prog)  W 9998 3 .i64 .i64 x1 y1 h3
  have e2 := run_equalIn_int (P := Try.prog)  W 9998 3 .i64 .i64 x2 y2 h3
  have hd : decide ((x1, x2) = (y1, y2)) = ((x1 == y1) && (x2 == y2)) := by
    by_cases hx : x1 = y1 <;> by_cases hy : x2 = y2 <;> simp [hx, hy]
  rw [hd]
  cases hx : x1 == y1
  · rw [hx] at e1
    simp [Op.eqFields, part, ha, e1]
  · rw [hx] at e1
    simp [Op.eqFields, part, ha, e1, e2]
    by_cases hy : x2 = y2 <;> simp [hy]
theorem neqFr (x1 x2 y1 y2 : Int) (W : World) : (binOp .neq 29 (.agg #[.int .i64 x1, .int .i64 x2]) (.agg #[.int .i64 y1, .int .i64 y2])).run Try.prog W = .ok (.bool (!decide ((x1, x2) = (y1, y2)))) W := by
  rw [run_neq_struct, eqInF]
  rfl
theorem eqlFr (x1 x2 y1 y2 : Int) (W : World) : (binOp .eql 29 (.agg #[.int .i64 x1, .int .i64 x2]) (.agg #[.int .i64 y1, .int .i64 y2])).run Try.prog W = .ok (.bool (decide ((x1, x2) = (y1, y2)))) W := by
  rw [run_eql_struct, eqInF]
  rfl
theorem guardFr (op : BinOp) (x y : Operand) (xs ys : Array Value) (W : World) : (eqGuard op 29 x y (.agg xs) (.agg ys)).run Try.prog W = .ok () W := run_eqGuard_agg W op _ x y xs ys (by kernel_rfl)
end Go.Proofs.Ytlifjhhjkcmneaa
