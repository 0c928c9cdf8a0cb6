/- What the listed variable gives a walk: the table of steps lies in block 0; and a world that meets the condition. -/
import Derived.Test.YtaeenedjmakelaaDoorCode
import Derived.Test.YtaeenedjmakelaaDoorBeside
import Derived.LaidMore
import Derived.OpenVars
import Derived.Stop.Joined
import Derived.ChangeVars
namespace Go.Proofs.YtaeenedjmakelaaDoor
open Go.RowKit Go.ChangeShapes Go.WideShapes Go.ChangeAt

abbrev laid1 : List (String × DataW Unit) := [("loop.example/wateronheights/impl.steps", Rows.laid_loop_example_wateronheights_impl_steps)]
theorem gSteps : Tryd.prog.globalNamed "loop.example/wateronheights/impl.steps" = some 0 := by kernel_rfl
theorem tSteps : (Tryd.prog.globals[0]?).map (·.type) = some 98 := by kernel_rfl
theorem cPlace : Tryd.prog.cellsOf 97 = 2 := by kernel_rfl
theorem cSteps : Tryd.prog.cellsOf 98 = 8 := by kernel_rfl
theorem cInt : Tryd.prog.cellsOf 3 = 1 := by kernel_rfl

theorem door_met (os : Os) (args : Array Value) : laidMetH Tryd.prog laid1 ((World.doorLaid Tryd.prog 400 os).forCall (fun _ _ => 0) ⟨#[], args, []⟩).memory :=
  laidMetH_of_parts3 (fuel := 8) (laidMet_of_run' 8 (by kernel_rfl) (by kernel_rfl)) (by kernel_rfl) (by kernel_rfl)

theorem list2 {α : Type} {l : List α} (h : l.length = 2) : ∃ a b, l = [a, b] := by
  match l, h with
  | [a, b], _ => exact ⟨a, b, rfl⟩
theorem list4 {α : Type} {l : List α} (h : l.length = 4) : ∃ a b c d, l = [a, b, c, d] := by
  match l, h with
  | [a, b, c, d], _ => exact ⟨a, b, c, d, rfl⟩
theorem list8 {α : Type} {l : List α} (h : l.length = 8) : ∃ a b c d e f g i, l = [a, b, c, d, e, f, g, i] := by
  match l, h with
  | [a, b, c, d, e, f, g, i], _ => exact ⟨a, b, c, d, e, f, g, i, rfl⟩
set_option maxRecDepth 100000 in
/-- One place: two integers. -/
theorem place_cells {W : World} {fuel : Nat} {cs : List Value} {a b : Int} {p : List MemPlace} (h : DataW.trod (fun _ => ()) Tryd.prog W 0 (fun _ => true) false fuel 97 cs = some (.agg [.lit (.int .i64 a), .lit (.int .i64 b)], p)) :
    cs = [.int .i64 a, .int .i64 b] := by
  obtain ⟨xs, m, rfl, hx, hlen, hn, hel⟩ := DataW.trod_array Tryd.underlying97 h
  rw [cPlace] at hlen
  obtain ⟨c0, c1, rfl⟩ := list2 hlen
  obtain ⟨x0, x1, rfl⟩ := list2 hn
  have h0 := hel 0 (by decide)
  have h1 := hel 1 (by decide)
  simp only [Prod.mk.injEq, DataW.agg.injEq] at hx
  rw [cInt] at h0 h1
  obtain ⟨k0, e0, f0, _⟩ := DataW.trod_int Tryd.underlying3 (show DataW.trod _ Tryd.prog W 0 _ false m 3 _ = some x0 from h0)
  obtain ⟨k1, e1, f1, _⟩ := DataW.trod_int Tryd.underlying3 (show DataW.trod _ Tryd.prog W 0 _ false m 3 _ = some x1 from h1)
  subst f0
  subst f1
  simp at e0 e1 hx
  obtain ⟨⟨ha, hb⟩, _⟩ := hx
  subst ha
  subst hb
  rw [e0, e1]

set_option maxRecDepth 100000 in
theorem steps_of_laid {W : World} (h : laidMetH Tryd.prog laid1 W) : Steps W := by
  rw [MakeChecks.laidMetH_plain _ _ _ (by kernel_rfl)] at h
  obtain ⟨ps, ⟨g0, t0, cs0, f0, p0, q0, hg0, ht0, hv0, hd0, _, hps⟩, _, hz⟩ := h
  obtain rfl := Option.some.inj (gSteps.symm.trans hg0)
  obtain rfl := Option.some.inj (tSteps.symm.trans ht0)
  obtain ⟨xs, m, rfl, hx, hlen, hn, hel⟩ := DataW.trod_array Tryd.underlying98 hd0
  rw [cSteps] at hlen
  simp only [Prod.mk.injEq] at hx
  obtain ⟨l0⟩ := cs0
  obtain ⟨a0, a1, a2, a3, a4, a5, a6, a7, rfl⟩ := list8 (show l0.length = 8 from hlen)
  obtain ⟨x0, x1, x2, x3, rfl⟩ := list4 hn
  have k0 := hel 0 (by decide)
  have k1 := hel 1 (by decide)
  have k2 := hel 2 (by decide)
  have k3 := hel 3 (by decide)
  rw [cPlace] at k0 k1 k2 k3
  have hcell : ∃ c t, W.heap[0]? = some (.cells c t (0, 0)) := by
    refine hz 0 0 ?_ |>.1
    rw [hps]
    simp only [List.append_assoc, List.mem_append]
    left
    show MemPlace.cell 0 0 ∈ MemPlace.row ⟨0, 0, none⟩ 8
    decide
  obtain ⟨c, t, hc⟩ := hcell
  have hc2 : c = ⟨[a0, a1, a2, a3, a4, a5, a6, a7]⟩ := by
    unfold World.var? at hv0
    rw [gSteps] at hv0
    simp only [Option.bind_some, hc] at hv0
    exact Option.some.inj hv0
  subst hc2
  refine ⟨t, ?_⟩
  rw [hc]
  have hx' := hx.1
  unfold Rows.laid_loop_example_wateronheights_impl_steps at hx'
  simp only [DataW.agg.injEq, List.map_cons, List.map_nil, List.cons.injEq, and_true] at hx'
  obtain ⟨d0, d1, d2, d3⟩ := hx'
  obtain ⟨y0, z0⟩ := x0
  obtain ⟨y1, z1⟩ := x1
  obtain ⟨y2, z2⟩ := x2
  obtain ⟨y3, z3⟩ := x3
  simp only at d0 d1 d2 d3
  subst d0 d1 d2 d3
  have e0 := place_cells (show DataW.trod _ Tryd.prog W 0 _ false m 97 [a0, a1] = some _ from k0)
  have e1 := place_cells (show DataW.trod _ Tryd.prog W 0 _ false m 97 [a2, a3] = some _ from k1)
  have e2 := place_cells (show DataW.trod _ Tryd.prog W 0 _ false m 97 [a4, a5] = some _ from k2)
  have e3 := place_cells (show DataW.trod _ Tryd.prog W 0 _ false m 97 [a6, a7] = some _ from k3)
  simp only [List.cons.injEq, and_true] at e0 e1 e2 e3
  obtain ⟨rfl, rfl⟩ := e0
  obtain ⟨rfl, rfl⟩ := e1
  obtain ⟨rfl, rfl⟩ := e2
  obtain ⟨rfl, rfl⟩ := e3
  rfl
end Go.Proofs.YtaeenedjmakelaaDoor
