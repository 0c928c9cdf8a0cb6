/- What two listed variables give a walk: both tables lie where they are laid; and a world that meets the condition. -/
import Derived.Test.YtdfnhodhdfhhcaaDoorTied
import Derived.Test.YtdfnhodhdfhhcaaDoorTouching
import Derived.Test.YtdfnhodhdfhhcaaDoorPiecesT
import Derived.OpenShut
namespace Go.Proofs.YtdfnhodhdfhhcaaDoor
open Go.RowKit Go.ChangeShapes Go.WideShapes Go.ChangeAt

abbrev laid2 : List (String × DataW Unit) := [("loop.example/wateronheights/impl.steps", Rows.laid_loop_example_wateronheights_impl_steps), ("loop.example/wateronheights/impl.cornerSteps", Rows.laid_loop_example_wateronheights_impl_cornerSteps)]
theorem gCorn : Tryd.prog.globalNamed "loop.example/wateronheights/impl.cornerSteps" = some 1 := by kernel_rfl
theorem tCorn : (Tryd.prog.globals[1]?).map (·.type) = some 59 := by kernel_rfl
theorem door_met2 (os : Os) (args : Array Value) : laidMetH Tryd.prog laid2 ((World.doorLaid Tryd.prog 400 os).forCall (fun _ _ => 0) ⟨#[], args, []⟩).memory :=
  laidMetH_of_parts3 (fuel := 8) (laidMet_of_run' 8 (by kernel_rfl) (by kernel_rfl)) (by kernel_rfl) (by kernel_rfl)
set_option maxRecDepth 100000 in
theorem steps_of_laid2 {W : World} (h : laidMetH Tryd.prog laid2 W) : Tc.Steps W := by
  rw [MakeChecks.laidMetH_plain _ _ _ (by kernel_rfl)] at h
  obtain ⟨ps, ⟨g0, t0, cs0, f0, p0, q0, hg0, ht0, hv0, hd0, ⟨g1, t1, cs1, f1, p1, q1, hg1, ht1, hv1, hd1, _, hps1⟩, hps⟩, _, hz⟩ := h
  have h0 : Go.Proofs.YtdfnhodhdfhhcaaDoor.Steps W := by
      obtain rfl := Option.some.inj (gSteps.symm.trans hg0)
      obtain rfl := Option.some.inj (tSteps.symm.trans ht0)
      obtain ⟨xs, m, rfl, hx, hlen, hn, hel⟩ := DataW.trod_array Tryd.underlying59 hd0
      rw [cSteps] at hlen
      simp only [Prod.mk.injEq] at hx
      obtain ⟨l0⟩ := cs0
      obtain ⟨a0, a1, a2, a3, a4, a5, a6, a7, rfl⟩ := list8 (show l0.length = 8 from hlen)
      obtain ⟨x0, x1, x2, x3, rfl⟩ := list4 hn
      have k0 := hel 0 (by decide)
      have k1 := hel 1 (by decide)
      have k2 := hel 2 (by decide)
      have k3 := hel 3 (by decide)
      rw [cPlace] at k0 k1 k2 k3
      have hcell : ∃ c t, W.heap[0]? = some (.cells c t (0, 0)) := by
        refine hz 0 0 ?_ |>.1
        rw [hps]
        simp only [List.append_assoc, List.mem_append]
        left
        show MemPlace.cell 0 0 ∈ MemPlace.row ⟨0, 0, none⟩ 8
        decide
      obtain ⟨c, t, hc⟩ := hcell
      have hc2 : c = ⟨[a0, a1, a2, a3, a4, a5, a6, a7]⟩ := by
        unfold World.var? at hv0
        rw [gSteps] at hv0
        simp only [Option.bind_some, hc] at hv0
        exact Option.some.inj hv0
      subst hc2
      refine ⟨t, ?_⟩
      rw [hc]
      have hx' := hx.1
      unfold Rows.laid_loop_example_wateronheights_impl_steps at hx'
      simp only [DataW.agg.injEq, List.map_cons, List.map_nil, List.cons.injEq, and_true] at hx'
      obtain ⟨d0, d1, d2, d3⟩ := hx'
      obtain ⟨y0, z0⟩ := x0
      obtain ⟨y1, z1⟩ := x1
      obtain ⟨y2, z2⟩ := x2
      obtain ⟨y3, z3⟩ := x3
      simp only at d0 d1 d2 d3
      subst d0 d1 d2 d3
      have e0 := place_cells (show DataW.trod _ Tryd.prog W 0 _ false m 58 [a0, a1] = some _ from k0)
      have e1 := place_cells (show DataW.trod _ Tryd.prog W 0 _ false m 58 [a2, a3] = some _ from k1)
      have e2 := place_cells (show DataW.trod _ Tryd.prog W 0 _ false m 58 [a4, a5] = some _ from k2)
      have e3 := place_cells (show DataW.trod _ Tryd.prog W 0 _ false m 58 [a6, a7] = some _ from k3)
      simp only [List.cons.injEq, and_true] at e0 e1 e2 e3
      obtain ⟨rfl, rfl⟩ := e0
      obtain ⟨rfl, rfl⟩ := e1
      obtain ⟨rfl, rfl⟩ := e2
      obtain ⟨rfl, rfl⟩ := e3
      rfl
  have h1 : Tc.Corners W := by
      obtain rfl := Option.some.inj (gCorn.symm.trans hg1)
      obtain rfl := Option.some.inj (tCorn.symm.trans ht1)
      obtain ⟨xs, m, rfl, hx, hlen, hn, hel⟩ := DataW.trod_array Tryd.underlying59 hd1
      rw [cSteps] at hlen
      simp only [Prod.mk.injEq] at hx
      obtain ⟨l0⟩ := cs1
      obtain ⟨a0, a1, a2, a3, a4, a5, a6, a7, rfl⟩ := list8 (show l0.length = 8 from hlen)
      obtain ⟨x0, x1, x2, x3, rfl⟩ := list4 hn
      have k0 := hel 0 (by decide)
      have k1 := hel 1 (by decide)
      have k2 := hel 2 (by decide)
      have k3 := hel 3 (by decide)
      rw [cPlace] at k0 k1 k2 k3
      have hcell : ∃ c t, W.heap[1]? = some (.cells c t (0, 0)) := by
        refine hz 1 0 ?_ |>.1
        rw [hps, hps1]
        simp only [List.append_assoc, List.mem_append]
        right
        right
        left
        show MemPlace.cell 1 0 ∈ MemPlace.row ⟨1, 0, none⟩ 8
        decide
      obtain ⟨c, t, hc⟩ := hcell
      have hc2 : c = ⟨[a0, a1, a2, a3, a4, a5, a6, a7]⟩ := by
        unfold World.var? at hv1
        rw [gCorn] at hv1
        simp only [Option.bind_some, hc] at hv1
        exact Option.some.inj hv1
      subst hc2
      refine ⟨t, ?_⟩
      rw [hc]
      have hx' := hx.1
      unfold Rows.laid_loop_example_wateronheights_impl_cornerSteps at hx'
      simp only [DataW.agg.injEq, List.map_cons, List.map_nil, List.cons.injEq, and_true] at hx'
      obtain ⟨d0, d1, d2, d3⟩ := hx'
      obtain ⟨y0, z0⟩ := x0
      obtain ⟨y1, z1⟩ := x1
      obtain ⟨y2, z2⟩ := x2
      obtain ⟨y3, z3⟩ := x3
      simp only at d0 d1 d2 d3
      subst d0 d1 d2 d3
      have e0 := place_cells (show DataW.trod _ Tryd.prog W 0 _ false m 58 [a0, a1] = some _ from k0)
      have e1 := place_cells (show DataW.trod _ Tryd.prog W 0 _ false m 58 [a2, a3] = some _ from k1)
      have e2 := place_cells (show DataW.trod _ Tryd.prog W 0 _ false m 58 [a4, a5] = some _ from k2)
      have e3 := place_cells (show DataW.trod _ Tryd.prog W 0 _ false m 58 [a6, a7] = some _ from k3)
      simp only [List.cons.injEq, and_true] at e0 e1 e2 e3
      obtain ⟨rfl, rfl⟩ := e0
      obtain ⟨rfl, rfl⟩ := e1
      obtain ⟨rfl, rfl⟩ := e2
      obtain ⟨rfl, rfl⟩ := e3
      rfl
  exact ⟨h0, h1⟩
end Go.Proofs.YtdfnhodhdfhhcaaDoor
