/- The contract of impl.SmoothUp. -/
import Derived.Test.YtlifjhhjkcmneaaRepeatF
import Derived.Test.YtlifjhhjkcmneaaMustJ
import Derived.Test.YtlifjhhjkcmneaaHeldMono
import Derived.Test.YtlifjhhjkcmneaaSStack
namespace Go.Proofs.Ytlifjhhjkcmneaa
open Go.RowKit

set_option maxRecDepth 100000 in
set_option maxHeartbeats 8000000 in
theorem SmoothUp_any (v : Value) (p : List Int) (w : World) (hv : IntsV w v p) :
    Calls Try.prog 18 #[v] w (FracPost w (stackX p)) := by
  have HV := Lib.hid (ValidProfile_any v p w hv)
  unfold stackX
  cases hp : vProf p with
  | false =>
    obtain ⟨a, b, o, c, rfl, _, _, _⟩ := hv.shape
    have HP := Lib.hid hp
    clear hp hv
    go_enter Try.func18, Try.ntmps18
    go_wp2_with (fail)
    refine HV.out.mono ?_
    rw [HP.out]
    rintro e w1 ⟨rfl, rfl⟩
    go_wp2
    go_ret
    exact ⟨_, rfl, FrO.nil _ _ _ _, Grew.refl _⟩
  | true =>
    have HP := Lib.hid hp
    have hvp := (vProf_iff p).1 hp
    have h1 := hvp.1
    have h9 := hvp.2.1
    have HB := Lib.hid hvp.2.2
    have HG := Lib.hid (stackP_good hp)
    have HBL := Lib.hid (blocksOf_any v p w hv (by omega))
    obtain ⟨ap, bp, op, cp, rfl, _, _, _⟩ := hv.shape
    clear hp hv hvp
    go_enter Try.func18, Try.ntmps18
    go_wp2_with (fail)
    refine HV.out.mono ?_
    rw [HP.out]
    rintro e w1 ⟨rfl, rfl⟩
    go_wp2_with (fail)
    refine HBL.out.mono ?_
    rintro e w2 ⟨a2, c2, rfl, hO2, hg2⟩
    have hbl := blkL_len p
    obtain ⟨g2, c2', e2, _⟩ := hO2.pos (by rw [hbl]; omega)
    rw [hbl] at e2
    simp only [Value.slice.injEq] at e2
    obtain ⟨rfl, _, rfl⟩ := e2
    have H2 := Lib.hid (And.intro hO2 hg2)
    clear hO2 hg2 hbl HBL
    go_wp2
    go_loopw [3, 16] (fun sv iv wr => ∃ (k m : Nat) (sa : Option Addr) (c : Nat), sv = .slice sa m c ∧ iv = .int .i64 k ∧ k ≤ p.length ∧ Hid (FrO 56 w2.heap.size wr.heap.size wr sv (stackP p k) ∧ (stackP p k).length = m ∧ Grew w2 wr)) (fun _ iv _ => p.length - (intOf iv).toNat)
    case atStart => exact ⟨0, 0, none, 0, rfl, rfl, Nat.zero_le _, FrO.nil _ _ _ _, rfl, Grew.refl _⟩
    case round =>
      obtain ⟨k, m0, sa, c, rfl, rfl, hk, HI⟩ := hrel
      obtain ⟨wo, rfl⟩ : ∃ wo : World, wo = wr := ⟨_, rfl⟩
      by_cases hlt : k < p.length
      · have r1 : (k : Int) < p.length := by omega
        have r2 : (0 : Int) ≤ k := by omega
        have hck := H2.out.1.at rfl (i := k) (by rw [blkL_len]; exact hlt)
        have hbv : (blkL p).getD k (0, 0) = (p.getD k 0, 1) := by simp [blkL, hlt]
        rw [hbv] at hck
        have hcp1 := HI.out.2.2.cell hck.1
        have hcp2 := HI.out.2.2.cell hck.2.1
        have hbk := HB.out k hlt
        obtain ⟨L, eL⟩ : ∃ L, stackP p k = L := ⟨_, rfl⟩
        have hnx : stackP p (k + 1) = pushN L m0 (p.getD k 0, 1) := by
          show pushN (stackP p k) (stackP p k).length _ = _
          rw [eL, ← HI.out.2.1, eL]
        have hgL := HG.out k hk
        rw [eL] at hgL
        have HIL : Hid (FrO 56 w2.heap.size wo.heap.size wo (.slice sa m0 c) L ∧ L.length = m0 ∧ Grew w2 wo) := by rw [← eL]; exact HI.out
        have hm9 : m0 ≤ 9 := by have := goodL_len hgL; have := HIL.out.2.1; omega
        obtain ⟨x, ex⟩ : ∃ x, p.getD k 0 = x := ⟨_, rfl⟩
        rw [ex] at hcp1 hbk hnx
        obtain ⟨R, eR⟩ : ∃ R, stackP p (k + 1) = R := ⟨_, rfl⟩
        rw [eR] at hnx
        have HER := Lib.hid eR
        have HGL := Lib.hid hgL
        have hB0 : Hid ((wo.alloc (.cells #[.int .i64 x, .int .i64 1] 56)).heap[wo.heap.size]? = some (.cells #[.int .i64 x, .int .i64 1] 56 (0, 0)) ∧ pushN L m0 (x, 1) = R ∧ okB (x, 1) ∧ sizeT L m0 + 1 = ((k + 1 : Nat) : Int) ∧ Grew wo (wo.alloc (.cells #[.int .i64 x, .int .i64 1] 56))) :=
          ⟨heap_alloc_new wo _, hnx.symm, ⟨by simp only; omega, Int.le_refl _⟩, by have := hgL.2; rw [HIL.out.2.1] at this; rw [this]; omega, (Grew.refl wo).alloc _⟩
        have w0' : IntKind.i64.wrap ((m0 : Int) - 1) = (m0 : Int) - 1 := wrap_12 _ (by omega) (by omega)
        clear eL hnx hgL ex eR HI hck hbv
        go_wp2
        go_loopw [3, 6] (fun lv nv wr => ∃ (m : Nat) (b : Int × Int) (j : Int), lv = .slice sa m c ∧ nv = .int .i64 j ∧ j = (m : Int) - 1 ∧ m ≤ m0 ∧ Hid (wr.heap[wo.heap.size]? = some (.cells #[.int .i64 b.1, .int .i64 b.2] 56 (0, 0)) ∧ pushN L m b = R ∧ okB b ∧ sizeT L m + b.2 = ((k + 1 : Nat) : Int) ∧ Grew wo wr)) (fun lv _ _ => match lv with | .slice _ n _ => n | _ => 0)
        case atStart => exact ⟨m0, (x, 1), (m0 : Int) - 1, rfl, rfl, rfl, Nat.le_refl _, hB0.out⟩
        case round =>
          clear hB0 w0'
          obtain ⟨m, b, j, rfl, rfl, hj, hm, HJ⟩ := hrel
          have hB := HJ.out.1
          have hbo := HJ.out.2.2.1
          have hsz := HJ.out.2.2.2.1
          have hge := sizeT_ge L m fun j hj => HGL.out.1 j (by have := HIL.out.2.1; omega)
          obtain ⟨b1, b2⟩ := b
          unfold okB at hbo
          simp only at hB hbo hsz
          have hb1 : wr.cell? ⟨wo.heap.size, 0, none⟩ = some (.int .i64 b1) := by simp [World.cell?, hB]
          have hb2 : wr.cell? ⟨wo.heap.size, 1, none⟩ = some (.int .i64 b2) := by simp [World.cell?, hB]
          have hbl : wo.heap.size < wr.heap.size := (Array.getElem?_eq_some_iff.1 hB).1
          have hbd : (0 ≤ b1 ∧ b1 ≤ 108) ∧ 1 ≤ b2 ∧ b2 ≤ 9 := by omega
          have HBD := Lib.hid hbd
          have HHB := Lib.hid hB
          have HHJ := Lib.hid hj
          clear hB hbo hsz hge hbd hj
          rcases Nat.eq_zero_or_pos m with hm0 | hmp
          · obtain rfl : j = -1 := by have := HHJ.out; omega
            have HM0 := Lib.hid hm0
            have hm09 : m + 1 ≤ 9 := by omega
            have hpn : L.take m ++ [(b1, b2)] = R := by have := HJ.out.2.1; rw [hm0] at this ⊢; exact this
            have HPN := Lib.hid hpn
            have HLT : Hid ((L.take m).length = m) := Lib.hid (by rw [hm0]; rfl)
            clear hpn hm0
            go_wp2
            refine wp_region_noPanic ?_
            refine wp_region_held_drew (S := fun W => Grew wr W) (by kernel_rfl) (by exact (Grew.refl wr).drew) (fun hHeld => ?_)
            refine wpAnyH_take (i := 0) (oi := { dst := some 23, op := Op.move (Operand.tmp 6), type := 3, pos := _, after := #[], guard := none }) (v := ?_) rfl (by kernel_rfl) (by kernel_rfl) (by kernel_rfl) (fun _ _ _ h => h) (Or.inl ⟨by rfl, ?hy⟩) (by assumption) ?_
            case hy => (intro w hSw; (try dsimp only at hSw); go_simp; try with_reducible rfl)
            try simp only [Act.put, List.setIfInBounds_toArray, List.set_cons_zero, List.set_cons_succ]
            refine wpAnyH_take (i := 1) (oi := { dst := some 24, op := Op.binOp BinOp.geq 3 (Operand.tmp 23) (Operand.const (Value.int IntKind.i64 0)) 3, type := 4, pos := _, after := #[{ on := 0, ground := Ground.data }], guard := none }) (v := .bool false) rfl (by kernel_rfl) (by kernel_rfl) (by kernel_rfl) (fun _ _ _ h => h) (Or.inl ⟨by rfl, ?hy⟩) (by assumption) ?_
            case hy => (intro w hSw; (try dsimp only at hSw); go_simp <;> (try with_reducible rfl) <;> (try simp [*]))
            try simp only [Act.put, List.setIfInBounds_toArray, List.set_cons_zero, List.set_cons_succ]
            refine wpAnyH_take (i := 2) (oi := { dst := some 25, op := Op.move (Operand.tmp 24), type := 4, pos := _, after := #[{ on := 1, ground := Ground.data }], guard := none }) (v := ?_) rfl (by kernel_rfl) (by kernel_rfl) (by kernel_rfl) (fun _ _ _ h => h) (Or.inl ⟨by rfl, ?hy⟩) (by assumption) ?_
            case hy => (intro w hSw; (try dsimp only at hSw); go_simp; try with_reducible rfl)
            try simp only [Act.put, List.setIfInBounds_toArray, List.set_cons_zero, List.set_cons_succ]
            refine wpAnyH_take (i := 3) (oi := { dst := some 26, op := Op.move (Operand.tmp 3), type := 53, pos := _, after := #[{ on := 2, ground := Ground.guard }], guard := some (2, true) }) (v := undef) rfl (by kernel_rfl) (by kernel_rfl) (by kernel_rfl) (fun _ _ _ h => h) (Or.inr ⟨by rfl, rfl⟩) (by assumption) ?_
            try simp only [Act.put, List.setIfInBounds_toArray, List.set_cons_zero, List.set_cons_succ]
            refine wpAnyH_take (i := 4) (oi := { dst := some 27, op := Op.move (Operand.tmp 6), type := 3, pos := _, after := #[{ on := 2, ground := Ground.guard }], guard := some (2, true) }) (v := undef) rfl (by kernel_rfl) (by kernel_rfl) (by kernel_rfl) (fun _ _ _ h => h) (Or.inr ⟨by rfl, rfl⟩) (by assumption) ?_
            try simp only [Act.put, List.setIfInBounds_toArray, List.set_cons_zero, List.set_cons_succ]
            refine wpAnyH_take (i := 5) (oi := { dst := some 28, op := Op.indexAddr 53 (Operand.tmp 26) (Operand.tmp 27), type := 0, pos := _, after := #[{ on := 3, ground := Ground.data }, { on := 4, ground := Ground.data }, { on := 2, ground := Ground.guard }], guard := some (2, true) }) (v := undef) rfl (by kernel_rfl) (by kernel_rfl) (by kernel_rfl) (fun _ _ _ h => h) (Or.inr ⟨by rfl, rfl⟩) (by assumption) ?_
            try simp only [Act.put, List.setIfInBounds_toArray, List.set_cons_zero, List.set_cons_succ]
            refine wpAnyH_take (i := 6) (oi := { dst := some 29, op := Op.load 56 (Operand.tmp 28), type := 56, pos := _, after := #[{ on := 5, ground := Ground.data }, { on := 2, ground := Ground.guard }], guard := some (2, true) }) (v := undef) rfl (by kernel_rfl) (by kernel_rfl) (by kernel_rfl) (fun _ _ _ h => h) (Or.inr ⟨by rfl, rfl⟩) (by assumption) ?_
            try simp only [Act.put, List.setIfInBounds_toArray, List.set_cons_zero, List.set_cons_succ]
            refine wpAnyH_take (i := 7) (oi := { dst := some 30, op := Op.load 56 (Operand.tmp 5), type := 56, pos := _, after := #[{ on := 2, ground := Ground.guard }], guard := some (2, true) }) (v := undef) rfl (by kernel_rfl) (by kernel_rfl) (by kernel_rfl) (fun _ _ _ h => h) (Or.inr ⟨by rfl, rfl⟩) (by assumption) ?_
            try simp only [Act.put, List.setIfInBounds_toArray, List.set_cons_zero, List.set_cons_succ]
            refine wpAnyH_take (i := 8) (oi := { dst := some 31, op := Op.call { callee := Callee.value (Operand.func 56), args := #[Operand.tmp 29, Operand.tmp 30], argTypes := #[56, 56] }, type := 4, pos := _, after := #[{ on := 6, ground := Ground.data }, { on := 7, ground := Ground.data }, { on := 2, ground := Ground.chain }, { on := 2, ground := Ground.guard }], guard := some (2, true) }) (v := undef) rfl (by kernel_rfl) (by kernel_rfl) (by kernel_rfl) (fun _ _ _ h => h) (Or.inr ⟨by rfl, rfl⟩) (by assumption) ?_
            try simp only [Act.put, List.setIfInBounds_toArray, List.set_cons_zero, List.set_cons_succ]
            refine wpAnyH_take (i := 9) (oi := { dst := some 32, op := Op.pick (Operand.tmp 25) (Operand.tmp 31) (Operand.const (Value.bool false)), type := 4, pos := _, after := #[{ on := 2, ground := Ground.data }, { on := 8, ground := Ground.data }], guard := none }) (v := ?_) rfl (by kernel_rfl) (by kernel_rfl) (by kernel_rfl) (fun _ _ _ h => h) (Or.inl ⟨by rfl, ?hy⟩) (by assumption) ?_
            case hy => (intro w hSw; (try dsimp only at hSw); go_simp; try with_reducible rfl)
            try simp only [Act.put, List.setIfInBounds_toArray, List.set_cons_zero, List.set_cons_succ]
            refine wpAnyH_done (by kernel_rfl) ?_ _
            refine NoPanic.normal ?_
            generalize hW5 : wr.drew = w5
            have hG5 : Grew wr w5 := by rw [← hW5]; exact (Grew.refl _).drew
            have hB5 : w5.heap[wo.heap.size]? = some (.cells #[.int .i64 b1, .int .i64 b2] 56 (0, 0)) := by rw [hG5.block hbl]; exact HHB.out
            have HG5o := Lib.hid (HJ.out.2.2.2.2.trans hG5)
            have hO5' := (HIL.out.1.init m (by rw [HM0.out]; exact Nat.zero_le _)).grew HG5o.out
            have HO5 := Lib.hid (hO5'.wide (Nat.le_refl _) HG5o.out.size)
            have hsz5 : w2.heap.size ≤ w5.heap.size := (HIL.out.2.2.trans HG5o.out).size
            have w9' : IntKind.i64.wrap ((k : Int) + 1) = (k : Int) + 1 := wrap_12 _ (by omega) (by omega)
            clear hb1 hb2 hbl hHeld hO5' hG5 hW5
            have hb1 : w5.cell? ⟨wo.heap.size, 0, none⟩ = some (.int .i64 b1) := by simp [World.cell?, hB5]
            have hb2 : w5.cell? ⟨wo.heap.size, 1, none⟩ = some (.int .i64 b2) := by simp [World.cell?, hB5]
            clear hB5
            go_wp2_with (at_builtin; refine wpList_append_fr rfl (.tmp 45) (.tmp 47) 53 rfl Try.underlying53 Try.infoBlk rfl rfl rfl HO5.out (by rw [HLT.out]; omega) hsz5 ?_; rw [HLT.out]; intro g7 c7 w7 hO7 hW7 hS7)
            have HF : Hid (FrO 56 w2.heap.size w7.heap.size w7 (.slice (some ⟨g7, 0, none⟩) (m + 1) c7) (stackP p (k + 1)) ∧ (stackP p (k + 1)).length = m + 1 ∧ Grew w2 w7) := by
              rw [HER.out, ← HPN.out]
              exact ⟨hO7, by rw [List.length_append, HLT.out]; rfl, Within.grew (HIL.out.2.2.trans HG5o.out) hW7 (Nat.le_refl _)⟩
            clear hO7 hW7 hS7 hb1 hb2
            go_wp2
            go_roundw
            case rel => exact ⟨k + 1, m + 1, some ⟨g7, 0, none⟩, c7, rfl, by go_num, by omega, HF.out⟩
            case measure => simp [intOf]; omega
          · obtain ⟨m, rfl⟩ : ∃ q, m = q + 1 := ⟨m - 1, by omega⟩
            clear hmp
            obtain rfl : j = (m : Int) := by have := HHJ.out; omega
            have hml : m < L.length := by have := HIL.out.2.1; omega
            obtain ⟨g, cc, esa, _⟩ := HIL.out.1.pos (by omega)
            simp only [Value.slice.injEq] at esa
            obtain ⟨rfl, -, rfl⟩ := esa
            have hcc := HIL.out.1.at rfl hml
            have hls := smallB HGL.out (by omega) m hml
            obtain ⟨l, el⟩ : ∃ l, L.getD m (0, 0) = l := ⟨_, rfl⟩
            rw [el] at hcc hls
            obtain ⟨l1, l2⟩ := l
            simp only at hcc hls
            have HCC := Lib.hid hcc
            have hl1 := HJ.out.2.2.2.2.cell hcc.1
            have hl2 := HJ.out.2.2.2.2.cell hcc.2.1
            have HEL := Lib.hid el
            have HSG : Hid (∀ W, Grew wr W → Grew wr W ∧ W.cell? ⟨wo.heap.size, 0, none⟩ = some (.int .i64 b1) ∧ W.cell? ⟨wo.heap.size, 1, none⟩ = some (.int .i64 b2) ∧ W.cell? ⟨g, m * 2, none⟩ = some (.int .i64 l1) ∧ W.cell? ⟨g, m * 2 + 1, none⟩ = some (.int .i64 l2)) := fun W h => ⟨h, h.cell hb1, h.cell hb2, h.cell hl1, h.cell hl2⟩
            have hmj : ∀ W, Calls Try.prog 56 #[.agg #[.int .i64 l1, .int .i64 l2], .agg #[.int .i64 b1, .int .i64 b2]] W fun e w' => e = .returned (.bool (decide (mustJ (l1, l2) (b1, b2)))) ∧ Grew W w' := fun W => by
              have hbd := HBD.out
              obtain ⟨s, rfl⟩ := Int.eq_ofNat_of_zero_le hls.1.1
              obtain ⟨t, rfl⟩ := Int.eq_ofNat_of_zero_le (show 0 ≤ l2 by omega)
              obtain ⟨u, rfl⟩ := Int.eq_ofNat_of_zero_le hbd.1.1
              obtain ⟨q, rfl⟩ := Int.eq_ofNat_of_zero_le (show 0 ≤ b2 by omega)
              exact mustJoin_any s t u q W (by omega) (by omega) (by omega) (by omega) (by omega) (by omega)
            have r3 : (m : Int) < ((m + 1 : Nat) : Int) := by omega
            have r4 : (0 : Int) ≤ m := by omega
            obtain ⟨mm, emm⟩ : ∃ mm, m + 1 = mm := ⟨_, rfl⟩
            have HMM := Lib.hid emm
            have r5 : m < mm := by omega
            rw [emm] at r3 ⊢
            have HLS := Lib.hid hls
            clear el emm hcc hls hl1 hl2
            by_cases hmu : mustJ (l1, l2) (b1, b2)
            · rw [decide_eq_true hmu] at hmj
              have HMJ := Lib.hid hmj
              have hpn : pushN L m (l1 + b1, l2 + b2) = R := by
                have := HJ.out.2.1
                rw [pushN, if_pos (by rw [HEL.out]; exact hmu), HEL.out] at this
                exact this
              have HPN := Lib.hid hpn
              clear hmj hmu hpn hb1 hb2
              go_wp2
              refine wp_region_noPanic ?_
              refine wp_region_held_drew (S := fun W => Grew wr W ∧ W.cell? ⟨wo.heap.size, 0, none⟩ = some (.int .i64 b1) ∧ W.cell? ⟨wo.heap.size, 1, none⟩ = some (.int .i64 b2) ∧ W.cell? ⟨g, m * 2, none⟩ = some (.int .i64 l1) ∧ W.cell? ⟨g, m * 2 + 1, none⟩ = some (.int .i64 l2)) (by kernel_rfl) (by exact HSG.out _ (Grew.refl wr).drew) (fun hHeld => ?_)
              refine wpAnyH_take (i := 0) (oi := { dst := some 23, op := Op.move (Operand.tmp 6), type := 3, pos := _, after := #[], guard := none }) (v := ?_) rfl (by kernel_rfl) (by kernel_rfl) (by kernel_rfl) (fun _ _ _ h => h) (Or.inl ⟨by rfl, ?hy⟩) (by assumption) ?_
              case hy => (intro w hSw; (try dsimp only at hSw); go_simp; try with_reducible rfl)
              try simp only [Act.put, List.setIfInBounds_toArray, List.set_cons_zero, List.set_cons_succ]
              refine wpAnyH_take (i := 1) (oi := { dst := some 24, op := Op.binOp BinOp.geq 3 (Operand.tmp 23) (Operand.const (Value.int IntKind.i64 0)) 3, type := 4, pos := _, after := #[{ on := 0, ground := Ground.data }], guard := none }) (v := .bool true) rfl (by kernel_rfl) (by kernel_rfl) (by kernel_rfl) (fun _ _ _ h => h) (Or.inl ⟨by rfl, ?hy⟩) (by assumption) ?_
              case hy => (intro w hSw; (try dsimp only at hSw); go_simp <;> (try with_reducible rfl) <;> (try simp [*]))
              try simp only [Act.put, List.setIfInBounds_toArray, List.set_cons_zero, List.set_cons_succ]
              refine wpAnyH_take (i := 2) (oi := { dst := some 25, op := Op.move (Operand.tmp 24), type := 4, pos := _, after := #[{ on := 1, ground := Ground.data }], guard := none }) (v := ?_) rfl (by kernel_rfl) (by kernel_rfl) (by kernel_rfl) (fun _ _ _ h => h) (Or.inl ⟨by rfl, ?hy⟩) (by assumption) ?_
              case hy => (intro w hSw; (try dsimp only at hSw); go_simp; try with_reducible rfl)
              try simp only [Act.put, List.setIfInBounds_toArray, List.set_cons_zero, List.set_cons_succ]
              refine wpAnyH_take (i := 3) (oi := { dst := some 26, op := Op.move (Operand.tmp 3), type := 53, pos := _, after := #[{ on := 2, ground := Ground.guard }], guard := some (2, true) }) (v := ?_) rfl (by kernel_rfl) (by kernel_rfl) (by kernel_rfl) (fun _ _ _ h => h) (Or.inl ⟨by rfl, ?hy⟩) (by assumption) ?_
              case hy => (intro w hSw; (try dsimp only at hSw); go_simp; try with_reducible rfl)
              try simp only [Act.put, List.setIfInBounds_toArray, List.set_cons_zero, List.set_cons_succ]
              refine wpAnyH_take (i := 4) (oi := { dst := some 27, op := Op.move (Operand.tmp 6), type := 3, pos := _, after := #[{ on := 2, ground := Ground.guard }], guard := some (2, true) }) (v := ?_) rfl (by kernel_rfl) (by kernel_rfl) (by kernel_rfl) (fun _ _ _ h => h) (Or.inl ⟨by rfl, ?hy⟩) (by assumption) ?_
              case hy => (intro w hSw; (try dsimp only at hSw); go_simp; try with_reducible rfl)
              try simp only [Act.put, List.setIfInBounds_toArray, List.set_cons_zero, List.set_cons_succ]
              refine wpAnyH_take (i := 5) (oi := { dst := some 28, op := Op.indexAddr 53 (Operand.tmp 26) (Operand.tmp 27), type := 0, pos := _, after := #[{ on := 3, ground := Ground.data }, { on := 4, ground := Ground.data }, { on := 2, ground := Ground.guard }], guard := some (2, true) }) (v := ?_) rfl (by kernel_rfl) (by kernel_rfl) (by kernel_rfl) (fun _ _ _ h => h) (Or.inl ⟨by rfl, ?hy⟩) (by assumption) ?_
              case hy => (intro w hSw; (try dsimp only at hSw); go_simp; try with_reducible rfl)
              try simp only [Act.put, List.setIfInBounds_toArray, List.set_cons_zero, List.set_cons_succ]
              refine wpAnyH_take (i := 6) (oi := { dst := some 29, op := Op.load 56 (Operand.tmp 28), type := 56, pos := _, after := #[{ on := 5, ground := Ground.data }, { on := 2, ground := Ground.guard }], guard := some (2, true) }) (v := ?_) rfl (by kernel_rfl) (by kernel_rfl) (by kernel_rfl) (fun _ _ _ h => h) (Or.inl ⟨by rfl, ?hy⟩) (by assumption) ?_
              case hy => (intro w hSw; (try dsimp only at hSw); go_simp; try with_reducible rfl)
              try simp only [Act.put, List.setIfInBounds_toArray, List.set_cons_zero, List.set_cons_succ]
              refine wpAnyH_take (i := 7) (oi := { dst := some 30, op := Op.load 56 (Operand.tmp 5), type := 56, pos := _, after := #[{ on := 2, ground := Ground.guard }], guard := some (2, true) }) (v := ?_) rfl (by kernel_rfl) (by kernel_rfl) (by kernel_rfl) (fun _ _ _ h => h) (Or.inl ⟨by rfl, ?hy⟩) (by assumption) ?_
              case hy => (intro w hSw; (try dsimp only at hSw); go_simp; try with_reducible rfl)
              try simp only [Act.put, List.setIfInBounds_toArray, List.set_cons_zero, List.set_cons_succ]
              refine wpAnyH_ready (rs := [8]) (by kernel_rfl) (by simp) ?_
              refine AllReadyH.cons (i := 8) (o := { dst := some 31, op := Op.call { callee := Callee.value (Operand.func 56), args := #[Operand.tmp 29, Operand.tmp 30], argTypes := #[56, 56] }, type := 4, pos := _, after := #[{ on := 6, ground := Ground.data }, { on := 7, ground := Ground.data }, { on := 2, ground := Ground.chain }, { on := 2, ground := Ground.guard }], guard := some (2, true) }) rfl (fun KK hKK => ?_) AllReadyH.nil
              go_simp
              go_at_call 56
              refine (HMJ.out _).mono ?_
              rintro e w5 ⟨rfl, hg5⟩
              have HG5 := Lib.hid (hHeld.1.trans hg5)
              clear hg5
              refine hKK.out _ _ (by exact HSG.out _ HG5.out) (fun hHeld => ?_)
              clear hKK KK
              try simp only [Act.put, List.setIfInBounds_toArray, List.set_cons_zero, List.set_cons_succ]
              refine wpAnyH_take (i := 9) (oi := { dst := some 32, op := Op.pick (Operand.tmp 25) (Operand.tmp 31) (Operand.const (Value.bool false)), type := 4, pos := _, after := #[{ on := 2, ground := Ground.data }, { on := 8, ground := Ground.data }], guard := none }) (v := ?_) rfl (by kernel_rfl) (by kernel_rfl) (by kernel_rfl) (fun _ _ _ h => h) (Or.inl ⟨by rfl, ?hy⟩) (by assumption) ?_
              case hy => (intro w hSw; (try dsimp only at hSw); go_simp; try with_reducible rfl)
              try simp only [Act.put, List.setIfInBounds_toArray, List.set_cons_zero, List.set_cons_succ]
              refine wpAnyH_done (by kernel_rfl) ?_ _
              refine NoPanic.normal ?_
              have hB5 : w5.heap[wo.heap.size]? = some (.cells #[.int .i64 b1, .int .i64 b2] 56 (0, 0)) := by rw [HG5.out.block hbl]; exact HHB.out
              have hbl5 : wo.heap.size < w5.heap.size := (Array.getElem?_eq_some_iff.1 hB5).1
              have hb1 : w5.cell? ⟨wo.heap.size, 0, none⟩ = some (.int .i64 b1) := by simp [World.cell?, hB5]
              have hb2 : w5.cell? ⟨wo.heap.size, 1, none⟩ = some (.int .i64 b2) := by simp [World.cell?, hB5]
              have hbf1 : w5.frozen? ⟨wo.heap.size, 0, none⟩ = false := by simp [World.frozen?, hB5]
              have hbf2 : w5.frozen? ⟨wo.heap.size, 1, none⟩ = false := by simp [World.frozen?, hB5]
              have HB5 := Lib.hid hB5
              have HG5o := Lib.hid (HJ.out.2.2.2.2.trans HG5.out)
              have HSW : Hid (∀ W, Grew wo W → Grew wo W ∧ W.cell? ⟨g, m * 2, none⟩ = some (.int .i64 l1) ∧ W.cell? ⟨g, m * 2 + 1, none⟩ = some (.int .i64 l2)) := fun W h => ⟨h, h.cell HCC.out.1, h.cell HCC.out.2.1⟩
              have HTG : Hid (∀ (W : World) (N : Nat), W.heap.size = N → Calls Try.prog 57 #[.slice (some ⟨N, 0, none⟩) 2 2] (W.alloc (.cells #[.int .i64 l1, .int .i64 l2, .int .i64 b1, .int .i64 b2] 56)) fun e w' => e = .returned (.agg #[.int .i64 (l1 + b1), .int .i64 (l2 + b2)]) ∧ Grew (W.alloc (.cells #[.int .i64 l1, .int .i64 l2, .int .i64 b1, .int .i64 b2] 56)) w') := fun W N hN => by
                subst hN
                have hO := FrO.lit 56 W.heap.size W [(l1, l2), (b1, b2)] #[.int .i64 l1, .int .i64 l2, .int .i64 b1, .int .i64 b2] rfl (Nat.le_refl _) (by unfold maxLen; simp)
                have hT := together_any _ [(l1, l2), (b1, b2)] _ hO.toV (by simp) (fun i hi => by
                  have := HBD.out
                  have := HLS.out
                  simp only [List.length_cons, List.length_nil] at hi
                  rcases (show i = 0 ∨ i = 1 by omega) with rfl | rfl <;> simp <;> omega)
                have e : sumB [(l1, l2), (b1, b2)] = (l1 + b1, l2 + b2) := by simp [sumB, sumTo]
                rw [e] at hT
                exact hT
              clear hB5 hbl hHeld
              go_wp2
              refine wp_region_noPanic ?_
              refine wp_region_held_drew (S := fun W => Grew wo W ∧ W.cell? ⟨g, m * 2, none⟩ = some (.int .i64 l1) ∧ W.cell? ⟨g, m * 2 + 1, none⟩ = some (.int .i64 l2)) (by kernel_rfl) (by exact HSW.out _ HG5o.out.drew) (fun hHeld => ?_)
              refine wpAnyH_take (i := 0) (oi := { dst := some 35, op := Op.move (Operand.tmp 3), type := 53, pos := _, after := #[], guard := none }) (v := ?_) rfl (by kernel_rfl) (by kernel_rfl) (by kernel_rfl) (fun _ _ _ h => h) (Or.inl ⟨by rfl, ?hy⟩) (by assumption) ?_
              case hy => (intro w hSw; (try dsimp only at hSw); go_simp; try with_reducible rfl)
              try simp only [Act.put, List.setIfInBounds_toArray, List.set_cons_zero, List.set_cons_succ]
              refine wpAnyH_take (i := 1) (oi := { dst := some 36, op := Op.move (Operand.tmp 6), type := 3, pos := _, after := #[], guard := none }) (v := ?_) rfl (by kernel_rfl) (by kernel_rfl) (by kernel_rfl) (fun _ _ _ h => h) (Or.inl ⟨by rfl, ?hy⟩) (by assumption) ?_
              case hy => (intro w hSw; (try dsimp only at hSw); go_simp; try with_reducible rfl)
              try simp only [Act.put, List.setIfInBounds_toArray, List.set_cons_zero, List.set_cons_succ]
              refine wpAnyH_take (i := 2) (oi := { dst := some 37, op := Op.indexAddr 53 (Operand.tmp 35) (Operand.tmp 36), type := 0, pos := _, after := #[{ on := 0, ground := Ground.data }, { on := 1, ground := Ground.data }], guard := none }) (v := ?_) rfl (by kernel_rfl) (by kernel_rfl) (by kernel_rfl) (fun _ _ _ h => h) (Or.inl ⟨by rfl, ?hy⟩) (by assumption) ?_
              case hy => (intro w hSw; (try dsimp only at hSw); go_simp; try with_reducible rfl)
              try simp only [Act.put, List.setIfInBounds_toArray, List.set_cons_zero, List.set_cons_succ]
              refine wpAnyH_take (i := 3) (oi := { dst := some 38, op := Op.load 56 (Operand.tmp 37), type := 56, pos := _, after := #[{ on := 2, ground := Ground.data }], guard := none }) (v := ?_) rfl (by kernel_rfl) (by kernel_rfl) (by kernel_rfl) (fun _ _ _ h => h) (Or.inl ⟨by rfl, ?hy⟩) (by assumption) ?_
              case hy => (intro w hSw; (try dsimp only at hSw); go_simp; try with_reducible rfl)
              try simp only [Act.put, List.setIfInBounds_toArray, List.set_cons_zero, List.set_cons_succ]
              refine wpAnyH_ready (rs := [4]) (by kernel_rfl) (by simp) ?_
              refine AllReadyH.cons (i := 4) (o := { dst := some 39, op := Op.load 56 (Operand.tmp 5), type := 56, pos := _, after := #[], guard := none }) rfl (fun KK hKK => ?_) AllReadyH.nil
              go_simp
              refine hKK.out _ _ (by exact hHeld) (fun hHeld => ?_)
              clear hKK KK
              try simp only [Act.put, List.setIfInBounds_toArray, List.set_cons_zero, List.set_cons_succ]
              refine wpAnyH_ready (rs := [5]) (by kernel_rfl) (by simp) ?_
              refine AllReadyH.cons (i := 5) (o := { dst := some 40, op := Op.buildSlice 53 2 #[(0, Operand.tmp 38), (1, Operand.tmp 39)], type := 53, pos := _, after := #[{ on := 3, ground := Ground.data }, { on := 4, ground := Ground.data }], guard := none }) rfl (fun KK hKK => ?_) AllReadyH.nil
              go_simp
              refine hKK.out _ _ (by exact HSW.out _ (hHeld.1.alloc _)) (fun hHeld => ?_)
              clear hKK KK
              try simp only [Act.put, List.setIfInBounds_toArray, List.set_cons_zero, List.set_cons_succ]
              refine wpAnyH_ready (rs := [6]) (by kernel_rfl) (by simp) ?_
              refine AllReadyH.cons (i := 6) (o := { dst := some 41, op := Op.call { callee := Callee.value (Operand.func 57), args := #[Operand.tmp 40], argTypes := #[53] }, type := 56, pos := _, after := #[{ on := 5, ground := Ground.data }], guard := none }) rfl (fun KK hKK => ?_) AllReadyH.nil
              go_simp
              go_at_call 57
              refine (HTG.out w5.drew _ (by first | rfl | simp)).mono ?_
              rintro e w6 ⟨rfl, hg6⟩
              have hB6 : w6.heap[wo.heap.size]? = some (.cells #[.int .i64 b1, .int .i64 b2] 56 (0, 0)) := by rw [(Grew.trans (((Grew.refl w5).drew).alloc _) hg6).block hbl5]; exact HB5.out
              have hbl6 : wo.heap.size < w6.heap.size := (Array.getElem?_eq_some_iff.1 hB6).1
              have hb61 : w6.cell? ⟨wo.heap.size, 0, none⟩ = some (.int .i64 b1) := by simp [World.cell?, hB6]
              have hb62 : w6.cell? ⟨wo.heap.size, 1, none⟩ = some (.int .i64 b2) := by simp [World.cell?, hB6]
              have hbf61 : w6.frozen? ⟨wo.heap.size, 0, none⟩ = false := by simp [World.frozen?, hB6]
              have hbf62 : w6.frozen? ⟨wo.heap.size, 1, none⟩ = false := by simp [World.frozen?, hB6]
              have HB6 := Lib.hid hB6
              have HG6 := Lib.hid (hHeld.1.trans hg6)
              clear hB6 hg6 hb1 hb2 hbf1 hbf2 hbl5
              refine hKK.out _ _ (by exact HSW.out _ HG6.out) (fun hHeld => ?_)
              clear hKK KK
              try simp only [Act.put, List.setIfInBounds_toArray, List.set_cons_zero, List.set_cons_succ]
              refine wpAnyH_ready (rs := [7]) (by kernel_rfl) (by simp) ?_
              refine AllReadyH.cons (i := 7) (o := { dst := none, op := Op.store 56 (Operand.tmp 5) (Operand.tmp 41), type := 0, pos := _, after := #[{ on := 6, ground := Ground.data }, { on := 6, ground := Ground.chain }, { on := 0, ground := Ground.phase }, { on := 1, ground := Ground.phase }, { on := 2, ground := Ground.phase }, { on := 3, ground := Ground.phase }, { on := 4, ground := Ground.phase }, { on := 5, ground := Ground.phase }, { on := 6, ground := Ground.phase }], guard := none }) rfl (fun KK hKK => ?_) AllReadyH.nil
              go_simp
              refine hKK.out _ _ (by exact HSW.out _ (two_grewF (Nat.le_refl _) HG6.out)) (fun hHeld => ?_)
              clear hKK KK
              try simp only [Act.put, List.setIfInBounds_toArray, List.set_cons_zero, List.set_cons_succ]
              refine wpAnyH_done (by kernel_rfl) ?_ _
              refine NoPanic.normal ?_
              have HN : Hid (((w6.setCell ⟨wo.heap.size, 0, none⟩ (.int .i64 (l1 + b1))).setCell ⟨wo.heap.size, 1, none⟩ (.int .i64 (l2 + b2))).heap[wo.heap.size]? = some (.cells #[.int .i64 (l1 + b1), .int .i64 (l2 + b2)] 56 (0, 0)) ∧ Grew wo ((w6.setCell ⟨wo.heap.size, 0, none⟩ (.int .i64 (l1 + b1))).setCell ⟨wo.heap.size, 1, none⟩ (.int .i64 (l2 + b2)))) :=
                ⟨two_heapF HB6.out, two_grewF (Nat.le_refl _) HG6.out⟩
              have HOB : Hid (okB (l1 + b1, l2 + b2) ∧ sizeT L m + (l2 + b2) = ((k + 1 : Nat) : Int)) := Lib.hid (by
                have h1 := HJ.out.2.2.1
                have h2 := HJ.out.2.2.2.1
                have h3 := HGL.out.1 m hml
                have e3 : sizeT L (m + 1) = sizeT L m + (L.getD m (0, 0)).2 := rfl
                rw [HEL.out] at h3 e3
                unfold okB at h1 h3 ⊢
                simp only at h1 h2 h3 e3 ⊢
                omega)
              have hmc : m ≤ c := by
                have := HMM.out
                rcases HIL.out.1.shape with ⟨e, _⟩ | ⟨_, _, e, _, _, h5, _⟩
                · simp at e
                · simp only [Value.slice.injEq] at e
                  obtain ⟨_, e1, e2⟩ := e
                  omega
              have r8 : (m : Int) ≤ c := by omega
              have w9' : IntKind.i64.wrap ((m : Int) - 1) = (m : Int) - 1 := wrap_12 _ (by omega) (by omega)
              clear hHeld hb61 hb62 hbf61 hbf62 hbl6
              go_wp2
              go_roundw
              case rel => exact ⟨m, (l1 + b1, l2 + b2), (m : Int) - 1, rfl, by go_num, rfl, by have := HMM.out; omega, HN.out.1, HPN.out, HOB.out.1, HOB.out.2, HN.out.2⟩
              case measure => have := HMM.out; simp; omega
            · rw [decide_eq_false hmu] at hmj
              have HMJ := Lib.hid hmj
              have hpn : L.take (m + 1) ++ [(b1, b2)] = R := by
                have := HJ.out.2.1
                rw [pushN, if_neg (by rw [HEL.out]; exact hmu)] at this
                exact this
              rw [HMM.out] at hpn
              have HPN := Lib.hid hpn
              have hmm9 : mm ≤ 9 := by have := HMM.out; omega
              have HLT : Hid ((L.take mm).length = mm) := Lib.hid (by rw [List.length_take]; have := HIL.out.2.1; have := HMM.out; omega)
              clear hmj hmu hpn hb1 hb2
              go_wp2
              refine wp_region_noPanic ?_
              refine wp_region_held_drew (S := fun W => Grew wr W ∧ W.cell? ⟨wo.heap.size, 0, none⟩ = some (.int .i64 b1) ∧ W.cell? ⟨wo.heap.size, 1, none⟩ = some (.int .i64 b2) ∧ W.cell? ⟨g, m * 2, none⟩ = some (.int .i64 l1) ∧ W.cell? ⟨g, m * 2 + 1, none⟩ = some (.int .i64 l2)) (by kernel_rfl) (by exact HSG.out _ (Grew.refl wr).drew) (fun hHeld => ?_)
              refine wpAnyH_take (i := 0) (oi := { dst := some 23, op := Op.move (Operand.tmp 6), type := 3, pos := _, after := #[], guard := none }) (v := ?_) rfl (by kernel_rfl) (by kernel_rfl) (by kernel_rfl) (fun _ _ _ h => h) (Or.inl ⟨by rfl, ?hy⟩) (by assumption) ?_
              case hy => (intro w hSw; (try dsimp only at hSw); go_simp; try with_reducible rfl)
              try simp only [Act.put, List.setIfInBounds_toArray, List.set_cons_zero, List.set_cons_succ]
              refine wpAnyH_take (i := 1) (oi := { dst := some 24, op := Op.binOp BinOp.geq 3 (Operand.tmp 23) (Operand.const (Value.int IntKind.i64 0)) 3, type := 4, pos := _, after := #[{ on := 0, ground := Ground.data }], guard := none }) (v := .bool true) rfl (by kernel_rfl) (by kernel_rfl) (by kernel_rfl) (fun _ _ _ h => h) (Or.inl ⟨by rfl, ?hy⟩) (by assumption) ?_
              case hy => (intro w hSw; (try dsimp only at hSw); go_simp <;> (try with_reducible rfl) <;> (try simp [*]))
              try simp only [Act.put, List.setIfInBounds_toArray, List.set_cons_zero, List.set_cons_succ]
              refine wpAnyH_take (i := 2) (oi := { dst := some 25, op := Op.move (Operand.tmp 24), type := 4, pos := _, after := #[{ on := 1, ground := Ground.data }], guard := none }) (v := ?_) rfl (by kernel_rfl) (by kernel_rfl) (by kernel_rfl) (fun _ _ _ h => h) (Or.inl ⟨by rfl, ?hy⟩) (by assumption) ?_
              case hy => (intro w hSw; (try dsimp only at hSw); go_simp; try with_reducible rfl)
              try simp only [Act.put, List.setIfInBounds_toArray, List.set_cons_zero, List.set_cons_succ]
              refine wpAnyH_take (i := 3) (oi := { dst := some 26, op := Op.move (Operand.tmp 3), type := 53, pos := _, after := #[{ on := 2, ground := Ground.guard }], guard := some (2, true) }) (v := ?_) rfl (by kernel_rfl) (by kernel_rfl) (by kernel_rfl) (fun _ _ _ h => h) (Or.inl ⟨by rfl, ?hy⟩) (by assumption) ?_
              case hy => (intro w hSw; (try dsimp only at hSw); go_simp; try with_reducible rfl)
              try simp only [Act.put, List.setIfInBounds_toArray, List.set_cons_zero, List.set_cons_succ]
              refine wpAnyH_take (i := 4) (oi := { dst := some 27, op := Op.move (Operand.tmp 6), type := 3, pos := _, after := #[{ on := 2, ground := Ground.guard }], guard := some (2, true) }) (v := ?_) rfl (by kernel_rfl) (by kernel_rfl) (by kernel_rfl) (fun _ _ _ h => h) (Or.inl ⟨by rfl, ?hy⟩) (by assumption) ?_
              case hy => (intro w hSw; (try dsimp only at hSw); go_simp; try with_reducible rfl)
              try simp only [Act.put, List.setIfInBounds_toArray, List.set_cons_zero, List.set_cons_succ]
              refine wpAnyH_take (i := 5) (oi := { dst := some 28, op := Op.indexAddr 53 (Operand.tmp 26) (Operand.tmp 27), type := 0, pos := _, after := #[{ on := 3, ground := Ground.data }, { on := 4, ground := Ground.data }, { on := 2, ground := Ground.guard }], guard := some (2, true) }) (v := ?_) rfl (by kernel_rfl) (by kernel_rfl) (by kernel_rfl) (fun _ _ _ h => h) (Or.inl ⟨by rfl, ?hy⟩) (by assumption) ?_
              case hy => (intro w hSw; (try dsimp only at hSw); go_simp; try with_reducible rfl)
              try simp only [Act.put, List.setIfInBounds_toArray, List.set_cons_zero, List.set_cons_succ]
              refine wpAnyH_take (i := 6) (oi := { dst := some 29, op := Op.load 56 (Operand.tmp 28), type := 56, pos := _, after := #[{ on := 5, ground := Ground.data }, { on := 2, ground := Ground.guard }], guard := some (2, true) }) (v := ?_) rfl (by kernel_rfl) (by kernel_rfl) (by kernel_rfl) (fun _ _ _ h => h) (Or.inl ⟨by rfl, ?hy⟩) (by assumption) ?_
              case hy => (intro w hSw; (try dsimp only at hSw); go_simp; try with_reducible rfl)
              try simp only [Act.put, List.setIfInBounds_toArray, List.set_cons_zero, List.set_cons_succ]
              refine wpAnyH_take (i := 7) (oi := { dst := some 30, op := Op.load 56 (Operand.tmp 5), type := 56, pos := _, after := #[{ on := 2, ground := Ground.guard }], guard := some (2, true) }) (v := ?_) rfl (by kernel_rfl) (by kernel_rfl) (by kernel_rfl) (fun _ _ _ h => h) (Or.inl ⟨by rfl, ?hy⟩) (by assumption) ?_
              case hy => (intro w hSw; (try dsimp only at hSw); go_simp; try with_reducible rfl)
              try simp only [Act.put, List.setIfInBounds_toArray, List.set_cons_zero, List.set_cons_succ]
              refine wpAnyH_ready (rs := [8]) (by kernel_rfl) (by simp) ?_
              refine AllReadyH.cons (i := 8) (o := { dst := some 31, op := Op.call { callee := Callee.value (Operand.func 56), args := #[Operand.tmp 29, Operand.tmp 30], argTypes := #[56, 56] }, type := 4, pos := _, after := #[{ on := 6, ground := Ground.data }, { on := 7, ground := Ground.data }, { on := 2, ground := Ground.chain }, { on := 2, ground := Ground.guard }], guard := some (2, true) }) rfl (fun KK hKK => ?_) AllReadyH.nil
              go_simp
              go_at_call 56
              refine (HMJ.out _).mono ?_
              rintro e w5 ⟨rfl, hg5⟩
              have HG5 := Lib.hid (hHeld.1.trans hg5)
              clear hg5
              refine hKK.out _ _ (by exact HSG.out _ HG5.out) (fun hHeld => ?_)
              clear hKK KK
              try simp only [Act.put, List.setIfInBounds_toArray, List.set_cons_zero, List.set_cons_succ]
              refine wpAnyH_take (i := 9) (oi := { dst := some 32, op := Op.pick (Operand.tmp 25) (Operand.tmp 31) (Operand.const (Value.bool false)), type := 4, pos := _, after := #[{ on := 2, ground := Ground.data }, { on := 8, ground := Ground.data }], guard := none }) (v := ?_) rfl (by kernel_rfl) (by kernel_rfl) (by kernel_rfl) (fun _ _ _ h => h) (Or.inl ⟨by rfl, ?hy⟩) (by assumption) ?_
              case hy => (intro w hSw; (try dsimp only at hSw); go_simp; try with_reducible rfl)
              try simp only [Act.put, List.setIfInBounds_toArray, List.set_cons_zero, List.set_cons_succ]
              refine wpAnyH_done (by kernel_rfl) ?_ _
              refine NoPanic.normal ?_
              have hB5 : w5.heap[wo.heap.size]? = some (.cells #[.int .i64 b1, .int .i64 b2] 56 (0, 0)) := by rw [HG5.out.block hbl]; exact HHB.out
              have hb1 : w5.cell? ⟨wo.heap.size, 0, none⟩ = some (.int .i64 b1) := by simp [World.cell?, hB5]
              have hb2 : w5.cell? ⟨wo.heap.size, 1, none⟩ = some (.int .i64 b2) := by simp [World.cell?, hB5]
              have HG5o := Lib.hid (HJ.out.2.2.2.2.trans HG5.out)
              have hO5' := (HIL.out.1.init mm (by have := HIL.out.2.1; have := HMM.out; omega)).grew HG5o.out
              have HO5 := Lib.hid (hO5'.wide (Nat.le_refl _) HG5o.out.size)
              have hsz5 : w2.heap.size ≤ w5.heap.size := (HIL.out.2.2.trans HG5o.out).size
              have w9' : IntKind.i64.wrap ((k : Int) + 1) = (k : Int) + 1 := wrap_12 _ (by omega) (by omega)
              clear hB5 hbl hHeld hO5'
              go_wp2_with (at_builtin; refine wpList_append_fr rfl (.tmp 45) (.tmp 47) 53 rfl Try.underlying53 Try.infoBlk rfl rfl rfl HO5.out (by rw [HLT.out]; omega) hsz5 ?_; rw [HLT.out]; intro g7 c7 w7 hO7 hW7 hS7)
              have HF : Hid (FrO 56 w2.heap.size w7.heap.size w7 (.slice (some ⟨g7, 0, none⟩) (mm + 1) c7) (stackP p (k + 1)) ∧ (stackP p (k + 1)).length = mm + 1 ∧ Grew w2 w7) := by
                rw [HER.out, ← HPN.out]
                exact ⟨hO7, by rw [List.length_append, HLT.out]; rfl, Within.grew (HIL.out.2.2.trans HG5o.out) hW7 (Nat.le_refl _)⟩
              clear hO7 hW7 hS7 hb1 hb2
              go_wp2
              go_roundw
              case rel => exact ⟨k + 1, mm + 1, some ⟨g7, 0, none⟩, c7, rfl, by go_num, by omega, HF.out⟩
              case measure => simp [intOf]; omega
      · obtain rfl : k = p.length := by omega
        obtain ⟨L, eL⟩ : ∃ L, stackP p p.length = L := ⟨_, rfl⟩
        have hgL := HG.out p.length (Nat.le_refl _)
        obtain ⟨st, hcv⟩ := stack_cover p p.length
        rw [eL] at hgL hcv
        have HIL : Hid (FrO 56 w2.heap.size wo.heap.size wo (.slice sa m0 c) L ∧ L.length = m0 ∧ Grew w2 wo) := by rw [← eL]; exact HI.out
        have hm09 : m0 ≤ 9 := by have := goodL_len hgL; have := HIL.out.2.1; omega
        have HGL := Lib.hid hgL
        have hsp : ∀ i, i ≤ L.length → (spread (L.take i)).length ≤ 9 := fun i hi => by
          have h1 := spread_len hcv (Nat.le_refl _) i hi
          have h2 := hcv.mono i (L.length - i) (by omega)
          rw [show i + (L.length - i) = L.length by omega, hcv.2.1] at h2
          omega
        have HSP := Lib.hid hsp
        have HEL := Lib.hid eL
        clear hgL hcv hsp eL HI
        go_wp2
        go_loopw [7, 52] (fun ov iv wr => ∃ (i n : Nat) (oa : Option Addr) (oc : Nat), ov = .slice oa n oc ∧ iv = .int .i64 i ∧ i ≤ m0 ∧ Hid (FrO 29 wo.heap.size wr.heap.size wr ov (spread (L.take i)) ∧ (spread (L.take i)).length = n ∧ Grew wo wr)) (fun _ iv _ => m0 - (intOf iv).toNat)
        case atStart => exact ⟨0, 0, none, 0, rfl, rfl, Nat.zero_le _, FrO.nil _ _ _ _, rfl, Grew.refl _⟩
        case round =>
          obtain ⟨i, n, oa, oc, rfl, rfl, hi, HJ⟩ := hrel
          by_cases hlti : i < m0
          · have hiL : i < L.length := by have := HIL.out.2.1; omega
            obtain ⟨g, cc, esa, _⟩ := HIL.out.1.pos (by omega)
            simp only [Value.slice.injEq] at esa
            obtain ⟨rfl, -, rfl⟩ := esa
            have hcc := HIL.out.1.at rfl hiL
            have hls := smallB HGL.out (by omega) i hiL
            obtain ⟨l, el⟩ : ∃ l, L.getD i (0, 0) = l := ⟨_, rfl⟩
            rw [el] at hcc hls
            obtain ⟨l1, l2⟩ := l
            obtain ⟨s, rfl⟩ := Int.eq_ofNat_of_zero_le hls.1.1
            obtain ⟨t, rfl⟩ := Int.eq_ofNat_of_zero_le (show 0 ≤ l2 by have := hls.2.1; simp only at this; omega)
            simp only at hcc hls el
            have hl1 := HJ.out.2.2.cell hcc.1
            have hl2 := HJ.out.2.2.cell hcc.2.1
            have hsn : spread (L.take (i + 1)) = spread (L.take i) ++ List.replicate t (frL s t) := by
              rw [List.take_succ_eq_append_getElem hiL]
              unfold spread
              rw [List.flatMap_append]
              have eg : L[i] = ((s : Int), (t : Int)) := by rw [← el]; simp [hiL]
              rw [eg]
              simp
            have HFR := Lib.hid (fun W => mean_any s t W (by omega) (by omega) (by omega))
            obtain ⟨F, eF⟩ : ∃ F, frL s t = F := ⟨_, rfl⟩
            rw [eF] at HFR hsn
            have ht1 : 1 ≤ t := by omega
            have ht9 : t ≤ 9 := by omega
            obtain ⟨f1, f2⟩ := F
            unfold frV at HFR
            have hn9 := HSP.out i (by omega)
            have hnx9 := HSP.out (i + 1) (by omega)
            rw [hsn, List.length_append, HJ.out.2.1, List.length_replicate] at hnx9
            rw [HJ.out.2.1] at hn9
            have HSN := Lib.hid hsn
            have r1 : (i : Int) < m0 := by omega
            have r2 : (0 : Int) ≤ i := by omega
            have w7' : IntKind.i64.wrap ((i : Int) + 1) = (i : Int) + 1 := wrap_12 _ (by omega) (by omega)
            have HRP : Hid (∀ (W : World) (N : Nat), W.heap.size = N → Calls Try.prog 58 #[.slice (some ⟨N, 0, none⟩) 1 1, .int .i64 t] (W.alloc (.cells #[.int .i64 f1, .int .i64 f2] 29)) fun e w' => ∃ g, e = .returned (.slice (some ⟨g, 0, none⟩) t t) ∧ FrO 29 W.heap.size w'.heap.size w' (.slice (some ⟨g, 0, none⟩) t t) (List.replicate t (f1, f2)) ∧ Grew (W.alloc (.cells #[.int .i64 f1, .int .i64 f2] 29)) w') := fun W N hN => by
              subst hN
              refine (slicesRepeatF_any W.heap.size 0 1 (f1, f2) t _ ⟨by simp, by simp⟩ ht1 (by omega)).mono ?_
              rintro e w' ⟨g, rfl, hO, hg⟩
              exact ⟨g, rfl, hO.wide (by simp) (Nat.le_refl _), hg⟩
            obtain ⟨Q, eQ⟩ : ∃ Q, spread (L.take i) = Q := ⟨_, rfl⟩
            have HQ : Hid (FrO 29 wo.heap.size wr.heap.size wr (.slice oa n oc) Q ∧ Q.length = n ∧ Grew wo wr ∧ spread (L.take (i + 1)) = Q ++ List.replicate t (f1, f2)) := by
              rw [← eQ]; exact ⟨HJ.out.1, HJ.out.2.1, HJ.out.2.2, HSN.out⟩
            obtain ⟨wb, ewb⟩ : ∃ wb, wr.alloc (.cells #[.int .i64 s, .int .i64 t] 56) = wb := ⟨_, rfl⟩
            have HB0 : Hid (Grew wo wb ∧ Grew wr wb ∧ wb.cell? ⟨wr.heap.size, 0, none⟩ = some (.int .i64 s) ∧ wb.cell? ⟨wr.heap.size, 1, none⟩ = some (.int .i64 t)) := by
              rw [← ewb]
              exact ⟨HJ.out.2.2.alloc _, (Grew.refl _).alloc _, by simp, by simp⟩
            have HEB := Lib.hid ewb
            have HSS : Hid (∀ W, Grew wb W → Grew wo W ∧ W.cell? ⟨wr.heap.size, 0, none⟩ = some (.int .i64 s) ∧ W.cell? ⟨wr.heap.size, 1, none⟩ = some (.int .i64 t)) := fun W h => ⟨HB0.out.1.trans h, h.cell HB0.out.2.2.1, h.cell HB0.out.2.2.2⟩
            clear hcc hls el hsn eF eQ HSN HJ ewb
            go_wp2_with (fail)
            rw [HEB.out]
            go_region_held3 (fun W => Grew wo W ∧ W.cell? ⟨wr.heap.size, 0, none⟩ = some (.int .i64 s) ∧ W.cell? ⟨wr.heap.size, 1, none⟩ = some (.int .i64 t))
              (first
                | assumption
                | exact HSS.out _ (Grew.refl _)
                | exact HSS.out _ (Grew.refl _).drew
                | exact HSS.out _ (HG5.out.alloc _))
              (first
                | (go_at_call 59; refine (HFR.out _).mono ?_; rintro e5 w5 ⟨rfl, hg5⟩; have HG5 : Hid (Grew wb w5) := Grew.trans ((Grew.refl _).drew) hg5; have h5c := HSS.out _ HG5.out; clear hg5)
                | (go_at_call 58; refine (HRP.out _ _ (by first | rfl | simp)).mono ?_; rintro e6 w6 ⟨g6, rfl, hO6, hg6⟩; have HO6 := Lib.hid hO6; have HG6 : Hid (Grew wb w6) := HG5.out.trans (Grew.trans ((Grew.refl _).alloc _) hg6); have h6c := HSS.out _ HG6.out; clear hg6 hO6)
                | (refine step_append_frs (w := w6) (q := Q) (r := List.replicate t (f1, f2)) (lo := wo.heap.size) (hi := wr.heap.size) (v := .slice oa n oc) (b := g6) (o' := 0) (n := t) (c := t) rfl (.tmp 56) (.tmp 62) 25 rfl Try.underlying25 Try.infoFrac rfl rfl (by simp) (fun j hj => by rw [Nat.zero_add]; have := HO6.out.at rfl hj; exact ⟨this.1, this.2.1⟩) (HQ.out.1.grew (HB0.out.2.1.trans HG6.out)) (by rw [HQ.out.2.1, List.length_replicate]; omega) h6c.1.size ?_; rw [HQ.out.2.1, List.length_replicate]; intro a7 c7 w7 hO7 hW7; have h7c : Grew wo w7 ∧ w7.cell? ⟨wr.heap.size, 0, none⟩ = some (.int .i64 s) ∧ w7.cell? ⟨wr.heap.size, 1, none⟩ = some (.int .i64 t) := ⟨Within.grew h6c.1 hW7 (Nat.le_refl _), hW7.cell h6c.2.1 (.inr (Nat.le_refl _)), hW7.cell h6c.2.2 (.inr (Nat.le_refl _))⟩; have HO7 := Lib.hid hO7; clear hO7 hW7)
                )
            have HF : Hid (FrO 29 wo.heap.size w7.heap.size w7 (.slice a7 (n + t) c7) (spread (L.take (i + 1))) ∧ (spread (L.take (i + 1))).length = n + t ∧ Grew wo w7) := by
              rw [HQ.out.2.2.2]
              exact ⟨HO7.out, by rw [List.length_append, HQ.out.2.1, List.length_replicate], h7c.1⟩
            clear h5c h6c h7c HO7
            go_wp2
            go_roundw
            case rel => exact ⟨i + 1, n + t, a7, c7, rfl, by go_num, by omega, HF.out⟩
            case measure => simp [intOf]; omega
          · obtain rfl : i = m0 := by omega
            have r1 : ¬ (i : Int) < i := by omega
            have hLL : L.take i = L := List.take_of_length_le (by have := HIL.out.2.1; omega)
            have HF : Hid (FrO 29 w.heap.size wr.heap.size wr (.slice oa n oc) (spread L) ∧ Grew w wr) := by
              have h := HJ.out.1
              rw [hLL] at h
              exact ⟨h.wide (H2.out.2.trans HIL.out.2.2).size (Nat.le_refl _), (H2.out.2.trans HIL.out.2.2).trans HJ.out.2.2⟩
            clear hLL
            go_wp2
            go_ret
            exact ⟨_, rfl, by rw [HEL.out]; exact HF.out.1, HF.out.2⟩
end Go.Proofs.Ytlifjhhjkcmneaa
