/- The contract of impl.piecesOf over cells beside each other: the walk. -/
import Derived.Test.YtaeenedjmakelaaDoorPiecesOf
namespace Go.Proofs.YtaeenedjmakelaaDoor
open Go.RowKit

theorem whereL_len' (N : Nat) (B : Nat → Bool) : (whereL N B).length ≤ N := whereL_len N B
set_option maxRecDepth 100000 in
set_option maxHeartbeats 8000000 in
theorem piecesOf_any (v : Value) (h : List (List Int)) (n m : Nat) (B : Nat → Bool) (fk : Nat) (lb : Array Value) (eg : ∀ (args : Array Value) (w : World), (callFunc fk args).run Tryd.prog w = .ok (.enter fk args) w)
    (w : World) (hv : RowsV w v h) (hg : vGrid h = true) (hS : Steps w) (en : h.length = n) (em : (h.getD 0 []).length = m) (hT : Tells fk lb (n * m) B w) :
    Calls Tryd.prog 71 #[v, .func (.func 72) #[] #[], .func (.func fk) #[] lb] w fun e w' => ∃ v' f, e = .returned v' ∧ RowsO 22 3 w.heap.size w'.heap.size w' v' (piecesT f (whereL (n * m) B)) ∧ Flats n m (bothB B) f ∧ Grew w w' := by
  have G := Grid.of hg
  have hn5 := G.n5
  have hm5 := G.m5
  rw [en] at hn5
  rw [em] at hm5
  have hN25 : n * m ≤ 25 := Nat.mul_le_mul hn5 hm5
  obtain ⟨N, eN⟩ : ∃ N, n * m = N := ⟨_, rfl⟩
  rw [eN] at hT hN25
  have HBP : Hid (∀ w1, Grew w w1 → w1.cell? ⟨w.heap.size, 0, none⟩ = some (.func (.func fk) #[] lb) →
      Calls Tryd.prog 106 #[v, .func (.func 72) #[] #[], .func (.func 107) #[] #[.pointer (some ⟨w.heap.size, 0, none⟩)]] w1
        fun e w' => ∃ g c fs, e = .returned (.slice (some ⟨g, 0, none⟩) N c) ∧ IntsO 3 w1.heap.size w'.heap.size w' (.slice (some ⟨g, 0, none⟩) N c) fs ∧ Flats n m (bothB B) fs ∧ Grew w1 w') := fun w1 hg1 hcB => by
    have := firstsOfPieces_any v h n m (bothB B) (bothB_symm B) 107 #[.pointer (some ⟨w.heap.size, 0, none⟩)] (enters_of Tryd.func107 (by kernel_rfl) rfl) w1 (hv.grew hg1) hg (hS.grew hg1) en em (fun I K W hW hI hK => by
      rw [eN] at hI hK
      exact piecesClo_any w.heap.size fk lb eg N I K B W (hW.cell hcB) (hT.grew (hg1.trans hW)) hI hK)
    unfold FlatsPost at this
    rw [eN] at this
    exact this
  have hCl := whereL_len N B
  obtain ⟨C, eC⟩ : ∃ C, whereL N B = C := ⟨_, rfl⟩
  have HCW : Hid (∀ w1, Grew w w1 → Calls Tryd.prog 69 #[v, .func (.func fk) #[] lb] w1 fun e w' => ∃ a c, e = .returned (.slice a C.length c) ∧ IntsO 3 w1.heap.size w'.heap.size w' (.slice a C.length c) C ∧ Grew w1 w') := fun w1 hg1 => by
    have := cellsWhere_any v h N B fk lb eg w1 (hv.grew hg1) hg (by rw [en, em, eN]) (hT.grew hg1)
    rw [eC] at this
    exact this
  have HMC : Hid (∀ k, k < C.length → ∃ X : Nat, X < N ∧ C.getD k 0 = X) := fun k hk => by
    have hm : C.getD k 0 ∈ C := by rw [List.getD_eq_getElem?_getD, List.getElem?_eq_getElem hk]; exact List.getElem_mem hk
    rw [← eC] at hm
    obtain ⟨X, h1, _, h2⟩ := (whereL_mem _ _ _).1 hm
    exact ⟨X, h1, by rw [← eC]; exact h2⟩
  rw [eC] at hCl
  have HC := Lib.hid eC
  have hFin : (fun (e : Ending) (w' : World) => ∃ v' f, e = .returned v' ∧ RowsO 22 3 w.heap.size w'.heap.size w' v' (piecesT f (whereL (n * m) B)) ∧ Flats n m (bothB B) f ∧ Grew w w') = fun e w' => ∃ v' f, e = .returned v' ∧ RowsO 22 3 w.heap.size w'.heap.size w' v' (piecesT f C) ∧ Flats n m (bothB B) f ∧ Grew w w' := by rw [eN, eC]
  rw [hFin]
  obtain ⟨a, b, o, c, rfl, _, _, _⟩ := hv.shape
  have HNM := Lib.hid (And.intro hn5 (And.intro hm5 eN))
  clear hFin hv hg hS G en em eN hT eC hn5 hm5
  have hmf : ∀ (fn : Fn) (first cap : Array Value) (w : World), (Instr.makeFunc fn first cap).run Tryd.prog w = .ok (.func fn first cap) w := fun _ _ _ _ => rfl
  go_enter Tryd.func71, Tryd.ntmps71
  go_wp2_with (fail)
  go_step3
  go_wp2_with (fail)
  refine (HBP.out (w.alloc (.cells #[.func (.func fk) #[] lb] 65)) ((Grew.refl _).alloc _) (by simp)).mono ?_
  rintro e w2 ⟨g2, c2, fs, rfl, hO2, hF2, hg2⟩
  have hcb : w2.cell? ⟨w.heap.size, 0, none⟩ = some (.func (.func fk) #[] lb) := hg2.cell (by simp)
  have H2 : Hid (IntsO 3 w.heap.size w2.heap.size w2 (.slice (some ⟨g2, 0, none⟩) N c2) fs ∧ Flats n m (bothB B) fs ∧ Grew w w2) := Lib.hid ⟨hO2.wide (by simp) (Nat.le_refl _), hF2, ((Grew.refl _).alloc _).trans hg2⟩
  clear hO2 hF2 hg2 HBP
  go_wp2_with (fail)
  go_step3
  go_wp2_with (fail)
  refine (HCW.out _ H2.out.2.2).mono ?_
  rintro e w3 ⟨a3, c3, rfl, hO3, hg3⟩
  have H3 : Hid (IntsO 3 w.heap.size w2.heap.size w3 (.slice (some ⟨g2, 0, none⟩) N c2) fs ∧ IntsO 3 w2.heap.size w3.heap.size w3 (.slice a3 C.length c3) C ∧ Grew w w3) := Lib.hid ⟨H2.out.1.grew hg3, hO3, H2.out.2.2.trans hg3⟩
  have HFL : Hid (fs.length = N) := Lib.hid (by rw [H2.out.2.1.len]; exact HNM.out.2.2)
  clear hO3 hg3 hcb HCW
  go_wp2
  go_loopw [8, 21] (fun pv iv wr => ∃ (k pn : Nat) (pa : Option Addr) (pc : Nat), pv = .slice pa pn pc ∧ iv = .int .i64 k ∧ k ≤ C.length ∧ Hid (RowsO 22 3 w3.heap.size wr.heap.size wr pv (piecesT fs (C.take k)) ∧ (piecesT fs (C.take k)).length = pn ∧ Grew w3 wr)) (fun _ iv _ => C.length - (intOf iv).toNat)
  case atStart => exact ⟨0, 0, none, 0, rfl, rfl, Nat.zero_le _, RowsO.nil _ _ _ _ _, rfl, Grew.refl _⟩
  case round =>
    obtain ⟨k, pn, pa, pc, rfl, rfl, hk, HI⟩ := hrel
    by_cases hlt : k < C.length
    · obtain ⟨g3, c3', e3, _⟩ := H3.out.2.1.pos (by omega)
      simp only [Value.slice.injEq] at e3
      obtain ⟨rfl, -, rfl⟩ := e3
      obtain ⟨X, hX, eX⟩ := HMC.out k hlt
      have hcC := HI.out.2.2.cell (H3.out.2.1.at rfl hlt).1
      have hcF := HI.out.2.2.cell (H3.out.1.at rfl (i := X) (by rw [HFL.out]; exact hX)).1
      rw [eX] at hcC
      obtain ⟨F, eF⟩ : ∃ F, fs.getD X 0 = F := ⟨_, rfl⟩
      rw [eF] at hcF
      have hnx := pieces_take fs C k hlt X eX
      rw [Int.toNat_natCast, eF] at hnx
      have hps := pieces_pos fs C k (by omega)
      have hsm := pieces_small fs C k (by omega)
      obtain ⟨ps, eps⟩ : ∃ ps, piecesT fs (C.take k) = ps := ⟨_, rfl⟩
      rw [eps] at hnx hps hsm
      have HP : Hid (RowsO 22 3 w3.heap.size wr.heap.size wr (.slice pa pn pc) ps ∧ ps.length = pn ∧ Grew w3 wr) := by rw [← eps]; exact HI.out
      have HNX := Lib.hid hnx
      have HPS := Lib.hid hps
      have HSM := Lib.hid hsm
      have hpn : pn ≤ 25 := by have := HP.out.2.1; omega
      have r1 : (k : Int) < C.length := by omega
      have r2 : (0 : Int) ≤ k := by omega
      have r3 : (X : Int) < N := by omega
      have r4 : (0 : Int) ≤ X := by omega
      have w1' : IntKind.i64.wrap ((k : Int) + 1) = (k : Int) + 1 := IntWalk.i64_in _ (by omega)
      obtain ⟨wo, rfl⟩ : ∃ wo : World, wo = wr := ⟨_, rfl⟩
      have HcF := Lib.hid hcF
      clear eX eF hnx hps hsm eps HI hcF
      go_wp2
      go_loopw [27] (fun jv wr => ∃ j : Nat, jv = .int .i64 j ∧ j ≤ pn ∧ Hid ((∀ i, i < j → (ps.getD i []).getD 0 0 ≠ F) ∧ Grew wo wr)) (fun jv _ => pn - (intOf jv).toNat)
      case atStart => exact ⟨0, rfl, Nat.zero_le _, fun i hi => absurd hi (Nat.not_lt_zero _), Grew.refl _⟩
      case round =>
        obtain ⟨j, rfl, hj, HJ⟩ := hrel
        by_cases hltj : j < pn
        · have hjp : j < ps.length := by have := HP.out.2.1; omega
          obtain ⟨gp, cp, ep, _⟩ := HP.out.1.pos (by omega)
          simp only [Value.slice.injEq] at ep
          obtain ⟨rfl, -, rfl⟩ := ep
          have HRJ := Lib.hid (HP.out.1.grew HJ.out.2)
          obtain ⟨u, hcu, hu⟩ := HRJ.out.at rfl hjp
          obtain ⟨gr, cr, rfl, _, _, hrc, _⟩ := hu.pos (HPS.out j hjp)
          have hch := (hu.at rfl (HPS.out j hjp)).1
          obtain ⟨row, erow⟩ : ∃ row, ps.getD j [] = row := ⟨_, rfl⟩
          rw [erow] at hcu hu hch hrc
          have hrl : 0 < row.length ∧ row.length ≤ 25 := by
            have h1 := HPS.out j hjp
            have h2 := HSM.out.2 j hjp
            rw [erow] at h1 h2
            omega
          obtain ⟨hd, ehd⟩ : ∃ hd, row.getD 0 0 = hd := ⟨_, rfl⟩
          rw [ehd] at hch
          have hcF := HJ.out.2.cell HcF.out
          have hfr := HRJ.out.frozenAt rfl j
          obtain ⟨hne, hl1, hl2, _⟩ := HRJ.out.ne (by decide) rfl hjp hcu
          have HU := Lib.hid hu.at1
          have HROW := Lib.hid (And.intro erow ehd)
          have HCU := Lib.hid hcu
          have s1 : (j : Int) < pn := by omega
          have s2 : (0 : Int) ≤ j := by omega
          have s3 : (0 : Int) < row.length := by omega
          have s4 : 0 < row.length := hrl.1
          have w2' : IntKind.i64.wrap ((j : Int) + 1) = (j : Int) + 1 := IntWalk.i64_in _ (by omega)
          clear erow ehd hu hrc
          by_cases hhd : hd = F
          · subst hhd
            have hnx := addAt_found hd X ps j hjp HJ.out.1 (by rw [HROW.out.1]; exact HROW.out.2)
            rw [HROW.out.1] at hnx
            have HN := Lib.hid (HNX.out.trans hnx)
            clear hnx
            go_wp2
            go_quiet (fail)
            generalize hW4 : World.drewN wr _ = w4
            have hG4 : Grew wr w4 := by rw [← hW4]; exact (Grew.refl _).drewN _
            have hsz4 : w4.heap.size = wr.heap.size := by rw [← hW4]; simp
            have HG4 := Lib.hid hG4
            have hcu4 := hG4.cell HCU.out
            have HU4 := Lib.hid (HU.out.grew hG4)
            have HR4 := Lib.hid (HRJ.out.grew hG4)
            have hfr4 := HR4.out.frozenAt rfl j
            have HSZ := Lib.hid hsz4
            clear hW4 hG4 hcu hfr hch hcF hsz4
            go_wp2_with (at_builtin; refine wpList_append_int_at rfl (.tmp 42) (.tmp 44) 22 rfl Tryd.underlying22 Tryd.infoI rfl rfl (by simp) HU4.out (by omega) rfl ?_; intro g8 c8 w8 hO8 hW8 hat8 hlt8; have hcu8 := hW8.cell hcu4 (show gp < gr ∨ gr + 1 ≤ gp by omega); have hfr8 := hW8.frozen hcu4 hfr4 (show gp < gr ∨ gr + 1 ≤ gp by omega))
            have hrg := HR4.out.regrow (by decide) rfl hjp hcu4 hW8 hO8 hat8
            have HF : Hid (RowsO 22 3 w3.heap.size (w8.setCell ⟨gp, j, none⟩ (.slice (some ⟨g8, 0, none⟩) (row.length + 1) c8)).heap.size (w8.setCell ⟨gp, j, none⟩ (.slice (some ⟨g8, 0, none⟩) (row.length + 1) c8)) (.slice (some ⟨gp, 0, none⟩) pn pc) (piecesT fs (C.take (k + 1))) ∧ (piecesT fs (C.take (k + 1))).length = pn ∧ Grew w3 (w8.setCell ⟨gp, j, none⟩ (.slice (some ⟨g8, 0, none⟩) (row.length + 1) c8))) := by
              rw [HN.out]
              refine ⟨by simpa using hrg.1, by rw [List.length_set]; exact HP.out.2.1, Within.grew ((HP.out.2.2.trans HJ.out.2).trans HG4.out) hrg.2 (Nat.le_refl _)⟩
            clear hrg hO8 hW8 hat8 hlt8 hcu8 hfr8 hcu4 hfr4
            go_wp2
            go_roundw
            case rel => exact ⟨k + 1, pn, _, pc, rfl, by go_num, by omega, HF.out⟩
            case measure => simp [intOf]; omega
          · have hhb : (hd == F) = false := beq_eq_false_iff_ne.2 hhd
            have HQ : Hid (∀ i, i < j + 1 → (ps.getD i []).getD 0 0 ≠ F) := fun i hi => by
              by_cases e : i = j
              · rw [e, HROW.out.1, HROW.out.2]; exact hhd
              · exact HJ.out.1 i (by omega)
            go_wp2
            go_quiet (fail)
            generalize hW4 : World.drewN wr _ = w4
            have hG4 : Grew wr w4 := by rw [← hW4]; exact (Grew.refl _).drewN _
            have HG4 := Lib.hid (HJ.out.2.trans hG4)
            clear hW4 hG4 hcu hfr hch hcF
            go_wp2
            go_roundw
            case rel => exact ⟨j + 1, by go_num, by omega, HQ.out, HG4.out⟩
            case measure => simp [intOf]; omega
        · obtain rfl : j = pn := by omega
          have hnx := addAt_none F X ps (fun i hi => HJ.out.1 i (by have := HP.out.2.1; omega))
          have HN := Lib.hid (HNX.out.trans hnx)
          have HRJ := Lib.hid ((HP.out.1.grew HJ.out.2).wide (Nat.le_refl _) HJ.out.2.size)
          have HLT : Hid (IntsO 3 wr.heap.size (wr.heap.size + 1) (wr.alloc (.cells #[.int .i64 X] 3)) (.slice (some ⟨wr.heap.size, 0, none⟩) 1 1) [(X : Int)]) := by
            have := IntsO.lit 3 wr.heap.size wr [(X : Int)] #[.int .i64 X] rfl (Nat.le_refl _) (by unfold maxLen; simp)
            exact Lib.hid (by simpa using this)
          have HRA := Lib.hid (HRJ.out.grew ((Grew.refl wr).alloc (.cells #[.int .i64 X] 3)))
          have hsz3 : w3.heap.size ≤ wr.heap.size := (HP.out.2.2.trans HJ.out.2).size
          have HG4 := Lib.hid ((HP.out.2.2.trans HJ.out.2).alloc (.cells #[.int .i64 X] 3))
          clear hnx
          go_wp2_with (at_builtin; refine wpList_append_row rfl (.tmp 48) (.tmp 51) 32 rfl (by decide) Tryd.underlying32 Tryd.infoIs rfl rfl (by simp) HRA.out HLT.out (by have := HP.out.2.1; omega) (by simp; omega) hsz3 ?_; intro g8 c8 w8 hO8 hW8 hS8)
          have HF : Hid (RowsO 22 3 w3.heap.size w8.heap.size w8 (.slice (some ⟨g8, 0, none⟩) (j + 1) c8) (piecesT fs (C.take (k + 1))) ∧ (piecesT fs (C.take (k + 1))).length = j + 1 ∧ Grew w3 w8) := by
            rw [HN.out]
            rw [HP.out.2.1] at hO8
            exact ⟨hO8, by rw [List.length_append, HP.out.2.1]; rfl, Within.grew HG4.out hW8 (Nat.le_refl _)⟩
          have HPL := Lib.hid HP.out.2.1
          rw [HPL.out]
          clear hO8 hW8 hS8
          go_wp2
          go_roundw
          case rel => exact ⟨k + 1, j + 1, _, c8, rfl, by go_num, by omega, HF.out⟩
          case measure => simp [intOf]; omega
    · obtain rfl : k = C.length := by omega
      have hCt : C.take C.length = C := List.take_of_length_le (Nat.le_refl _)
      have HF : Hid (RowsO 22 3 w.heap.size wr.heap.size wr (.slice pa pn pc) (piecesT fs C) ∧ Grew w wr) := by
        have := HI.out
        rw [hCt] at this
        exact ⟨this.1.wide H3.out.2.2.size (Nat.le_refl _), H3.out.2.2.trans this.2.2⟩
      clear hCt
      go_wp2
      rw [Exit.noGoto_ret]
      go_ret
      exact ⟨_, fs, rfl, HF.out.1, H2.out.2.1, HF.out.2⟩
end Go.Proofs.YtaeenedjmakelaaDoor
