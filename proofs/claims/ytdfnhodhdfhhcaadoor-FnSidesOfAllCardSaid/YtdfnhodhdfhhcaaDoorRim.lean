/- The contracts of spec.RimAt and impl.RimAt. -/
import Derived.Test.YtdfnhodhdfhhcaaDoorLevel
namespace Go.Proofs.YtdfnhodhdfhhcaaDoor
open Go.RowKit

def nearUp (p : List Int) (t : Int) (l : List Int) (k : Nat) : Int := sumTo (fun j => if above p t (l.getD j 0).toNat = true then 1 else 0) k
def rimC (p : List Int) (t : Int) (n m i : Nat) : Int := if above p t i = true then 4 - nearUp p t (aroundL n m i) (aroundL n m i).length else 0
def rimL (p : List Int) (t : Int) (n m k : Nat) : Int := sumTo (rimC p t n m) k
def rimX (h : List (List Int)) (t : Int) : Int := if vLevel h t = true then rimL h.flatten t h.length (h.getD 0 []).length h.flatten.length else -1

set_option maxRecDepth 100000 in
set_option maxHeartbeats 4000000 in
theorem SRimAt_any (v : Value) (h : List (List Int)) (t : Int) (w : World) (hv : RowsV w v h) :
    Calls Tryd.prog 12 #[v, .int .i64 t] w fun e w' => e = .returned (.int .i64 (rimX h t)) ∧ Grew w w' := by
  have HV := Lib.hid (validTop_any v h t w hv)
  have HR := Lib.hid hv
  obtain ⟨a, b, o, c, rfl, _, _, _⟩ := hv.shape
  clear hv
  unfold rimX
  cases hp : vLevel h t with
  | false =>
    have HP := Lib.hid hp
    clear hp
    go_enter Tryd.func12, Tryd.ntmps12
    go_wp2_with (fail)
    refine HV.out.mono ?_
    rw [HP.out]
    rintro e w1 ⟨rfl, hg1⟩
    have HG1 := Lib.hid hg1
    clear hg1
    go_wp2
    go_ret
    exact ⟨ret_int (by simp), HG1.out⟩
  | true =>
    have hg := vLevel_grid hp
    have G := Grid.of hg
    obtain ⟨p, ep⟩ : ∃ p, h.flatten = p := ⟨_, rfl⟩
    have hpl := flat_grid_len G
    obtain ⟨N, eN⟩ : ∃ N, p.length = N := ⟨_, rfl⟩
    rw [ep, eN] at hpl
    have HCE : Hid (∀ W, Grew w W → Calls Tryd.prog 40 #[.slice a h.length c] W fun e w' => e = .returned (.int .i64 N) ∧ W = w') := fun W hW => by
      have := cells_any _ h W (HR.out.grew hW) G.n1 (Nat.le_trans G.n5 (by decide)) (Nat.le_trans G.m5 (by decide))
      rwa [← hpl] at this
    have HAT : Hid (∀ (I : Nat) (W : World), Grew w W → I < N → Calls Tryd.prog 41 #[.slice a h.length c, .int .i64 I] W fun e w' => e = .returned (.int .i64 (p.getD I 0)) ∧ ∃ q, w' = W.drewN q) := fun I W hW hI => by
      have := at_any _ h I W (HR.out.grew hW) hg (by rw [← hpl]; exact hI)
      rwa [ep] at this
    have hN25 : N ≤ 25 := by rw [hpl]; exact Nat.mul_le_mul G.n5 G.m5
    obtain ⟨m, em⟩ : ∃ m, (h.getD 0 []).length = m := ⟨_, rfl⟩
    have HAR : Hid (∀ (I : Nat) (W : World), Grew w W → I < N → Calls Tryd.prog 42 #[.slice a h.length c, .int .i64 I] W (OwnI W (aroundL h.length m I))) := fun I W hW hI => by
      have := around_any _ h I W (HR.out.grew hW) hg (by rw [← hpl]; exact hI)
      rwa [em] at this
    have HFA : Hid (∀ I, I < N → (aroundL h.length m I).length ≤ 4 ∧ ∀ j, j < (aroundL h.length m I).length → ∃ k : Nat, (aroundL h.length m I).getD j 0 = (k : Int) ∧ k < N) := fun I hI => by
      have hI' : I < h.length * m := by rw [← em, ← hpl]; exact hI
      have hm5 : m ≤ 5 := by rw [← em]; exact G.m5
      have hf := around_facts G.n5 hm5 hI'
      refine ⟨hf.2.2, fun j hj => ?_⟩
      have hmem : (aroundL h.length m I).getD j 0 ∈ aroundL h.length m I := by
        have e : (aroundL h.length m I).getD j 0 = (aroundL h.length m I)[j] := by simp [hj]
        rw [e]
        exact List.getElem_mem hj
      obtain ⟨h1, h2, _⟩ := hf.1 _ hmem
      exact ⟨((aroundL h.length m I).getD j 0).toNat, by omega, by rw [hpl, em]; omega⟩
    have HP := Lib.hid hp
    have HEQ : Hid (rimL h.flatten t h.length (h.getD 0 []).length h.flatten.length = rimL p t h.length m N) := by show _ = _; rw [ep, em, eN]
    rw [if_pos rfl, HEQ.out]
    clear hp hg G ep hpl eN em
    go_enter Tryd.func12, Tryd.ntmps12
    go_wp2_with (fail)
    refine HV.out.mono ?_
    rw [HP.out]
    rintro e w1 ⟨rfl, hg1⟩
    have HG1 := Lib.hid hg1
    clear hg1
    go_wp2
    go_loopw [5, 6] (fun s i wr => ∃ (k : Nat) (n : Int), k ≤ N ∧ i = .int .i64 k ∧ s = .int .i64 n ∧ 0 ≤ n ∧ n ≤ 4 * k ∧ Hid (n = rimL p t h.length m k ∧ Grew w wr)) (fun _ i _ => N - (intOf i).toNat)
    case atStart => exact ⟨0, 0, Nat.zero_le _, rfl, rfl, Int.le_refl _, Int.le_refl _, rfl, HG1.out⟩
    case round =>
      obtain ⟨k, n, hk, rfl, rfl, hn0, hn1, HI⟩ := hrel
      go_wp2_with (fail)
      refine (HCE.out wr HI.out.2).mono ?_
      rintro e w2 ⟨rfl, rfl⟩
      by_cases hlt : k < N
      · go_wp2_with (fail)
        refine (HAT.out k wr HI.out.2 hlt).mono ?_
        obtain ⟨x, ex⟩ : ∃ x, p.getD k 0 = x := ⟨_, rfl⟩
        rw [ex]
        have HX := Lib.hid ex
        clear ex
        rintro e w3 ⟨rfl, hq⟩
        have HQ := Lib.hid (HI.out.2.trans (quiet_grew hq))
        clear hq
        by_cases htx : t < x
        · have HTX : Hid (above p t k = true) := by show _ = _; rw [above, HX.out]; exact decide_eq_true htx
          go_wp2_with (fail)
          refine (HAR.out k w3 HQ.out hlt).mono ?_
          obtain ⟨L, eL⟩ : ∃ L, aroundL h.length m k = L := ⟨_, rfl⟩
          have hfa := HFA.out k hlt
          rw [eL] at hfa ⊢
          obtain ⟨hl4, hel⟩ := hfa
          have HEL := Lib.hid hel
          have HL := Lib.hid eL
          clear hel eL
          rintro e w4 ⟨a4, c4, rfl, hO4, hg4⟩
          have H4 := Lib.hid (And.intro hO4 (HQ.out.trans hg4))
          clear hO4 hg4
          go_wp2
          go_loopw [5, 8] (fun s i wr2 => ∃ (j : Nat) (u : Int), j ≤ L.length ∧ i = .int .i64 j ∧ s = .int .i64 (n + 4 - u) ∧ 0 ≤ u ∧ u ≤ j ∧ Hid (u = nearUp p t L j ∧ Grew w4 wr2)) (fun _ i _ => L.length - (intOf i).toNat)
          case atStart => exact ⟨0, 0, Nat.zero_le _, rfl, by simp, Int.le_refl _, Int.le_refl _, rfl, Grew.refl _⟩
          case round =>
            obtain ⟨j, u, hj, rfl, rfl, hu0, hu1, HI2⟩ := hrel
            by_cases hltj : j < L.length
            · have hO := H4.out.1.grew HI2.out.2
              obtain ⟨g7, c7, e7, _, _, _, _⟩ := hO.pos (by omega)
              simp only [Value.slice.injEq] at e7
              obtain ⟨rfl, _, rfl⟩ := e7
              have hcx := (hO.at rfl (i := j) hltj).1
              obtain ⟨K, eK, hKN⟩ := HEL.out j hltj
              have HK : Hid ((L.getD j 0).toNat = K) := by show _ = _; rw [eK]; simp
              rw [eK] at hcx
              clear hO eK
              go_wp2_with (fail)
              refine (HAT.out K wr (H4.out.2.trans HI2.out.2) hKN).mono ?_
              obtain ⟨y, ey⟩ : ∃ y, p.getD K 0 = y := ⟨_, rfl⟩
              rw [ey]
              have HY := Lib.hid ey
              clear ey
              rintro e w6 ⟨rfl, hq⟩
              have HQ6 := Lib.hid (HI2.out.2.trans (quiet_grew hq))
              clear hq
              by_cases hty : t < y
              · have HTY : Hid (above p t (L.getD j 0).toNat = true) := by show _ = _; rw [HK.out, above, HY.out]; exact decide_eq_true hty
                go_wp2
                go_roundw
                case rel => exact ⟨j + 1, u + 1, by omega, by go_num, by first | (congr 1; omega) | go_num, by omega, by omega, by show _ = _; rw [nearUp, sumTo, ← nearUp, ← HI2.out.1, if_pos HTY.out], HQ6.out⟩
                case measure => simp [intOf]; omega
              · have HTY : Hid (above p t (L.getD j 0).toNat = false) := by show _ = _; rw [HK.out, above, HY.out]; exact decide_eq_false hty
                go_wp2
                go_roundw
                case rel => exact ⟨j + 1, u, by omega, by go_num, rfl, by omega, by omega, by show _ = _; rw [nearUp, sumTo, ← nearUp, ← HI2.out.1, if_neg (by rw [HTY.out]; simp), Int.add_zero], HQ6.out⟩
                case measure => simp [intOf]; omega
            · obtain rfl : j = L.length := by omega
              go_wp2
              go_roundw
              case rel => exact ⟨k + 1, n + (4 - u), by omega, by go_num, by first | (congr 1; omega) | go_num, by omega, by omega, by show _ = _; rw [rimL, sumTo, ← rimL, ← HI.out.1, rimC, if_pos HTX.out, HL.out, HI2.out.1], H4.out.2.trans HI2.out.2⟩
              case measure => simp [intOf]; omega
        · have HTX : Hid (above p t k = false) := by show _ = _; rw [above, HX.out]; exact decide_eq_false htx
          go_wp2
          go_roundw
          case rel => exact ⟨k + 1, n, by omega, by go_num, rfl, by omega, by omega, by show _ = _; rw [rimL, sumTo, ← rimL, ← HI.out.1, rimC, if_neg (by rw [HTX.out]; simp), Int.add_zero], HQ.out⟩
          case measure => simp [intOf]; omega
      · obtain rfl : k = N := by omega
        go_wp2
        go_ret
        exact ⟨ret_int HI.out.1, HI.out.2⟩

theorem where_at {N : Nat} {P : Nat → Bool} {j : Nat} (hj : j < (whereL N P).length) : ∃ I : Nat, (whereL N P).getD j 0 = (I : Int) ∧ I < N := by
  have e : (whereL N P).getD j 0 = (whereL N P)[j] := by simp [hj]
  have hm : (whereL N P)[j] ∈ whereL N P := List.getElem_mem hj
  obtain ⟨I, hI, eI⟩ := List.mem_map.1 hm
  exact ⟨I, by rw [e, ← eI], List.mem_range.1 (List.mem_filter.1 hI).1⟩
theorem where_sum (P : Nat → Bool) (f : Nat → Int) : ∀ N, sumTo (fun j => f ((whereL N P).getD j 0).toNat) (whereL N P).length = sumTo (fun i => if P i = true then f i else 0) N
  | 0 => rfl
  | N + 1 => by
    rw [sumTo, ← where_sum P f N, whereL_succ]
    cases hP : P N with
    | false => simp
    | true =>
      rw [if_pos rfl, if_pos rfl, List.length_append, List.length_singleton, sumTo]
      congr 1
      · exact sumTo_congr fun j hj => by
          have e : (whereL N P ++ [(N : Int)]).getD j 0 = (whereL N P).getD j 0 := by
            simp only [List.getD_eq_getElem?_getD]
            rw [List.getElem?_append_left hj]
          rw [e]
      · simp

set_option maxRecDepth 100000 in
set_option maxHeartbeats 4000000 in
theorem RimAt_any (v : Value) (h : List (List Int)) (t : Int) (w : World) (hv : RowsV w v h) (hS : Steps w) :
    Calls Tryd.prog 11 #[v, .int .i64 t] w fun e w' => e = .returned (.int .i64 (rimX h t)) ∧ Grew w w' := by
  have HV := Lib.hid (validLevel_any v h t w hv)
  have HR := Lib.hid (And.intro hv hS)
  obtain ⟨a, b, o, c, rfl, _, _, _⟩ := hv.shape
  clear hv hS
  unfold rimX
  cases hp : vLevel h t with
  | false =>
    have HP := Lib.hid hp
    clear hp
    go_enter Tryd.func11, Tryd.ntmps11
    go_wp2_with (fail)
    refine HV.out.mono ?_
    rw [HP.out]
    rintro e w1 ⟨rfl, rfl⟩
    go_wp2
    go_ret
    exact ⟨ret_int (by simp), Grew.refl _⟩
  | true =>
    have hg := vLevel_grid hp
    have G := Grid.of hg
    have hpl := flat_grid_len G
    obtain ⟨p, ep⟩ : ∃ p, h.flatten = p := ⟨_, rfl⟩
    obtain ⟨N, eN⟩ : ∃ N, p.length = N := ⟨_, rfl⟩
    obtain ⟨m, em⟩ : ∃ m, (h.getD 0 []).length = m := ⟨_, rfl⟩
    rw [ep, eN] at hpl
    have HHT := Lib.hid (higherThan_any _ h t w HR.out.1 hg)
    rw [ep, eN] at HHT
    have HCW : Hid (∀ (W : World) (lb : Array Value), Grew w W → Tells 59 lb N (above p t) W → Calls Tryd.prog 37 #[.slice a h.length c, .func (.func 59) #[] lb] W fun e w' => ∃ a c, e = .returned (.slice a (whereL N (above p t)).length c) ∧ IntsO 3 W.heap.size w'.heap.size w' (.slice a (whereL N (above p t)).length c) (whereL N (above p t)) ∧ Grew W w') :=
      fun W lb hW hT => cellsWhere_any _ h N (above p t) _ lb (enters_of Tryd.func59 (by kernel_rfl) rfl) W (HR.out.1.grew hW) hg hpl.symm hT
    have HCB : Hid (∀ (I : Nat) (W : World), Grew w W → I < N → Calls Tryd.prog 38 #[.slice a h.length c, .int .i64 I] W (OwnI W (aroundL h.length m I))) := fun I W hW hI => by
      have := cellsBeside_any _ h I W (HR.out.1.grew hW) hg (by rw [← hpl]; exact hI) (HR.out.2.grew hW)
      rwa [em] at this
    have HFA : Hid (∀ I, I < N → (aroundL h.length m I).length ≤ 4 ∧ ∀ j, j < (aroundL h.length m I).length → ∃ k : Nat, (aroundL h.length m I).getD j 0 = (k : Int) ∧ k < N) := fun I hI => by
      have hI' : I < h.length * m := by rw [← em, ← hpl]; exact hI
      have hm5 : m ≤ 5 := by rw [← em]; exact G.m5
      have hf := around_facts G.n5 hm5 hI'
      refine ⟨hf.2.2, fun j hj => ?_⟩
      have hmem : (aroundL h.length m I).getD j 0 ∈ aroundL h.length m I := by
        have e : (aroundL h.length m I).getD j 0 = (aroundL h.length m I)[j] := by simp [hj]
        rw [e]
        exact List.getElem_mem hj
      obtain ⟨h1, h2, _⟩ := hf.1 _ hmem
      exact ⟨((aroundL h.length m I).getD j 0).toNat, by omega, by rw [hpl, em]; omega⟩
    have hN25 : N ≤ 25 := by rw [hpl]; exact Nat.mul_le_mul G.n5 G.m5
    have HEQ : Hid (rimL h.flatten t h.length (h.getD 0 []).length h.flatten.length = sumTo (fun j => 4 - nearUp p t (aroundL h.length m ((whereL N (above p t)).getD j 0).toNat) (aroundL h.length m ((whereL N (above p t)).getD j 0).toNat).length) (whereL N (above p t)).length) := by
      show _ = _
      rw [ep, em, eN]
      exact (where_sum (above p t) (fun i => 4 - nearUp p t (aroundL h.length m i) (aroundL h.length m i).length) N).symm
    have hwl := whereL_len N (above p t)
    have HWA : Hid (∀ j, j < (whereL N (above p t)).length → ∃ I : Nat, (whereL N (above p t)).getD j 0 = (I : Int) ∧ I < N) := fun j hj => where_at hj
    obtain ⟨Q, eQ⟩ : ∃ Q, whereL N (above p t) = Q := ⟨_, rfl⟩
    rw [eQ] at HCW HEQ hwl HWA
    have HP := Lib.hid hp
    rw [if_pos rfl, HEQ.out]
    clear hp hg G ep hpl eN em eQ HEQ
    have eg := enters_of Tryd.func59 (by kernel_rfl) rfl
    go_enter Tryd.func11, Tryd.ntmps11
    go_wp2_with (fail)
    refine HV.out.mono ?_
    rw [HP.out]
    rintro e w1 ⟨rfl, rfl⟩
    go_wp2_with (fail)
    refine HHT.out.mono ?_
    rintro e w2 ⟨lb, rfl, hT, hg2⟩
    have H2 := Lib.hid (And.intro hT hg2)
    clear hT hg2
    go_wp2_with (fail)
    refine (HCW.out w2 lb H2.out.2 H2.out.1).mono ?_
    rintro e w3 ⟨a3, c3, rfl, hO3, hg3⟩
    have H3 := Lib.hid (And.intro hO3 (H2.out.2.trans hg3))
    have HT3 := Lib.hid (H2.out.1.grew hg3)
    clear hO3 hg3
    go_wp2
    go_loopw [6, 22] (fun s i wr => ∃ (k : Nat) (n : Int), k ≤ Q.length ∧ i = .int .i64 k ∧ s = .int .i64 n ∧ 0 ≤ n ∧ n ≤ 4 * k ∧ Hid (n = sumTo (fun j => 4 - nearUp p t (aroundL h.length m (Q.getD j 0).toNat) (aroundL h.length m (Q.getD j 0).toNat).length) k ∧ Grew w3 wr)) (fun _ i _ => Q.length - (intOf i).toNat)
    case atStart => exact ⟨0, 0, Nat.zero_le _, rfl, rfl, Int.le_refl _, Int.le_refl _, rfl, Grew.refl _⟩
    case round =>
      obtain ⟨k, n, hk, rfl, rfl, hn0, hn1, HI⟩ := hrel
      by_cases hlt : k < Q.length
      · have hO := H3.out.1.grew HI.out.2
        obtain ⟨g7, c7, e7, _, _, _, _⟩ := hO.pos (by omega)
        simp only [Value.slice.injEq] at e7
        obtain ⟨rfl, _, rfl⟩ := e7
        have hcx := (hO.at rfl (i := k) hlt).1
        obtain ⟨I, eI, hIN⟩ := HWA.out k hlt
        obtain ⟨L, eL⟩ : ∃ L, aroundL h.length m I = L := ⟨_, rfl⟩
        have HL : Hid (aroundL h.length m (Q.getD k 0).toNat = L) := by show _ = _; rw [eI]; simpa using eL
        rw [eI] at hcx
        have hfa := HFA.out I hIN
        have HCI := Lib.hid (HCB.out I wr (H3.out.2.trans HI.out.2) hIN)
        rw [eL] at hfa HCI
        obtain ⟨hl4, hel⟩ := hfa
        have HEL := Lib.hid hel
        clear hO eI eL hel
        go_wp2_with (fail)
        refine HCI.out.mono ?_
        rintro e w4 ⟨a4, c4, rfl, hO4, hg4⟩
        have H4 := Lib.hid (And.intro hO4 (HI.out.2.trans hg4))
        clear hO4 hg4
        go_wp2
        go_loopw [6, 32] (fun s i wr2 => ∃ (j : Nat) (u : Int), j ≤ L.length ∧ i = .int .i64 j ∧ s = .int .i64 (n + 4 - u) ∧ 0 ≤ u ∧ u ≤ j ∧ Hid (u = nearUp p t L j ∧ Grew w4 wr2)) (fun _ i _ => L.length - (intOf i).toNat)
        case atStart => exact ⟨0, 0, Nat.zero_le _, rfl, by simp, Int.le_refl _, Int.le_refl _, rfl, Grew.refl _⟩
        case round =>
          obtain ⟨j, u, hj, rfl, rfl, hu0, hu1, HI2⟩ := hrel
          by_cases hltj : j < L.length
          · have hO := H4.out.1.grew HI2.out.2
            obtain ⟨g8, c8, e8, _, _, _, _⟩ := hO.pos (by omega)
            simp only [Value.slice.injEq] at e8
            obtain ⟨rfl, _, rfl⟩ := e8
            have hcy := (hO.at rfl (i := j) hltj).1
            obtain ⟨K, eK, hKN⟩ := HEL.out j hltj
            have HK : Hid ((L.getD j 0).toNat = K) := by show _ = _; rw [eK]; simp
            rw [eK] at hcy
            have HCL := Lib.hid (HT3.out K wr (H4.out.2.trans HI2.out.2) hKN)
            clear hO eK
            go_wp2_with (fail)
            refine HCL.out.mono ?_
            cases hP : above p t K with
            | true =>
              have HTY : Hid (above p t (L.getD j 0).toNat = true) := by show _ = _; rw [HK.out, hP]
              clear hP
              rintro e w6 ⟨rfl, hq⟩
              have HQ6 := Lib.hid (HI2.out.2.trans (quiet_grew hq))
              clear hq
              go_wp2
              go_roundw
              case rel => exact ⟨j + 1, u + 1, by omega, by go_num, by first | (congr 1; omega) | go_num, by omega, by omega, by show _ = _; rw [nearUp, sumTo, ← nearUp, ← HI2.out.1, if_pos HTY.out], HQ6.out⟩
              case measure => simp [intOf]; omega
            | false =>
              have HTY : Hid (above p t (L.getD j 0).toNat = false) := by show _ = _; rw [HK.out, hP]
              clear hP
              rintro e w6 ⟨rfl, hq⟩
              have HQ6 := Lib.hid (HI2.out.2.trans (quiet_grew hq))
              clear hq
              go_wp2
              go_roundw
              case rel => exact ⟨j + 1, u, by omega, by go_num, rfl, by omega, by omega, by show _ = _; rw [nearUp, sumTo, ← nearUp, ← HI2.out.1, if_neg (by rw [HTY.out]; simp), Int.add_zero], HQ6.out⟩
              case measure => simp [intOf]; omega
          · obtain rfl : j = L.length := by omega
            go_wp2
            go_roundw
            case rel => exact ⟨k + 1, n + (4 - u), by omega, by go_num, by first | (congr 1; omega) | go_num, by omega, by omega, by show _ = _; rw [sumTo, ← HI.out.1, HL.out, HI2.out.1], H4.out.2.trans HI2.out.2⟩
            case measure => simp [intOf]; omega
      · obtain rfl : k = Q.length := by omega
        go_wp2
        go_ret
        exact ⟨ret_int HI.out.1, H3.out.2.trans HI.out.2⟩
end Go.Proofs.YtdfnhodhdfhhcaaDoor
