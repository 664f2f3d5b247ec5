/- The law of UnionPartition. -/
import Derived.Test.YtjecafjdlfdpcaaPunA
namespace Go.Proofs.Ytjecafjdlfdpcaa
open Go.RowKit
set_option linter.unusedVariables false
/-- The numbers of one side. -/
def sideL (N : Nat) (A : List Int) (s : Nat) : List Int := (A.drop (s * N)).take N
def up8 (xs : List Int) : List Int := xs.map (fun x => x + 8)
/-- The marks of the first s sides of a union. -/
def umL (N M : Nat) (A B : List Int) : Nat → List Int
  | 0 => []
  | s + 1 => umL N M A B s ++ sideL N A s ++ up8 (sideL M B s)
theorem sideL_len (N : Nat) (A : List Int) (s : Nat) (hA : A.length = 8) (hN : N ≤ 4) (hs : s < 2) : (sideL N A s).length = N := by
  have : s = 0 ∨ s = 1 := by omega
  rcases this with rfl | rfl <;> (simp [sideL]; omega)
theorem up8_len (xs : List Int) : (up8 xs).length = xs.length := by simp [up8]
theorem up8_take (xs : List Int) (k : Nat) (h : k < xs.length) : up8 (xs.take (k + 1)) = up8 (xs.take k) ++ [xs.getD k 0 + 8] := by
  unfold up8
  rw [List.take_succ_eq_append_getElem h, List.map_append, List.getD_eq_getElem?_getD, List.getElem?_eq_getElem h]; rfl
theorem umL_len (N M : Nat) (A B : List Int) (hA : A.length = 8) (hB : B.length = 8) (hN : N ≤ 4) (hM : M ≤ 4) : ∀ s, s ≤ 2 → (umL N M A B s).length = s * (N + M)
  | 0, _ => by simp [umL]
  | s + 1, h => by
    rw [umL, List.length_append, List.length_append, umL_len N M A B hA hB hN hM s (by omega), up8_len, sideL_len N A s hA hN (by omega), sideL_len M B s hB hM (by omega), Nat.add_mul]; omega
theorem sideL_get (M : Nat) (B : List Int) (s j : Nat) (hj : j < M) : (sideL M B s).getD j 0 = B.getD (s * M + j) 0 := by
  unfold sideL
  rw [getD_take _ _ _ hj]
  simp [List.getD_eq_getElem?_getD]
/-- The numbers of a union's parts. -/
def unP (n m : Int) (A B : List Int) : List Int := told (umL n.toNat m.toNat A B 2)
theorem unP_len (n m : Int) (A B : List Int) (hA : A.length = 8) (hB : B.length = 8) (h1 : 1 ≤ n) (h2 : 1 ≤ m) (h4 : n + m ≤ 4) : (unP n m A B).length = 8 :=
  told_len _ (by rw [umL_len _ _ _ _ hA hB (by omega) (by omega) 2 (by omega)]; omega)
theorem mkC (K : Nat) (h2 : 2 ≤ K) (h4 : K ≤ 4) : ∀ w : World, (Instr.makeSlice 58 (.int .i64 0) (.int .i64 (2 * (K : Int)))).run Try.prog w = .ok (.slice (some ⟨w.heap.size, 0, none⟩) 0 (2 * K)) (w.alloc (.cells (mcells (List.replicate (2 * K) 0)) 5)) := by
  have h : K = 2 ∨ K = 3 ∨ K = 4 := by omega
  clear h2 h4
  rcases h with rfl | rfl | rfl <;> (intro w; kernel_rfl)
theorem sl8z (b N : Nat) (h1 : 1 ≤ N) (h4 : N ≤ 4) : ∀ w : World, (Instr.sliceAt 22 (.pointer (some ⟨b, 1, none⟩)) (some (.int .i64 0)) (some (.int .i64 (N : Int))) none).run Try.prog w = .ok (.slice (some ⟨b, 1, none⟩) N 8) w := by
  have h : N = 1 ∨ N = 2 ∨ N = 3 ∨ N = 4 := by omega
  clear h1 h4
  rcases h with rfl | rfl | rfl | rfl <;> (intro w; kernel_rfl)
theorem RowB.start (w : World) (base cap : Nat) (cs : Array Value) (hb : base ≤ w.heap.size) (hs : cs.size = cap) (hc : cap ≤ maxLen) : RowB (w.alloc (.cells cs 5)) base (.slice (some ⟨w.heap.size, 0, none⟩) 0 cap) [] :=
  ⟨by simp, .inr ⟨w.heap.size, cap, cs, rfl, hb, Own.new _ _ _, Nat.zero_le _, hc, by simpa using hs, by simp⟩⟩
set_option maxRecDepth 100000 in
set_option maxHeartbeats 4000000 in
theorem unI_nat (N M : Nat) (ms es : List Int) (hms : ms.length = 8) (hes : es.length = 8) (hd : isP N ms = true) (hd2 : isP M es = true) (w : World) (h1 : 1 ≤ N) (h2 : 1 ≤ M) (h4 : N + M ≤ 4) :
    Calls Try.prog 26 #[.agg (dcells N ms), .agg (dcells M es)] w fun e w' => e = .returned (.tuple #[.agg (dcells ((N : Int) + M) (unP N M ms es)), .int .i64 0]) ∧ Below w.heap.size w w' := by
  have hl := Lib.hid hms
  have hl2 := Lib.hid hes
  have hnum := Lib.hid (isP_nums hes hd2)
  have hc := Lib.hid (fun w => isPI_any N ms hms w)
  have hc2 := Lib.hid (fun w => isPI_any M es hes w)
  rw [hd] at hc
  rw [hd2] at hc2
  have hum := Lib.hid (umL_len N M ms es hms hes (by omega) (by omega))
  have hpom := Lib.hid (fun wx g cap base (hI : Bys wx base g cap (umL N M ms es 2)) => pomB_any g 0 cap (2 * (N + M)) ((N : Int) + M) (umL N M ms es 2) wx (hum.out 2 (by omega)) (by omega) (by omega) hI.lt (fun j hj => by rw [Nat.zero_add]; exact hI.cell j hj))
  have hU := Lib.hid (show told (umL N M ms es 2) = unP N M ms es by unfold unP; simp)
  have hUl := Lib.hid (unP_len (N : Int) M ms es hms hes (by omega) (by omega) (by omega))
  have hne := Lib.hid (show umL N M ms es 2 ≠ [] from fun e => by have := hum.out 2 (by omega); rw [e] at this; simp at this; omega)
  have hmk := mkC (N + M) (by omega) h4
  rw [Int.natCast_add] at hmk
  clear hms hes hd hd2
  go_enter Try.func26, Try.ntmps26
  go_wp2_with (first
    | (refine wpList_load_row rfl 26 _ rfl _ rfl 26 _ (0, 0) _ (((Own.new _ _ _).alloc _).alloc _) Try.underlying26 rfl (rowP (d9 _ _ (hl.out))) ?_)
    | (refine wpList_load_row_if rfl 26 _ rfl _ rfl 26 _ _ (hA2) Try.underlying26 rfl (rowP (d9 _ _ (hl2.out))) ?_)
    | (go_at_call 15; ((with_reducible refine (hc2.out w1).mono ?_); rintro e w2 ⟨rfl, hB2⟩; have hA3 := hA1.below hB2 hA1.lt; have hA4 := hA2.below hB2 hA2.lt; have hR2 := hR1.below hB2 hR1.lt; have hBx : Below w.heap.size w w2 := hBw.trans (hB2.mono hBw.size); have hC3 := hA3.cell 0; rw [dcells_zero] at hC3; have hC4 := hA4.cell 0; rw [dcells_zero] at hC4; clear hA1 hA2 hR1 hBw hB2))
    | (go_at_call 15; ((with_reducible refine (hc.out _).mono ?_); rintro e w1 ⟨rfl, hB1⟩; have hA1 : Own w1 w.heap.size (dcells N ms) 26 := (((Own.new _ _ _).alloc _).alloc _).below hB1 (by simp <;> omega); have hA2 : Own w1 (w.heap.size + 1) (dcells M es) 26 := ((Own.at _ _ _ (by simp)).alloc _).below hB1 (by simp <;> omega); have hR1 : Own w1 (w.heap.size + 1 + 1) zp 26 := (Own.at _ _ _ (by simp)).below hB1 (by simp); have hBw : Below w.heap.size w w1 := ((((Below.refl w.heap.size w).alloc (Nat.le_refl _) _).alloc (by simp) _).alloc (by simp <;> omega) _).trans (hB1.mono (by simp <;> omega)); clear hB1)))
  go_quiet (fail)
  have hO := Lib.hid (hA3.drewN nq)
  have hP := Lib.hid (hA4.drewN nq)
  have hR := Lib.hid (hR2.drewN nq)
  have hBy := Lib.hid (Below.drewN hBx nq)
  clear hA3 hA4 hC3 hC4 hR2 hBx
  obtain ⟨w3, hw3⟩ : ∃ w3, w2.drewN nq = w3 := ⟨_, rfl⟩
  rw [hw3] at hO hP hR hBy ⊢
  clear hw3
  go_wp2
  have hv0 := RowB.start w3 w3.heap.size (2 * (N + M)) (mcells (List.replicate (2 * (N + M)) 0)) (Nat.le_refl _) (by simp [mcells]) (by unfold maxLen; omega)
  have hB0 : Below w3.heap.size w3 (w3.alloc (.cells (mcells (List.replicate (2 * (N + M)) 0)) 5)) := (Below.refl _ _).alloc (Nat.le_refl _) _
  clear hmk
  go_loopw [8, 35] (fun v i wr => ∃ s : Nat, s ≤ 2 ∧ i = .int .i64 s ∧ RowB wr w3.heap.size v (umL N M ms es s) ∧ Below w3.heap.size w3 wr) (fun _ i _ => (2 - intOf i).toNat)
  case atStart => exact ⟨0, by omega, rfl, hv0, hB0⟩
  case round =>
    clear hv0 hB0
    obtain ⟨s, hs, rfl, hv, hB⟩ := hrel

    by_cases hs0 : s = 0
    · subst hs0
      · have ea := Lib.hid (show sideL N ms 0 = (ms.drop 0).take N by simp [sideL])
        have hla := sideL_len N ms 0 hl.out (by omega) (by omega)
        have hlb := sideL_len M es 0 hl2.out (by omega) (by omega)
        have HLB := Lib.hid hlb
        have HLA := Lib.hid hla
        have hrd : RdA wr ⟨w.heap.size, 1, none⟩ (sideL N ms 0) := by rw [ea.out]; exact (hO.out.below hB hO.out.lt).rdA 0 N (by rw [hl.out]; omega)
        have HRD := Lib.hid hrd
        have hsA := sl8z w.heap.size N h1 (by omega)
        have hsB := sl8z (w.heap.size + 1) M h2 (by omega)
        clear hla hlb hrd
        go_wp2_with (first
          | (refine wpList_append_rowB rfl (.tmp 38) (.tmp 47) rfl w3.heap.size _ (umL N M ms es 0) (sideL N ms 0) rfl hv ⟨w.heap.size, 1, none⟩ 8 (by rw [HLA.out]; rfl) HRD.out (by rw [HLA.out, hum.out 0 (by omega)]; omega) hB.size ?_; intro v4 w4 hv4 hG4))
        have hB4 := hB.grown hG4 hB.size hv.blk
        clear hv hG4 hB
        go_loopw [8, 59] (fun x j wr => ∃ k : Nat, k ≤ M ∧ j = .int .i64 k ∧ RowB wr w3.heap.size x (umL N M ms es 0 ++ sideL N ms 0 ++ up8 ((sideL M es 0).take k)) ∧ Below w3.heap.size w3 wr) (fun _ j _ => ((M : Int) - intOf j).toNat)
        case atStart => exact ⟨0, by omega, rfl, by simpa [up8] using hv4, hB4⟩
        case round =>
          clear hv4 hB4
          obtain ⟨j, hj, rfl, hv, hB⟩ := hrel
          by_cases hlt : j < M
          · have hP2 := hP.out.below hB hP.out.lt
            have cB := hP2.cell (1 + j)
            rw [dcells_get _ _ _ (by rw [hl2.out]; omega)] at cB
            have hst := up8_take (sideL M es 0) j (by rw [HLB.out]; exact hlt)
            rw [sideL_get M es 0 j hlt] at hst
            have hidx : 0 * M + j = j := by omega
            rw [hidx] at hst
            have hx := hnum.out j
            obtain ⟨y, hy⟩ : ∃ y, es.getD j 0 = y := ⟨_, rfl⟩
            rw [hy] at cB hst hx
            skip
            obtain ⟨x0, x8⟩ := hx
            have i1 : (j : Int) < (M : Int) := by omega
            have hst' := Lib.hid hst
            have hlen := Lib.hid (show (umL N M ms es 0 ++ sideL N ms 0 ++ up8 ((sideL M es 0).take j)).length + 1 < 1000000 by
              rw [List.length_append, List.length_append, up8_len, HLA.out, hum.out 0 (by omega), List.length_take, HLB.out]; omega)
            clear hst hidx hy hP2
            go_wp2_with (first
              | (refine wpList_append_rowB rfl (.tmp 63) (.tmp 66) rfl w3.heap.size _ _ [y + 8] rfl (hv.alloc _) ⟨wr.heap.size, 0, none⟩ 1 rfl (one_cellB wr (y + 8) rfl) hlen.out (by simp; have := hB.size; omega) ?_; intro v5 w5 hv5 hG5))
            have hB5 : Below w3.heap.size w3 w5 := (hB.alloc hB.size _).grown hG5 (by simp; have := hB.size; omega) hv.blk
            rw [List.append_assoc _ _ [y + 8], ← hst'.out] at hv5
            clear hv hG5 hB
            go_wp2
            go_roundw
            case rel => exact ⟨j + 1, by omega, by go_num, hv5, hB5⟩
            case measure => simp [intOf]; omega
          · obtain rfl : j = M := by omega
            have e : (sideL j es 0).take j = sideL j es 0 := List.take_of_length_le (by rw [HLB.out]; exact Nat.le_refl _)
            rw [e] at hv
            clear e
            go_wp2
            go_roundw
            case rel => exact ⟨1, by omega, by go_num, hv, hB⟩
            case measure => simp [intOf] <;> omega

    · by_cases hs1 : s = 1
      · subst hs1
        have ea := Lib.hid (show sideL N ms 1 = (ms.drop N).take N by simp [sideL])
        have hla := sideL_len N ms 1 hl.out (by omega) (by omega)
        have hlb := sideL_len M es 1 hl2.out (by omega) (by omega)
        have HLB := Lib.hid hlb
        have HLA := Lib.hid hla
        have hrd : RdA wr ⟨w.heap.size, 1 + N, none⟩ (sideL N ms 1) := by rw [ea.out]; exact (hO.out.below hB hO.out.lt).rdA N N (by rw [hl.out]; omega)
        have HRD := Lib.hid hrd
        have hsA := sl8lh w.heap.size N h1 (by omega)
        have hsB := sl8lh (w.heap.size + 1) M h2 (by omega)
        clear hla hlb hrd
        go_wp2_with (first
          | (refine wpList_append_rowB rfl (.tmp 38) (.tmp 47) rfl w3.heap.size _ (umL N M ms es 1) (sideL N ms 1) rfl hv ⟨w.heap.size, 1 + N, none⟩ (8 - N) (by rw [HLA.out]; rfl) HRD.out (by rw [HLA.out, hum.out 1 (by omega)]; omega) hB.size ?_; intro v4 w4 hv4 hG4))
        have hB4 := hB.grown hG4 hB.size hv.blk
        clear hv hG4 hB
        go_loopw [8, 59] (fun x j wr => ∃ k : Nat, k ≤ M ∧ j = .int .i64 k ∧ RowB wr w3.heap.size x (umL N M ms es 1 ++ sideL N ms 1 ++ up8 ((sideL M es 1).take k)) ∧ Below w3.heap.size w3 wr) (fun _ j _ => ((M : Int) - intOf j).toNat)
        case atStart => exact ⟨0, by omega, rfl, by simpa [up8] using hv4, hB4⟩
        case round =>
          clear hv4 hB4
          obtain ⟨j, hj, rfl, hv, hB⟩ := hrel
          by_cases hlt : j < M
          · have hP2 := hP.out.below hB hP.out.lt
            have cB := hP2.cell (1 + (M + j))
            rw [dcells_get _ _ _ (by rw [hl2.out]; omega)] at cB
            have hst := up8_take (sideL M es 1) j (by rw [HLB.out]; exact hlt)
            rw [sideL_get M es 1 j hlt] at hst
            have hidx : 1 * M + j = (M + j) := by omega
            rw [hidx] at hst
            have hx := hnum.out (M + j)
            obtain ⟨y, hy⟩ : ∃ y, es.getD (M + j) 0 = y := ⟨_, rfl⟩
            rw [hy] at cB hst hx
            rw [← Nat.add_assoc] at cB
            obtain ⟨x0, x8⟩ := hx
            have i1 : (j : Int) < (M : Int) := by omega
            have hst' := Lib.hid hst
            have hlen := Lib.hid (show (umL N M ms es 1 ++ sideL N ms 1 ++ up8 ((sideL M es 1).take j)).length + 1 < 1000000 by
              rw [List.length_append, List.length_append, up8_len, HLA.out, hum.out 1 (by omega), List.length_take, HLB.out]; omega)
            clear hst hidx hy hP2
            go_wp2_with (first
              | (refine wpList_append_rowB rfl (.tmp 63) (.tmp 66) rfl w3.heap.size _ _ [y + 8] rfl (hv.alloc _) ⟨wr.heap.size, 0, none⟩ 1 rfl (one_cellB wr (y + 8) rfl) hlen.out (by simp; have := hB.size; omega) ?_; intro v5 w5 hv5 hG5))
            have hB5 : Below w3.heap.size w3 w5 := (hB.alloc hB.size _).grown hG5 (by simp; have := hB.size; omega) hv.blk
            rw [List.append_assoc _ _ [y + 8], ← hst'.out] at hv5
            clear hv hG5 hB
            go_wp2
            go_roundw
            case rel => exact ⟨j + 1, by omega, by go_num, hv5, hB5⟩
            case measure => simp [intOf]; omega
          · obtain rfl : j = M := by omega
            have e : (sideL j es 1).take j = sideL j es 1 := List.take_of_length_le (by rw [HLB.out]; exact Nat.le_refl _)
            rw [e] at hv
            clear e
            go_wp2
            go_roundw
            case rel => exact ⟨2, by omega, by go_num, hv, hB⟩
            case measure => simp [intOf] <;> omega

      · obtain rfl : s = 2 := by omega
        obtain ⟨g, cap, rfl, hI⟩ := hv.mn hne.out
        have hU2 := hum.out 2 (by omega)
        unfold bval
        rw [hU2]
        have hR3 := hR.out.below hB hR.out.lt
        have hBz := hBy.out.trans (hB.mono hBy.out.size)
        go_wp2_with (first
          | (go_at_call 42; ((with_reducible refine (hpom.out _ _ _ _ hI).mono ?_); rintro e w6 ⟨rfl, hB6⟩))
          | (refine wpList_store_own rfl 26 _ _ rfl _ _ rfl rfl 26 _ (hR3.below hB6 hR3.lt) (rowP (d9 _ _ (by rw [hU.out]; exact hUl.out))) (z_eq8 (d9 _ _ (by rw [hU.out]; exact hUl.out))) (dcells_one _ _) ?_; intro w7 hO7 hN7))
        have hO8 : Own w7 (w.heap.size + 1 + 1) (dcells ((N : Int) + M) (unP N M ms es)) 26 := by rw [← hU.out]; exact hO7
        refine bodyPost_ret (v := .tuple #[.agg (dcells ((N : Int) + M) (unP N M ms es)), .int .i64 0]) (results_row_tmp rfl _ _ _ _ _ (0, 0) _ rfl (hO8) Try.underlying26 rfl (rowP (d9 _ _ (hUl.out))) _ rfl) rfl (⟨rfl, (hBz.trans (hB6.mono hBz.size)).trans (hN7.below.mono (by omega))⟩)
end Go.Proofs.Ytjecafjdlfdpcaa
