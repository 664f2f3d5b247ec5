/- The law of UnionPartition. -/
import Derived.Test.YtjecafjdlfdpcaaPunB
namespace Go.Proofs.Ytjecafjdlfdpcaa
open Go.RowKit
set_option linter.unusedVariables false
set_option maxRecDepth 100000 in
set_option maxHeartbeats 4000000 in
theorem unS_nat (N M : Nat) (ms es : List Int) (hms : ms.length = 8) (hes : es.length = 8) (hb : Bytes ms) (hb2 : Bytes es) (hd : isP N ms = true) (hd2 : isP M es = true) (w : World) (h1 : 1 ≤ N) (h2 : 1 ≤ M) (h4 : N + M ≤ 4) :
    Calls Try.prog 25 #[.agg (dcells N ms), .agg (dcells M es)] w fun e w' => e = .returned (.tuple #[.agg (dcells ((N : Int) + M) (unP N M ms es)), .int .i64 0]) ∧ Below w.heap.size w w' := by
  have hl := Lib.hid hms
  have hl2 := Lib.hid hes
  have hnumA := Lib.hid (isP_nums hms hd)
  have hnum := Lib.hid (isP_nums hes hd2)
  have hc := Lib.hid (fun w => isPS_any N ms hms hb w)
  have hc2 := Lib.hid (fun w => isPS_any M es hes hb2 w)
  rw [hd] at hc
  rw [hd2] at hc2
  have hum := Lib.hid (umL_len N M ms es hms hes (by omega) (by omega))
  have hpom := Lib.hid (fun wx g cap base (hI : Ints wx base g cap (umL N M ms es 2)) => toldS_any g 0 cap (2 * (N + M)) ((N : Int) + M) (umL N M ms es 2) wx (hum.out 2 (by omega)) (by omega) (by omega) hI.lt hI.rdf)
  have hU := Lib.hid (show told (umL N M ms es 2) = unP N M ms es by unfold unP; simp)
  have hUl := Lib.hid (unP_len (N : Int) M ms es hms hes (by omega) (by omega) (by omega))
  have hmk := mkE7
  clear hms hes hd hd2 hb hb2
  go_enter Try.func25, Try.ntmps25
  go_wp2_with (first
    | (refine wpList_load_row rfl 26 _ rfl _ rfl 26 _ (0, 0) _ (((Own.new _ _ _).alloc _).alloc _) Try.underlying26 rfl (rowP (d9 _ _ (hl.out))) ?_)
    | (refine wpList_load_row_if rfl 26 _ rfl _ rfl 26 _ _ (hA2) Try.underlying26 rfl (rowP (d9 _ _ (hl2.out))) ?_)
    | (go_at_call 39; ((with_reducible refine (hc2.out w1).mono ?_); rintro e w2 ⟨rfl, hB2⟩; have hA3 := hA1.below hB2 hA1.lt; have hA4 := hA2.below hB2 hA2.lt; have hR2 := hR1.below hB2 hR1.lt; have hBx : Below w.heap.size w w2 := hBw.trans (hB2.mono hBw.size); have hC3 := hA3.cell 0; rw [dcells_zero] at hC3; have hC4 := hA4.cell 0; rw [dcells_zero] at hC4; clear hA1 hA2 hR1 hBw hB2))
    | (go_at_call 39; ((with_reducible refine (hc.out _).mono ?_); rintro e w1 ⟨rfl, hB1⟩; have hA1 : Own w1 w.heap.size (dcells N ms) 26 := (((Own.new _ _ _).alloc _).alloc _).below hB1 (by simp <;> omega); have hA2 : Own w1 (w.heap.size + 1) (dcells M es) 26 := ((Own.at _ _ _ (by simp)).alloc _).below hB1 (by simp <;> omega); have hR1 : Own w1 (w.heap.size + 1 + 1) zp 26 := (Own.at _ _ _ (by simp)).below hB1 (by simp); have hBw : Below w.heap.size w w1 := ((((Below.refl w.heap.size w).alloc (Nat.le_refl _) _).alloc (by simp) _).alloc (by simp <;> omega) _).trans (hB1.mono (by simp <;> omega)); clear hB1)))
  have hO := Lib.hid hA3
  have hP := Lib.hid hA4
  have hR := Lib.hid hR2
  have hBy := Lib.hid hBx
  clear hA3 hA4 hC3 hC4 hR2 hBx
  obtain ⟨w3, rfl⟩ : ∃ x, x = w2 := ⟨_, rfl⟩
  have hI0 := Ints.new w3 w3.heap.size w3.heap.size 0 (Nat.le_refl _) rfl (by decide) #[] rfl
  have hB0 : Below w3.heap.size w3 (w3.alloc (.cells #[] 2)) := (Below.refl _ _).alloc (Nat.le_refl _) _
  clear hmk
  go_loopw [6, 7] (fun v i wr => ∃ s g cap : Nat, s ≤ 2 ∧ i = .int .i64 s ∧ v = ival g cap (umL N M ms es s) ∧ Ints wr w3.heap.size g cap (umL N M ms es s) ∧ Below w3.heap.size w3 wr) (fun _ i _ => (2 - intOf i).toNat)
  case atStart => exact ⟨0, _, _, by omega, rfl, rfl, hI0, hB0⟩
  case round =>
    clear hI0 hB0
    obtain ⟨s, g, cap, hs, rfl, rfl, hI, hB⟩ := hrel
    obtain ⟨wo, rfl⟩ : ∃ x, x = wr := ⟨_, rfl⟩
    by_cases hs0 : s = 0
    · subst hs0
      · have hla := sideL_len N ms 0 hl.out (by omega) (by omega)
        have hlb := sideL_len M es 0 hl2.out (by omega) (by omega)
        have HLB := Lib.hid hlb
        have HLA := Lib.hid hla
        clear hla hlb
        go_wp2
        go_loopw [6, 8] (fun x j wr => ∃ k g cap : Nat, k ≤ N ∧ j = .int .i64 k ∧ x = ival g cap (umL N M ms es 0 ++ (sideL N ms 0).take k) ∧ Ints wr w3.heap.size g cap (umL N M ms es 0 ++ (sideL N ms 0).take k) ∧ Below w3.heap.size w3 wr) (fun _ j _ => ((N : Int) - intOf j).toNat)
        case atStart => exact ⟨0, g, cap, by omega, rfl, by simp, by simpa using hI, hB⟩
        case round =>
          clear hI hB
          obtain ⟨j, g, cap, hj, rfl, rfl, hI, hB⟩ := hrel
          have hO2 := hO.out.below hB hO.out.lt
          have k0 := hO2.cell 0
          rw [dcells_zero] at k0
          by_cases hlt : j < N
          · have cB := hO2.cell (1 + j)
            rw [dcells_get _ _ _ (by rw [hl.out]; omega)] at cB
            have hst := take_succ (sideL N ms 0) j (by rw [HLA.out]; exact hlt)
            rw [sideL_get N ms 0 j hlt, show 0 * N + j = j by omega] at hst
            have hx := hnumA.out j
            obtain ⟨y, hy⟩ : ∃ y, ms.getD j 0 = y := ⟨_, rfl⟩
            rw [hy] at cB hst hx
            obtain ⟨x0, x8⟩ := hx
            have i1 : (j : Int) < (N : Int) := by omega
            have hst' := Lib.hid hst
            have hlen := Lib.hid (show (umL N M ms es 0 ++ (sideL N ms 0).take j).length < 2097152 by
              rw [List.length_append, hum.out 0 (by omega), List.length_take, HLA.out]; omega)
            clear hst hy
            go_wp2_with (first
              | (refine wpList_append_ints rfl (.tmp 39) (.tmp 50) rfl w3.heap.size g cap _ y rfl (hI.alloc _) ⟨wr.heap.size, 0, none⟩ 1 rfl ((Own.new _ _ _).cell 0) hlen.out (by simp; have := hB.size; omega) ?_; intro g2 cap2 w5 hI5 hG5))
            have hB5 : Below w3.heap.size w3 w5 := (hB.alloc hB.size _).grown hG5 (by simp; have := hB.size; omega) (fun k e => by have := hI.1; simp at e; omega)
            rw [List.append_assoc, ← hst'.out] at hI5
            clear hI hG5 hB hO2
            go_wp2
            go_roundw
            case rel => ((repeat apply Exists.intro); exact ⟨⟨j + 1, g2, cap2, by omega, by go_num, by simp only [hst'.out], hI5, hB5⟩, rfl⟩)
            case measure => simp [intOf]; omega
          · obtain rfl : j = N := by omega
            have e : (sideL j ms 0).take j = sideL j ms 0 := List.take_of_length_le (by rw [HLA.out]; exact Nat.le_refl _)
            rw [e] at hI ⊢
            clear e hO2
            go_wp2
            clear k0
            obtain ⟨wa, rfl⟩ : ∃ x, x = wr := ⟨_, rfl⟩
            go_loopw [6, 9] (fun x i wr => ∃ k g cap : Nat, k ≤ M ∧ i = .int .i64 k ∧ x = ival g cap (umL j M ms es 0 ++ sideL j ms 0 ++ up8 ((sideL M es 0).take k)) ∧ Ints wr w3.heap.size g cap (umL j M ms es 0 ++ sideL j ms 0 ++ up8 ((sideL M es 0).take k)) ∧ Below w3.heap.size w3 wr) (fun _ i _ => ((M : Int) - intOf i).toNat)
            case atStart => exact ⟨0, g, cap, by omega, rfl, by simp [up8], by simpa [up8] using hI, hB⟩
            case round =>
              clear hI hB
              obtain ⟨i, g, cap, hi, rfl, rfl, hI, hB⟩ := hrel
              have hP2 := hP.out.below hB hP.out.lt
              have k0 := hP2.cell 0
              rw [dcells_zero] at k0
              by_cases hlt : i < M
              · have cB := hP2.cell (1 + i)
                rw [dcells_get _ _ _ (by rw [hl2.out]; omega)] at cB
                have hst := up8_take (sideL M es 0) i (by rw [HLB.out]; exact hlt)
                rw [sideL_get M es 0 i hlt, show 0 * M + i = i by omega] at hst
                have hx := hnum.out i
                obtain ⟨y, hy⟩ : ∃ y, es.getD i 0 = y := ⟨_, rfl⟩
                rw [hy] at cB hst hx
                obtain ⟨x0, x8⟩ := hx
                rw [Int.add_comm y 8] at hst
                have i1 : (i : Int) < (M : Int) := by omega
                have hst' := Lib.hid hst
                have hlen := Lib.hid (show (umL j M ms es 0 ++ sideL j ms 0 ++ up8 ((sideL M es 0).take i)).length < 2097152 by
                  rw [List.length_append, List.length_append, up8_len, HLA.out, hum.out 0 (by omega), List.length_take, HLB.out]; omega)
                clear hst hy
                go_wp2_with (first
                  | (refine wpList_append_ints rfl (.tmp 58) (.tmp 70) rfl w3.heap.size g cap _ (8 + y) rfl (hI.alloc _) ⟨wr.heap.size, 0, none⟩ 1 rfl ((Own.new _ _ _).cell 0) hlen.out (by simp; have := hB.size; omega) ?_; intro g2 cap2 w5 hI5 hG5))
                have hB5 : Below w3.heap.size w3 w5 := (hB.alloc hB.size _).grown hG5 (by simp; have := hB.size; omega) (fun k e => by have := hI.1; simp at e; omega)
                rw [List.append_assoc _ _ [8 + y], ← hst'.out] at hI5
                clear hI hG5 hB hP2
                go_wp2
                go_roundw
                case rel => ((repeat apply Exists.intro); exact ⟨⟨i + 1, g2, cap2, by omega, by go_num, by simp only [hst'.out, List.append_assoc], hI5, hB5⟩, rfl⟩)
                case measure => simp [intOf]; omega
              · obtain rfl : i = M := by omega
                have e : (sideL i es 0).take i = sideL i es 0 := List.take_of_length_le (by rw [HLB.out]; exact Nat.le_refl _)
                rw [e] at hI ⊢
                clear e hP2
                go_wp2
                go_roundw
                case rel => exact ⟨1, g, cap, by omega, by go_num, rfl, hI, hB⟩
                case measure => simp [intOf] <;> omega

    · by_cases hs1 : s = 1
      · subst hs1
        have hla := sideL_len N ms 1 hl.out (by omega) (by omega)
        have hlb := sideL_len M es 1 hl2.out (by omega) (by omega)
        have HLB := Lib.hid hlb
        have HLA := Lib.hid hla
        clear hla hlb
        go_wp2
        go_loopw [6, 8] (fun x j wr => ∃ k g cap : Nat, k ≤ N ∧ j = .int .i64 k ∧ x = ival g cap (umL N M ms es 1 ++ (sideL N ms 1).take k) ∧ Ints wr w3.heap.size g cap (umL N M ms es 1 ++ (sideL N ms 1).take k) ∧ Below w3.heap.size w3 wr) (fun _ j _ => ((N : Int) - intOf j).toNat)
        case atStart => exact ⟨0, g, cap, by omega, rfl, by simp, by simpa using hI, hB⟩
        case round =>
          clear hI hB
          obtain ⟨j, g, cap, hj, rfl, rfl, hI, hB⟩ := hrel
          have hO2 := hO.out.below hB hO.out.lt
          have k0 := hO2.cell 0
          rw [dcells_zero] at k0
          by_cases hlt : j < N
          · have cB := hO2.cell (1 + (N + j))
            rw [dcells_get _ _ _ (by rw [hl.out]; omega)] at cB
            have hst := take_succ (sideL N ms 1) j (by rw [HLA.out]; exact hlt)
            rw [sideL_get N ms 1 j hlt, show 1 * N + j = (N + j) by omega] at hst
            have hx := hnumA.out (N + j)
            obtain ⟨y, hy⟩ : ∃ y, ms.getD (N + j) 0 = y := ⟨_, rfl⟩
            rw [hy] at cB hst hx
            obtain ⟨x0, x8⟩ := hx
            have i1 : (j : Int) < (N : Int) := by omega
            have hst' := Lib.hid hst
            have hlen := Lib.hid (show (umL N M ms es 1 ++ (sideL N ms 1).take j).length < 2097152 by
              rw [List.length_append, hum.out 1 (by omega), List.length_take, HLA.out]; omega)
            clear hst hy
            go_wp2_with (first
              | (refine wpList_append_ints rfl (.tmp 39) (.tmp 50) rfl w3.heap.size g cap _ y rfl (hI.alloc _) ⟨wr.heap.size, 0, none⟩ 1 rfl ((Own.new _ _ _).cell 0) hlen.out (by simp; have := hB.size; omega) ?_; intro g2 cap2 w5 hI5 hG5))
            have hB5 : Below w3.heap.size w3 w5 := (hB.alloc hB.size _).grown hG5 (by simp; have := hB.size; omega) (fun k e => by have := hI.1; simp at e; omega)
            rw [List.append_assoc, ← hst'.out] at hI5
            clear hI hG5 hB hO2
            go_wp2
            go_roundw
            case rel => ((repeat apply Exists.intro); exact ⟨⟨j + 1, g2, cap2, by omega, by go_num, by simp only [hst'.out], hI5, hB5⟩, rfl⟩)
            case measure => simp [intOf]; omega
          · obtain rfl : j = N := by omega
            have e : (sideL j ms 1).take j = sideL j ms 1 := List.take_of_length_le (by rw [HLA.out]; exact Nat.le_refl _)
            rw [e] at hI ⊢
            clear e hO2
            go_wp2
            clear k0
            obtain ⟨wa, rfl⟩ : ∃ x, x = wr := ⟨_, rfl⟩
            go_loopw [6, 9] (fun x i wr => ∃ k g cap : Nat, k ≤ M ∧ i = .int .i64 k ∧ x = ival g cap (umL j M ms es 1 ++ sideL j ms 1 ++ up8 ((sideL M es 1).take k)) ∧ Ints wr w3.heap.size g cap (umL j M ms es 1 ++ sideL j ms 1 ++ up8 ((sideL M es 1).take k)) ∧ Below w3.heap.size w3 wr) (fun _ i _ => ((M : Int) - intOf i).toNat)
            case atStart => exact ⟨0, g, cap, by omega, rfl, by simp [up8], by simpa [up8] using hI, hB⟩
            case round =>
              clear hI hB
              obtain ⟨i, g, cap, hi, rfl, rfl, hI, hB⟩ := hrel
              have hP2 := hP.out.below hB hP.out.lt
              have k0 := hP2.cell 0
              rw [dcells_zero] at k0
              by_cases hlt : i < M
              · have cB := hP2.cell (1 + (M + i))
                rw [dcells_get _ _ _ (by rw [hl2.out]; omega)] at cB
                have hst := up8_take (sideL M es 1) i (by rw [HLB.out]; exact hlt)
                rw [sideL_get M es 1 i hlt, show 1 * M + i = (M + i) by omega] at hst
                have hx := hnum.out (M + i)
                obtain ⟨y, hy⟩ : ∃ y, es.getD (M + i) 0 = y := ⟨_, rfl⟩
                rw [hy] at cB hst hx
                obtain ⟨x0, x8⟩ := hx
                rw [Int.add_comm y 8] at hst
                have i1 : (i : Int) < (M : Int) := by omega
                have hst' := Lib.hid hst
                have hlen := Lib.hid (show (umL j M ms es 1 ++ sideL j ms 1 ++ up8 ((sideL M es 1).take i)).length < 2097152 by
                  rw [List.length_append, List.length_append, up8_len, HLA.out, hum.out 1 (by omega), List.length_take, HLB.out]; omega)
                clear hst hy
                go_wp2_with (first
                  | (refine wpList_append_ints rfl (.tmp 58) (.tmp 70) rfl w3.heap.size g cap _ (8 + y) rfl (hI.alloc _) ⟨wr.heap.size, 0, none⟩ 1 rfl ((Own.new _ _ _).cell 0) hlen.out (by simp; have := hB.size; omega) ?_; intro g2 cap2 w5 hI5 hG5))
                have hB5 : Below w3.heap.size w3 w5 := (hB.alloc hB.size _).grown hG5 (by simp; have := hB.size; omega) (fun k e => by have := hI.1; simp at e; omega)
                rw [List.append_assoc _ _ [8 + y], ← hst'.out] at hI5
                clear hI hG5 hB hP2
                go_wp2
                go_roundw
                case rel => ((repeat apply Exists.intro); exact ⟨⟨i + 1, g2, cap2, by omega, by go_num, by simp only [hst'.out, List.append_assoc], hI5, hB5⟩, rfl⟩)
                case measure => simp [intOf]; omega
              · obtain rfl : i = M := by omega
                have e : (sideL i es 1).take i = sideL i es 1 := List.take_of_length_le (by rw [HLB.out]; exact Nat.le_refl _)
                rw [e] at hI ⊢
                clear e hP2
                go_wp2
                go_roundw
                case rel => exact ⟨2, g, cap, by omega, by go_num, rfl, hI, hB⟩
                case measure => simp [intOf] <;> omega

      · obtain rfl : s = 2 := by omega
        have hU2 := hum.out 2 (by omega)
        unfold ival
        rw [hU2]
        have hR3 := hR.out.below hB hR.out.lt
        have hO3 := hO.out.below hB hO.out.lt
        have hP3 := hP.out.below hB hP.out.lt
        have k0 := hO3.cell 0
        rw [dcells_zero] at k0
        have k1 := hP3.cell 0
        rw [dcells_zero] at k1
        have hBz := hBy.out.trans (hB.mono hBy.out.size)
        go_wp2_with (first
          | (go_at_call 48; ((with_reducible refine (hpom.out _ _ _ _ hI).mono ?_); rintro e w6 ⟨rfl, hB6⟩))
          | (refine wpList_store_own rfl 26 _ _ rfl _ _ rfl rfl 26 _ (hR3.below hB6 hR3.lt) (rowP (d9 _ _ (by rw [hU.out]; exact hUl.out))) (z_eq8 (d9 _ _ (by rw [hU.out]; exact hUl.out))) (dcells_one _ _) ?_; intro w7 hO7 hN7))
        have hO8 : Own w7 (w.heap.size + 1 + 1) (dcells ((N : Int) + M) (unP N M ms es)) 26 := by rw [← hU.out]; exact hO7
        refine bodyPost_ret (v := .tuple #[.agg (dcells ((N : Int) + M) (unP N M ms es)), .int .i64 0]) (results_row_tmp rfl _ _ _ _ _ (0, 0) _ rfl (hO8) Try.underlying26 rfl (rowP (d9 _ _ (hUl.out))) _ rfl) rfl (⟨rfl, (hBz.trans (hB6.mono hBz.size)).trans (hN7.below.mono (by omega))⟩)
theorem unP_law (n m : Int) (ms es : List Int) (hms : ms.length = 8) (hes : es.length = 8) (hb : Bytes ms) (hb2 : Bytes es) (w : World) :
    Calls Try.prog 8 #[.agg (dcells n ms), .agg (dcells m es)] w fun e w' => e = .returned (.bool true) ∧ Below w.heap.size w w' := by
  cases hd : isP n ms with
  | false => exact UnionPartition_walk n m ms es hms hes w 0 1 _ zlen8 (unS_bad1 n m ms es hms hb hd) (unI_bad1 n m ms es hms hb hd)
  | true =>
    cases hd2 : isP m es with
    | false => exact UnionPartition_walk n m ms es hms hes w 0 1 _ zlen8 (unS_bad2 n m ms es hms hes hb hb2 hd hd2) (unI_bad2 n m ms es hms hes hb hb2 hd hd2)
    | true =>
      have hn := isP_n hd
      have hm := isP_n hd2
      by_cases h : n + m ≤ 4
      · obtain ⟨N, rfl⟩ : ∃ N : Nat, n = N := ⟨n.toNat, by omega⟩
        obtain ⟨M, rfl⟩ : ∃ M : Nat, m = M := ⟨m.toNat, by omega⟩
        exact UnionPartition_walk N M ms es hms hes w (N + M) 0 _ (unP_len N M ms es hms hes hn.1 hm.1 h) (fun w => unS_nat N M ms es hms hes hb hb2 hd hd2 w (by omega) (by omega) (by omega)) (fun w => unI_nat N M ms es hms hes hd hd2 w (by omega) (by omega) (by omega))
      · exact UnionPartition_walk n m ms es hms hes w 0 3 _ zlen8 (unS_lim n m ms es hms hes hb hb2 hd hd2 (by omega)) (unI_lim n m ms es hms hes hb hb2 hd hd2 (by omega))
end Go.Proofs.Ytjecafjdlfdpcaa
