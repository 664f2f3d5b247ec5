/- The law of PartitionOfDiagram. -/
import Derived.Test.YtjecafjdlfdpcaaPfl
import Derived.Test.YtjecafjdlfdpcaaDig
import Derived.Test.YtjecafjdlfdpcaaDiaB
namespace Go.Proofs.Ytjecafjdlfdpcaa
open Go.RowKit
set_option linter.unusedVariables false
/-- The smaller of a point and its mate. -/
def pdx (ms : List Int) (k : Nat) : Int := if ms.getD k 0 < (k : Int) then ms.getD k 0 else (k : Int)
def pdL (ms : List Int) (k : Nat) : List Int := (List.range k).map (pdx ms)
theorem pdL_len (ms : List Int) (k : Nat) : (pdL ms k).length = k := by simp [pdL]
theorem pdL_step (ms : List Int) (k : Nat) : pdL ms (k + 1) = pdL ms k ++ [pdx ms k] := by simp [pdL, List.range_succ]
/-- The first k of them, and zeros behind them. -/
def pdZ (ms : List Int) (m k : Nat) : List Int := pdL ms k ++ List.replicate (m - k) 0
theorem pdZ_len (ms : List Int) (m k : Nat) (h : k ≤ m) : (pdZ ms m k).length = m := by simp [pdZ, pdL_len]; omega
theorem pdZ_zero (ms : List Int) (m : Nat) : pdZ ms m 0 = List.replicate m 0 := by simp [pdZ, pdL]
theorem pdZ_end (ms : List Int) (m : Nat) : pdZ ms m m = pdL ms m := by simp [pdZ]
theorem pdZ_step (ms : List Int) (m k : Nat) (h : k < m) : (pdZ ms m k).set k (pdx ms k) = pdZ ms m (k + 1) := by
  unfold pdZ
  rw [pdL_step, List.set_append_right _ _ (by rw [pdL_len]; omega), show m - k = (m - (k + 1)) + 1 by omega, List.replicate_succ]
  have : k - (pdL ms k).length = 0 := by rw [pdL_len]; omega
  rw [this, List.set_cons_zero, List.append_assoc]; rfl
/-- The numbers of the parts of a diagram. -/
def podP (n : Int) (ms : List Int) : List Int := told (pdL ms (2 * n).toNat)
theorem podP_len (n : Int) (ms : List Int) (h4 : n ≤ 4) : (podP n ms).length = 8 := told_len _ (by rw [pdL_len]; omega)
set_option maxRecDepth 100000 in
set_option maxHeartbeats 1000000 in
theorem podI_nat (N : Nat) (ms : List Int) (hms : ms.length = 16) (hb : Bytes ms) (hd : isD N ms = true) (w : World) (h1 : 1 ≤ N) (h4 : N ≤ 4) :
    Calls Try.prog 31 #[.agg (dcells N ms)] w fun e w' => e = .returned (.tuple #[.agg (dcells N (podP N ms)), .int .i64 0]) ∧ Below w.heap.size w w' := by
  have hl := Lib.hid hms
  have hbb := Lib.hid hb
  have hc := Lib.hid (fun w => isI_any N ms hms hb w)
  rw [hd] at hc
  have c0 := dcells_zero N ms
  have hmk := makeB (2 * N) (by omega)
  have e2 : (((2 * N : Nat)) : Int) = 2 * (N : Int) := by omega
  rw [e2] at hmk
  have hz := Lib.hid (pdZ_zero ms (2 * N))
  have hpom := Lib.hid (fun wx b cp (hO : Own wx b (mcells (pdL ms (2 * N))) 5) => pomB_any b 0 cp (2 * N) (N : Int) (pdL ms (2 * N)) wx (pdL_len ms _) (by omega) (by omega) hO.lt (fun j hj => by rw [Nat.zero_add, hO.cell, mcells_get _ _ hj]))
  have hU := Lib.hid (show told (pdL ms (2 * N)) = podP N ms by unfold podP; rw [show (2 * (N : Int)).toNat = 2 * N by omega])
  have hUl := Lib.hid (podP_len (N : Int) ms (by omega))
  clear hms hb hd e2
  go_enter Try.func31, Try.ntmps31
  go_wp2_with (first
    | (refine wpList_load_row rfl 46 _ rfl _ rfl 46 _ (0, 0) _ ((Own.new _ _ _).alloc _) Try.underlying46 rfl (row26 (d17 _ _ (hl.out))) ?_)
    | (go_at_call 55; ((with_reducible refine (hc.out _).mono ?_); rintro e w1 ⟨rfl, hB1⟩; have hO1 : Own w1 w.heap.size (dcells N ms) 46 := ((Own.new _ _ _).alloc _).below hB1 (by simp <;> omega); have hR1 : Own w1 (w.heap.size + 1) zp 26 := (Own.at _ _ _ (by simp)).below hB1 (by simp); have hBw : Below w.heap.size w w1 := (((Below.refl w.heap.size w).alloc (Nat.le_refl _) _).alloc (by simp) _).trans (hB1.mono (by simp <;> omega)); have k0 := hO1.cell 0; rw [c0] at k0; clear hB1)))
  clear hmk k0
  go_loopw [20] (fun i wr => ∃ k : Nat, k ≤ 2 * N ∧ i = .int .i64 k ∧ Own wr w.heap.size (dcells N ms) 46 ∧ Own wr (w.heap.size + 1) zp 26 ∧ Own wr w1.heap.size (mcells (pdZ ms (2 * N) k)) 5 ∧ Below w.heap.size w wr) (fun i _ => (2 * (N : Int) - intOf i).toNat)
  case atStart => exact ⟨0, by omega, rfl, hO1.alloc _, hR1.alloc _, by rw [hz.out]; exact Own.new _ _ _, hBw.alloc hBw.size _⟩
  case round =>
    have hne : w.heap.size ≠ w1.heap.size := by have := hO1.lt; omega
    have hne2 : w.heap.size + 1 ≠ w1.heap.size := by have := hR1.lt; omega
    have hle := hBw.size
    clear hO1 hBw hR1
    obtain ⟨k, hk, rfl, hO, hR, hT, hB⟩ := hrel
    have hll := Lib.hid (pdZ_len ms (2 * N) k hk)
    by_cases hlt : k < 2 * N
    · have hst := pdZ_step ms (2 * N) k hlt
      have c1 := hO.cell (1 + k)
      rw [dcells_get _ _ _ (by rw [hl.out]; omega)] at c1
      have hx := hbb.out.get k
      obtain ⟨y, hy⟩ : ∃ y, pdx ms k = y := ⟨_, rfl⟩
      rw [hy] at hst
      unfold pdx at hy
      generalize ms.getD k 0 = x at *
      obtain ⟨x0, x8⟩ := hx
      have c2 := hT.cell k
      rw [mcells_get _ _ (by rw [hll.out]; exact hlt)] at c2
      have f2 := hT.free k
      have hT2 := hT.set k (.int .u8 y)
      rw [mcells_set, hst] at hT2
      have K1 := Lib.hid hT2
      have K2 := Lib.hid (hO.other (a := ⟨w1.heap.size, k, none⟩) (fun e => hne e.symm) (.int .u8 y))
      have K4 := Lib.hid (hR.other (a := ⟨w1.heap.size, k, none⟩) (fun e => hne2 e.symm) (.int .u8 y))
      have K3 := Lib.hid (hB.setCell (p := ⟨w1.heap.size, k, none⟩) hle (.int .u8 y))
      have i1 : (k : Int) < 2 * (N : Int) := by omega
      clear hT2 hst hT hO hB hR
      go_wp2
      go_roundw
      case rel => exact ⟨k + 1, by omega, by go_num, K2.out, K4.out, K1.out, K3.out⟩
      case measure => simp [intOf]; omega
    · obtain rfl : k = 2 * N := by omega
      have e : pdZ ms (2 * N) (2 * N) = pdL ms (2 * N) := pdZ_end ms (2 * N)
      rw [e] at hT
      clear e
      go_wp2_with (first
        | (go_at_call 42; ((with_reducible refine (hpom.out _ _ _ hT).mono ?_); rintro e w2 ⟨rfl, hB2⟩))
        | (refine wpList_store_own rfl 26 _ _ rfl _ _ rfl rfl 26 _ (hR.below hB2 hR.lt) (rowP (d9 _ _ (by rw [hU.out]; exact hUl.out))) (z_eq8 (d9 _ _ (by rw [hU.out]; exact hUl.out))) (dcells_one _ _) ?_; intro w3 hO3 hN3))
      have hO4 : Own w3 (w.heap.size + 1) (dcells N (podP N ms)) 26 := by rw [← hU.out]; exact hO3
      refine bodyPost_ret (v := .tuple #[.agg (dcells N (podP N ms)), .int .i64 0]) (results_row_tmp rfl _ _ _ _ _ (0, 0) _ rfl (hO4) Try.underlying26 rfl (rowP (d9 _ _ (hUl.out))) _ rfl) rfl (⟨rfl, (hB.trans (hB2.mono hB.size)).trans (hN3.below.mono (by omega))⟩)
set_option maxRecDepth 100000 in
theorem podI_bad (n : Int) (ms : List Int) (hms : ms.length = 16) (hb : Bytes ms) (hd : isD n ms = false) (w : World) :
    Calls Try.prog 31 #[.agg (dcells n ms)] w fun e w' => e = .returned (.tuple #[.agg zp, .int .i64 1]) ∧ Below w.heap.size w w' := by
  have hl := Lib.hid hms
  have hc := Lib.hid (fun w => isI_any n ms hms hb w)
  rw [hd] at hc
  clear hms hd
  go_enter Try.func31, Try.ntmps31
  go_wp2_with (first
    | (refine wpList_load_row rfl 46 _ rfl _ rfl 46 _ (0, 0) _ ((Own.new _ _ _).alloc _) Try.underlying46 rfl (row26 (d17 _ _ (hl.out))) ?_)
    | (go_at_call 55; ((with_reducible refine (hc.out _).mono ?_); rintro e w1 ⟨rfl, hB1⟩; have hR1 : Own w1 (w.heap.size + 1) zp 26 := (Own.at _ _ _ (by simp)).below hB1 (by simp); have hBw : Below w.heap.size w w1 := (((Below.refl w.heap.size w).alloc (Nat.le_refl _) _).alloc (by simp) _).trans (hB1.mono (by simp <;> omega)); clear hB1))
    | (refine wpList_build_of rfl 26 #[] rfl zp ?_ ?_; (exact builtP0))
    | (refine wpList_store_own rfl 26 _ _ rfl _ _ rfl rfl 26 _ (hR1) (rowP (d9 _ _ (zlen8))) (rfl) (dcells_one _ _) ?_; intro w4 hO4 hN4))
  refine bodyPost_ret (v := .tuple #[.agg (zp), .int .i64 1]) (results_row_tmp rfl _ _ _ _ _ (0, 0) _ rfl (hO4) Try.underlying26 rfl (rowP (d9 _ _ (zlen8))) _ rfl) rfl (⟨rfl, hBw.trans (hN4.below.mono (by omega))⟩)
set_option maxRecDepth 100000 in
theorem podI_lim (n : Int) (ms : List Int) (hms : ms.length = 16) (hb : Bytes ms) (hd : isD n ms = true) (w : World) (h4 : 4 < n) :
    Calls Try.prog 31 #[.agg (dcells n ms)] w fun e w' => e = .returned (.tuple #[.agg zp, .int .i64 3]) ∧ Below w.heap.size w w' := by
  have hl := Lib.hid hms
  have hc := Lib.hid (fun w => isI_any n ms hms hb w)
  have c0 := dcells_zero n ms
  rw [hd] at hc
  clear hms hd
  go_enter Try.func31, Try.ntmps31
  go_wp2_with (first
    | (refine wpList_load_row rfl 46 _ rfl _ rfl 46 _ (0, 0) _ ((Own.new _ _ _).alloc _) Try.underlying46 rfl (row26 (d17 _ _ (hl.out))) ?_)
    | (go_at_call 55; ((with_reducible refine (hc.out _).mono ?_); rintro e w1 ⟨rfl, hB1⟩; have hO1 : Own w1 w.heap.size (dcells n ms) 46 := ((Own.new _ _ _).alloc _).below hB1 (by simp <;> omega); have k0 := hO1.cell 0; rw [c0] at k0; have hR1 : Own w1 (w.heap.size + 1) zp 26 := (Own.at _ _ _ (by simp)).below hB1 (by simp); have hBw : Below w.heap.size w w1 := (((Below.refl w.heap.size w).alloc (Nat.le_refl _) _).alloc (by simp) _).trans (hB1.mono (by simp <;> omega)); clear hB1))
    | (refine wpList_build_of rfl 26 #[] rfl zp ?_ ?_; (exact builtP0))
    | (refine wpList_store_own rfl 26 _ _ rfl _ _ rfl rfl 26 _ (hR1) (rowP (d9 _ _ (zlen8))) (rfl) (dcells_one _ _) ?_; intro w4 hO4 hN4))
  refine bodyPost_ret (v := .tuple #[.agg (zp), .int .i64 3]) (results_row_tmp rfl _ _ _ _ _ (0, 0) _ rfl (hO4) Try.underlying26 rfl (rowP (d9 _ _ (zlen8))) _ rfl) rfl (⟨rfl, hBw.trans (hN4.below.mono (by omega))⟩)
set_option maxRecDepth 100000 in
theorem podS_bad (n : Int) (ms : List Int) (hms : ms.length = 16) (hb : Bytes ms) (hd : isD n ms = false) (w : World) :
    Calls Try.prog 29 #[.agg (dcells n ms)] w fun e w' => e = .returned (.tuple #[.agg zp, .int .i64 1]) ∧ Below w.heap.size w w' := by
  have hl := Lib.hid hms
  have hc := Lib.hid (fun w => l01Is_dec n ms hms hb w)
  rw [hd] at hc
  clear hms hd
  go_enter Try.func29, Try.ntmps29
  go_wp2_with (first
    | (refine wpList_load_row rfl 46 _ rfl _ rfl 46 _ (0, 0) _ ((Own.new _ _ _).alloc _) Try.underlying46 rfl (row26 (d17 _ _ (hl.out))) ?_)
    | (go_at_call 53; ((with_reducible refine (hc.out _).mono ?_); rintro e w1 ⟨rfl, hB1⟩; have hR1 : Own w1 (w.heap.size + 1) zp 26 := (Own.at _ _ _ (by simp)).below hB1 (by simp); have hBw : Below w.heap.size w w1 := (((Below.refl w.heap.size w).alloc (Nat.le_refl _) _).alloc (by simp) _).trans (hB1.mono (by simp <;> omega)); clear hB1))
    | (refine wpList_build_of rfl 26 #[] rfl zp ?_ ?_; (exact builtP0))
    | (refine wpList_store_own rfl 26 _ _ rfl _ _ rfl rfl 26 _ (hR1) (rowP (d9 _ _ (zlen8))) (rfl) (dcells_one _ _) ?_; intro w4 hO4 hN4))
  refine bodyPost_ret (v := .tuple #[.agg (zp), .int .i64 1]) (results_row_tmp rfl _ _ _ _ _ (0, 0) _ rfl (hO4) Try.underlying26 rfl (rowP (d9 _ _ (zlen8))) _ rfl) rfl (⟨rfl, hBw.trans (hN4.below.mono (by omega))⟩)
set_option maxRecDepth 100000 in
theorem podS_lim (n : Int) (ms : List Int) (hms : ms.length = 16) (hb : Bytes ms) (hd : isD n ms = true) (w : World) (h4 : 4 < n) :
    Calls Try.prog 29 #[.agg (dcells n ms)] w fun e w' => e = .returned (.tuple #[.agg zp, .int .i64 3]) ∧ Below w.heap.size w w' := by
  have hl := Lib.hid hms
  have hc := Lib.hid (fun w => l01Is_dec n ms hms hb w)
  have c0 := dcells_zero n ms
  rw [hd] at hc
  clear hms hd
  go_enter Try.func29, Try.ntmps29
  go_wp2_with (first
    | (refine wpList_load_row rfl 46 _ rfl _ rfl 46 _ (0, 0) _ ((Own.new _ _ _).alloc _) Try.underlying46 rfl (row26 (d17 _ _ (hl.out))) ?_)
    | (go_at_call 53; ((with_reducible refine (hc.out _).mono ?_); rintro e w1 ⟨rfl, hB1⟩; have hO1 : Own w1 w.heap.size (dcells n ms) 46 := ((Own.new _ _ _).alloc _).below hB1 (by simp <;> omega); have k0 := hO1.cell 0; rw [c0] at k0; have hR1 : Own w1 (w.heap.size + 1) zp 26 := (Own.at _ _ _ (by simp)).below hB1 (by simp); have hBw : Below w.heap.size w w1 := (((Below.refl w.heap.size w).alloc (Nat.le_refl _) _).alloc (by simp) _).trans (hB1.mono (by simp <;> omega)); clear hB1))
    | (refine wpList_build_of rfl 26 #[] rfl zp ?_ ?_; (exact builtP0))
    | (refine wpList_store_own rfl 26 _ _ rfl _ _ rfl rfl 26 _ (hR1) (rowP (d9 _ _ (zlen8))) (rfl) (dcells_one _ _) ?_; intro w4 hO4 hN4))
  refine bodyPost_ret (v := .tuple #[.agg (zp), .int .i64 3]) (results_row_tmp rfl _ _ _ _ _ (0, 0) _ rfl (hO4) Try.underlying26 rfl (rowP (d9 _ _ (zlen8))) _ rfl) rfl (⟨rfl, hBw.trans (hN4.below.mono (by omega))⟩)
set_option maxRecDepth 100000 in
set_option maxHeartbeats 1000000 in
theorem podS_nat (N : Nat) (ms : List Int) (hms : ms.length = 16) (hb : Bytes ms) (hd : isD N ms = true) (w : World) (h1 : 1 ≤ N) (h4 : N ≤ 4) :
    Calls Try.prog 29 #[.agg (dcells N ms)] w fun e w' => e = .returned (.tuple #[.agg (dcells N (podP N ms)), .int .i64 0]) ∧ Below w.heap.size w w' := by
  have hl := Lib.hid hms
  have hbb := Lib.hid hb
  have hc := Lib.hid (fun w => l01Is_dec N ms hms hb w)
  rw [hd] at hc
  have hmk := mkE7
  have c0 := dcells_zero N ms
  have hpom := Lib.hid (fun wx base g cap (hI : Ints wx base g cap (pdL ms (2 * N))) => toldS_any g 0 cap (2 * N) (N : Int) (pdL ms (2 * N)) wx (pdL_len ms _) (by omega) (by omega) hI.lt hI.rdf)
  have hU := Lib.hid (show told (pdL ms (2 * N)) = podP N ms by unfold podP; rw [show (2 * (N : Int)).toNat = 2 * N by omega])
  have hUl := Lib.hid (podP_len (N : Int) ms (by omega))
  clear hms hb hd
  go_enter Try.func29, Try.ntmps29
  go_wp2_with (first
    | (refine wpList_load_row rfl 46 _ rfl _ rfl 46 _ (0, 0) _ ((Own.new _ _ _).alloc _) Try.underlying46 rfl (row26 (d17 _ _ (hl.out))) ?_)
    | (go_at_call 53; ((with_reducible refine (hc.out _).mono ?_); rintro e w1 ⟨rfl, hB1⟩; have hO1 : Own w1 w.heap.size (dcells N ms) 46 := ((Own.new _ _ _).alloc _).below hB1 (by simp <;> omega); have hR1 : Own w1 (w.heap.size + 1) zp 26 := (Own.at _ _ _ (by simp)).below hB1 (by simp); have hBw : Below w.heap.size w w1 := (((Below.refl w.heap.size w).alloc (Nat.le_refl _) _).alloc (by simp) _).trans (hB1.mono (by simp <;> omega)); have k0 := hO1.cell 0; rw [c0] at k0; clear hB1)))
  clear hmk k0
  go_loopw [4, 5] (fun v i wr => ∃ k g cap : Nat, k ≤ 2 * N ∧ i = .int .i64 k ∧ v = .slice (some ⟨g, 0, none⟩) k cap ∧ Ints wr (w.heap.size + 2) g cap (pdL ms k) ∧ Own wr w.heap.size (dcells N ms) 46 ∧ Own wr (w.heap.size + 1) zp 26 ∧ Below w.heap.size w wr) (fun _ i _ => (2 * (N : Int) - intOf i).toNat)
  case atStart => exact ⟨0, _, _, by omega, rfl, rfl, Ints.new _ _ _ _ hR1.lt rfl (by decide) #[] rfl, hO1.alloc _, hR1.alloc _, hBw.alloc hBw.size _⟩
  case round =>
    clear hO1 hR1 hBw
    obtain ⟨k, g, cap, hk, rfl, rfl, hI, hO, hR, hB⟩ := hrel
    have hs := hB.size
    have hcl := Lib.hid (pdL_len ms k)
    have k0 := hO.cell 0
    rw [c0] at k0
    by_cases hlt : k < 2 * N
    · have hst := pdL_step ms k
      have i1 : (k : Int) < 2 * (N : Int) := by omega
      have c1 := hO.cell (1 + k)
      rw [dcells_get _ _ _ (by rw [hl.out]; omega)] at c1
      have hx := hbb.out.get k
      obtain ⟨y, hy⟩ : ∃ y, pdx ms k = y := ⟨_, rfl⟩
      rw [hy] at hst
      unfold pdx at hy
      have hst' := Lib.hid hst
      generalize ms.getD k 0 = x at *
      obtain ⟨x0, x8⟩ := hx
      clear hst
      go_wp2_with (first
        | (refine wpList_append_ints rfl (.tmp 24) (.tmp 32) rfl (w.heap.size + 2) g cap (pdL ms k) y (by rw [ival, hcl.out]; rfl) (hI.alloc _) ⟨wr.heap.size, 0, none⟩ 1 rfl ((Own.new _ _ _).cell 0) (by rw [hcl.out]; omega) (by simp; have := hI.lt; have := hI.1; omega) ?_; intro g2 cap2 w2 hI2 hG2))
      have hO2 := (hO.alloc _).grown hG2 (by have := hI.1; omega)
      have hR2 := (hR.alloc _).grown hG2 (by have := hI.1; omega)
      have hB2 : Below w.heap.size w w2 := (hB.alloc hs _).grown hG2 (by simp; omega) (fun k e => by have := hI.1; simp at e; omega)
      rw [← hst'.out] at hI2
      clear hO hR hB hI hG2
      go_wp2
      go_roundw
      case rel => exact ⟨k + 1, g2, cap2, by omega, by go_num, by simp [ival, hcl.out], hI2, hO2, hR2, hB2⟩
      case measure => simp [intOf]; omega
    · obtain rfl : k = 2 * N := by omega
      go_wp2_with (first
        | (go_at_call 48; ((with_reducible refine (hpom.out _ _ _ _ hI).mono ?_); rintro e w2 ⟨rfl, hB2⟩))
        | (refine wpList_store_own rfl 26 _ _ rfl _ _ rfl rfl 26 _ (hR.below hB2 hR.lt) (rowP (d9 _ _ (by rw [hU.out]; exact hUl.out))) (z_eq8 (d9 _ _ (by rw [hU.out]; exact hUl.out))) (dcells_one _ _) ?_; intro w3 hO3 hN3))
      have hO4 : Own w3 (w.heap.size + 1) (dcells N (podP N ms)) 26 := by rw [← hU.out]; exact hO3
      refine bodyPost_ret (v := .tuple #[.agg (dcells N (podP N ms)), .int .i64 0]) (results_row_tmp rfl _ _ _ _ _ (0, 0) _ rfl (hO4) Try.underlying26 rfl (rowP (d9 _ _ (hUl.out))) _ rfl) rfl (⟨rfl, (hB.trans (hB2.mono hB.size)).trans (hN3.below.mono (by omega))⟩)
theorem pod_law (n : Int) (ms : List Int) (hms : ms.length = 16) (hb : Bytes ms) (w : World) :
    Calls Try.prog 10 #[.agg (dcells n ms)] w fun e w' => e = .returned (.bool true) ∧ Below w.heap.size w w' := by
  cases hd : isD n ms with
  | true =>
    have hn := ((isD_iff n ms hms hb).1 hd).1
    by_cases h4 : n ≤ 4
    · obtain ⟨N, rfl⟩ : ∃ N : Nat, n = N := ⟨n.toNat, by omega⟩
      exact PartitionOfDiagram_walk N ms hms w N 0 _ (podP_len N ms h4) (fun w => podS_nat N ms hms hb hd w (by omega) (by omega)) (fun w => podI_nat N ms hms hb hd w (by omega) (by omega))
    · exact PartitionOfDiagram_walk n ms hms w 0 3 _ zlen8 (fun w => podS_lim n ms hms hb hd w (by omega)) (fun w => podI_lim n ms hms hb hd w (by omega))
  | false => exact PartitionOfDiagram_walk n ms hms w 0 1 _ zlen8 (podS_bad n ms hms hb hd) (podI_bad n ms hms hb hd)
end Go.Proofs.Ytjecafjdlfdpcaa
