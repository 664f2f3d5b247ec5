/- The law of PartitionText. -/
import Derived.Test.YtblbnlpbefmieaaPfl
import Derived.Test.YtblbnlpbefmieaaDig
namespace Go.Proofs.Ytblbnlpbefmieaa
open Go.RowKit
set_option linter.unusedVariables false
theorem isP_told {n : Int} {ms : List Int} (h : isP n ms = true) : told (ms.take (2 * n).toNat) = ms := by
  unfold isP at h
  rw [Bool.and_eq_true, decide_eq_true_iff, decide_eq_true_iff] at h
  exact h.2
theorem told_nums (xs : List Int) (h8 : xs.length ≤ 8) : Nums (told xs) := by
  intro i
  by_cases h : i < xs.length
  · have b := tZ_bd xs xs.length i h
    have c := tS_cnt xs xs.length
    unfold told; omega
  · rw [told_out xs i (by omega)]; omega
theorem isP_nums {n : Int} {ms : List Int} (hms : ms.length = 8) (h : isP n ms = true) : Nums ms := by
  have h1 := told_nums (ms.take (2 * n).toNat) (by simp; omega)
  rwa [isP_told h] at h1
set_option maxRecDepth 100000 in
set_option maxHeartbeats 1000000 in
theorem ptxI_nat (N : Nat) (ms : List Int) (hms : ms.length = 8) (hd : isP N ms = true) (w : World) (h1 : 1 ≤ N) (h4 : N ≤ 4) :
    Calls Try.prog 70 #[.agg (dcells N ms)] w fun e w' => e = .returned (.tuple #[.string (strOfNums (digs (ms.take (2 * N)))), .int .i64 0]) ∧ Below w.heap.size w w' := by
  have hl := Lib.hid hms
  have hnum := Lib.hid (isP_nums hms hd)
  have hc := Lib.hid (fun w => isPI_any N ms hms w)
  rw [hd] at hc
  have c0 := dcells_zero N ms
  have hmk := makeB (2 * N) (by omega)
  have e2 : (((2 * N : Nat)) : Int) = 2 * (N : Int) := by omega
  rw [e2] at hmk
  have hxl := Lib.hid (show (ms.take (2 * N)).length = 2 * N by simp; omega)
  have hz := Lib.hid (show List.replicate (2 * N) 0 = dgI (ms.take (2 * N)) 0 by simp [dgI, digs]; omega)
  clear hms hd e2
  go_enter Try.func70, Try.ntmps70
  go_wp2_with (first
    | (refine wpList_load_row rfl 28 _ rfl _ rfl 28 _ (0, 0) _ (Own.new _ _ _) Try.underlying28 rfl (rowP (d9 _ _ (hl.out))) ?_)
    | (go_at_call 45; ((with_reducible refine (hc.out _).mono ?_); rintro e w1 ⟨rfl, hB1⟩; have hO1 : Own w1 w.heap.size (dcells N ms) 28 := (Own.new _ _ _).below hB1 (by simp); have hBw : Below w.heap.size w w1 := ((Below.refl w.heap.size w).alloc (Nat.le_refl _) _).trans (hB1.mono (by simp)); have k0 := hO1.cell 0; rw [c0] at k0; clear hB1)))
  clear hmk k0
  go_loopw [15] (fun i wr => ∃ k : Nat, k ≤ 2 * N ∧ i = .int .i64 k ∧ Own wr w.heap.size (dcells N ms) 28 ∧ Own wr w1.heap.size (mcells (dgI (ms.take (2 * N)) k)) 5 ∧ Below w.heap.size w wr) (fun i _ => (2 * (N : Int) - intOf i).toNat)
  case atStart => exact ⟨0, by omega, rfl, hO1.alloc _, by rw [← hz.out]; exact Own.new _ _ _, hBw.alloc hBw.size _⟩
  case round =>
    have hne : w.heap.size ≠ w1.heap.size := by have := hO1.lt; omega
    have hle := hBw.size
    clear hO1 hBw
    obtain ⟨k, hk, rfl, hO, hT, hB⟩ := hrel
    have hll := Lib.hid (dgI_len (ms.take (2 * N)) k (by rw [hxl.out]; exact hk))
    by_cases hlt : k < 2 * N
    · have hst := dgI_set (ms.take (2 * N)) k (by rw [hxl.out]; exact hlt)
      rw [getD_take _ _ _ hlt] at hst
      have c1 := hO.cell (1 + k)
      rw [dcells_get _ _ _ (by rw [hl.out]; omega)] at c1
      have hx := hnum.out k
      generalize ms.getD k 0 = x at *
      obtain ⟨x0, x8⟩ := hx
      have c2 := hT.cell k
      rw [mcells_get _ _ (by rw [hll.out, hxl.out]; exact hlt)] at c2
      have f2 := hT.free k
      have hT2 := hT.set k (.int .u8 (48 + x))
      rw [mcells_set, hst] at hT2
      have K1 := Lib.hid hT2
      have K2 := Lib.hid (hO.other (a := ⟨w1.heap.size, k, none⟩) (fun e => hne e.symm) (.int .u8 (48 + x)))
      have K3 := Lib.hid (hB.setCell (p := ⟨w1.heap.size, k, none⟩) hle (.int .u8 (48 + x)))
      have i1 : (k : Int) < 2 * (N : Int) := by omega
      clear hT2 hst hT hO hB
      go_wp2
      go_roundw
      case rel => exact ⟨k + 1, by omega, by go_num, K2.out, K1.out, K3.out⟩
      case measure => simp [intOf]; omega
    · obtain rfl : k = 2 * N := by omega
      have e : dgI (ms.take (2 * N)) (2 * N) = digs (ms.take (2 * N)) := by
        have := dgI_end (ms.take (2 * N)); rwa [hxl.out] at this
      rw [e] at hT
      have hcv := run_convert_bytes_arg wr 50 5 Try.underlying50 Try.underlying5 w1.heap.size 0 (2 * N) (2 * N) (digs (ms.take (2 * N))) (by rw [digs_len]; exact hxl.out)
        (fun i hi => by rw [Nat.zero_add, hT.cell, mcells_get _ _ (by rw [digs_len, hxl.out]; exact hi)]) 9 Try.underlying9
      clear e
      go_wp2
      go_ret2
      exact ⟨rfl, hB⟩
set_option maxRecDepth 100000 in
theorem ptxI_bad (n : Int) (ms : List Int) (hms : ms.length = 8) (hd : isP n ms = false) (w : World) :
    Calls Try.prog 70 #[.agg (dcells n ms)] w fun e w' => e = .returned (.tuple #[.string ⟨#[]⟩, .int .i64 1]) ∧ Below w.heap.size w w' := by
  have hl := Lib.hid hms
  have hc := Lib.hid (fun w => isPI_any n ms hms w)
  rw [hd] at hc
  clear hms hd
  go_enter Try.func70, Try.ntmps70
  go_wp2_with (first
    | (refine wpList_load_row rfl 28 _ rfl _ rfl 28 _ (0, 0) _ (Own.new _ _ _) Try.underlying28 rfl (rowP (d9 _ _ (hl.out))) ?_)
    | (go_at_call 45; ((with_reducible refine (hc.out _).mono ?_); rintro e w1 ⟨rfl, hB1⟩)))
  go_ret2
  exact ⟨rfl, ((Below.refl _ _).alloc (Nat.le_refl _) _).trans (hB1.mono (by simp))⟩
set_option maxRecDepth 100000 in
theorem ptxS_bad (n : Int) (ms : List Int) (hms : ms.length = 8) (hb : Bytes ms) (hd : isP n ms = false) (w : World) :
    Calls Try.prog 71 #[.agg (dcells n ms)] w fun e w' => e = .returned (.tuple #[.string ⟨#[]⟩, .int .i64 1]) ∧ Below w.heap.size w w' := by
  have hl := Lib.hid hms
  have hc := Lib.hid (fun w => isPS_any n ms hms hb w)
  rw [hd] at hc
  clear hms hd
  go_enter Try.func71, Try.ntmps71
  go_wp2_with (first
    | (refine wpList_load_row rfl 28 _ rfl _ rfl 28 _ (0, 0) _ (Own.new _ _ _) Try.underlying28 rfl (rowP (d9 _ _ (hl.out))) ?_)
    | (go_at_call 79; ((with_reducible refine (hc.out _).mono ?_); rintro e w1 ⟨rfl, hB1⟩)))
  go_ret2
  exact ⟨rfl, ((Below.refl _ _).alloc (Nat.le_refl _) _).trans (hB1.mono (by simp))⟩
set_option maxRecDepth 100000 in
set_option maxHeartbeats 1000000 in
theorem ptxT_nat (N : Nat) (ms : List Int) (hms : ms.length = 8) (hnums : Nums ms) (w : World) (h1 : 1 ≤ N) (h4 : N ≤ 4) :
    Calls Try.prog 130 #[.agg (dcells N ms)] w fun e w' => e = .returned (.string (strOfNums (digs (ms.take (2 * N))))) ∧ Below w.heap.size w w' := by
  have hl := Lib.hid hms
  have hnum := Lib.hid hnums
  have c0 := dcells_zero N ms
  have hxl := Lib.hid (show (ms.take (2 * N)).length = 2 * N by simp; omega)
  clear hms hnums
  go_enter Try.func130, Try.ntmps130
  go_wp2
  go_loopw [3, 4] (fun t i wr => ∃ k : Nat, k ≤ 2 * N ∧ i = .int .i64 k ∧ t = .string (strOfNums (digs ((ms.take (2 * N)).take k))) ∧ Own wr w.heap.size (dcells N ms) 28 ∧ Below w.heap.size w wr) (fun _ i _ => (2 * (N : Int) - intOf i).toNat)
  case atStart => exact ⟨0, by omega, rfl, rfl, Own.new _ _ _, (Below.refl _ _).alloc (Nat.le_refl _) _⟩
  case round =>
    obtain ⟨k, hk, rfl, rfl, hO, hB⟩ := hrel
    have k0 := hO.cell 0
    rw [c0] at k0
    by_cases hlt : k < 2 * N
    · have hst := digs_take (ms.take (2 * N)) k (by rw [hxl.out]; exact hlt)
      rw [getD_take _ _ _ hlt] at hst
      have c1 := hO.cell (1 + k)
      rw [dcells_get _ _ _ (by rw [hl.out]; omega)] at c1
      have hx := hnum.out k
      generalize ms.getD k 0 = x at *
      obtain ⟨x0, x8⟩ := hx
      have i1 : (k : Int) < 2 * (N : Int) := by omega
      have s1 : (strOfNums (digs ((ms.take (2 * N)).take k))).size = k := by rw [strOfNums_size, digs_len, List.length_take, hxl.out]; omega
      have s2 : (strOfNums [48 + x]).size = 1 := strOfNums_size _
      have hs3 := Lib.hid (show strOfNums (digs ((ms.take (2 * N)).take k)) ++ strOfNums [48 + x] = strOfNums (digs ((ms.take (2 * N)).take (k + 1))) by rw [str_append, hst])
      generalize strOfNums (digs ((ms.take (2 * N)).take k)) = t1 at s1 hs3 ⊢
      have hd := Lib.hid (fun w => decS_digit x w x0 (by omega))
      generalize strOfNums [48 + x] = t2 at s2 hs3 hd
      have hsz := hB.size
      clear hst
      go_wp2_with (first
        | (go_at_call 173; ((with_reducible refine (hd.out _).mono ?_); rintro e w2 ⟨rfl, hB2⟩)))
      go_roundw
      case rel => exact ⟨k + 1, by omega, by go_num, by rw [← hs3.out], hO.below hB2 hO.lt, hB.trans (hB2.mono hsz)⟩
      case measure => simp [intOf]; omega
    · obtain rfl : k = 2 * N := by omega
      have e : (ms.take (2 * N)).take (2 * N) = ms.take (2 * N) := by rw [List.take_take, Nat.min_self]
      rw [e]
      clear e
      go_wp2
      go_ret
      exact ⟨rfl, hB⟩
set_option maxRecDepth 100000 in
theorem ptxS_nat (N : Nat) (ms : List Int) (hms : ms.length = 8) (hb : Bytes ms) (hd : isP N ms = true) (w : World) (h1 : 1 ≤ N) (h4 : N ≤ 4) :
    Calls Try.prog 71 #[.agg (dcells N ms)] w fun e w' => e = .returned (.tuple #[.string (strOfNums (digs (ms.take (2 * N)))), .int .i64 0]) ∧ Below w.heap.size w w' := by
  have hl := Lib.hid hms
  have hc := Lib.hid (fun w => isPS_any N ms hms hb w)
  rw [hd] at hc
  have ht := Lib.hid (fun w => ptxT_nat N ms hms (isP_nums hms hd) w h1 h4)
  generalize strOfNums (digs (ms.take (2 * N))) = t at *
  clear hms hd hb
  go_enter Try.func71, Try.ntmps71
  go_wp2_with (first
    | (refine wpList_load_row rfl 28 _ rfl _ rfl 28 _ (0, 0) _ (Own.new _ _ _) Try.underlying28 rfl (rowP (d9 _ _ (hl.out))) ?_)
    | (go_at_call 79; ((with_reducible refine (hc.out _).mono ?_); rintro e w1 ⟨rfl, hB1⟩))
    | (refine wpList_load_row rfl 28 _ rfl _ rfl 28 _ (0, 0) _ ((Own.new _ _ _).below hB1 (by simp)) Try.underlying28 rfl (rowP (d9 _ _ (hl.out))) ?_)
    | (go_at_call 130; ((with_reducible refine (ht.out _).mono ?_); rintro e w2 ⟨rfl, hB2⟩)))
  go_ret2
  have b1 : Below w.heap.size w w1 := ((Below.refl _ _).alloc (Nat.le_refl _) _).trans (hB1.mono (by simp))
  exact ⟨rfl, b1.trans (hB2.mono b1.size)⟩
end Go.Proofs.Ytblbnlpbefmieaa
