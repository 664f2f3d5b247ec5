/- The law of ParsePartition. -/
import Derived.Test.YtjecafjdlfdpcaaPtx
import Derived.Test.YtjecafjdlfdpcaaParse
namespace Go.Proofs.Ytjecafjdlfdpcaa
open Go.RowKit
set_option linter.unusedVariables false
/-- The number that a letter becomes. -/
def dg (c : Nat) : Int := IntKind.u8.wrap ((c : Int) - 48)
theorem dg_ok : ∀ c : Nat, c < 256 → (dg c < 8 ↔ (48 ≤ c ∧ c ≤ 55)) := by decide +kernel
theorem dg_bd : ∀ c : Nat, c < 256 → 0 ≤ dg c ∧ dg c ≤ 255 := by decide +kernel
/-- The numbers of the first k letters, and zeros behind them. -/
def ppL (l : List UInt8) (k : Nat) : List Int := (l.take k).map (fun c => dg c.toNat) ++ List.replicate (8 - k) 0
theorem ppL_len (l : List UInt8) (k : Nat) (h : k ≤ l.length) (h8 : k ≤ 8) : (ppL l k).length = 8 := by simp [ppL]; omega
theorem ppL_zero (l : List UInt8) : ppL l 0 = zer8 := by simp [ppL, zer8]
theorem ppL_step (l : List UInt8) (k : Nat) (c : UInt8) (hc : l[k]? = some c) (h8 : k < 8) : (ppL l k).set k (dg c.toNat) = ppL l (k + 1) := by
  have hk : k < l.length := (List.getElem?_eq_some_iff.1 hc).1
  have hcc : l[k] = c := by have := List.getElem?_eq_getElem hk; rw [hc] at this; exact (Option.some.inj this).symm
  unfold ppL
  rw [List.take_succ_eq_append_getElem hk, List.map_append, List.set_append_right _ _ (by simp; omega), show 8 - k = (8 - (k + 1)) + 1 by omega, List.replicate_succ]
  have : k - ((l.take k).map (fun c => dg c.toNat)).length = 0 := by simp; omega
  rw [this, List.set_cons_zero, List.append_assoc, hcc]; rfl
theorem ppL_get (l : List UInt8) (k j : Nat) (c : UInt8) (hj : j < k) (hc : l[j]? = some c) : (ppL l k).getD j 0 = dg c.toNat := by
  have hk : j < l.length := (List.getElem?_eq_some_iff.1 hc).1
  unfold ppL
  rw [List.getD_eq_getElem?_getD, List.getElem?_append_left (by simp; omega), List.getElem?_map, List.getElem?_take_of_lt hj, hc]; rfl
theorem ppL_bytes (l : List UInt8) (k : Nat) : Bytes (ppL l k) := by
  intro x hx
  simp only [ppL, List.mem_append, List.mem_map, List.mem_replicate] at hx
  rcases hx with ⟨c, _, rfl⟩ | ⟨_, rfl⟩
  · exact dg_bd _ c.toNat_lt
  · omega
/-- A letter that is none of a partition's. -/
theorem pp_no (l : List UInt8) (n : Int) (h8 : l.length ≤ 8) (j : Nat) (c : UInt8) (hc : l[j]? = some c) (hb : c.toNat < 48 ∨ 55 < c.toNat) : isP n (ppL l l.length) = false := by
  have hj : j < l.length := (List.getElem?_eq_some_iff.1 hc).1
  refine Bool.eq_false_iff.2 fun h => ?_
  have hn := isP_nums (ppL_len l _ (Nat.le_refl _) h8) h j
  rw [ppL_get l _ j c hj hc] at hn
  have := (dg_ok c.toNat c.toNat_lt).1 hn.2
  omega
/-- What a text is read as. -/
def ppV (s : ByteArray) (n : Int) : Value := if isP n (ppL s.data.toList s.size) then .tuple #[.agg (dcells n (ppL s.data.toList s.size)), .int .i64 0] else .tuple #[.agg zp, .int .i64 6]
set_option maxRecDepth 100000 in
set_option maxHeartbeats 1000000 in
theorem ppI_ok (s : ByteArray) (n : Int) (w : World) (hn : (s.size : Int) = 2 * n) (h8 : s.size ≤ 8) :
    Calls Try.prog 19 #[.string s] w fun e w' => e = .returned (ppV s n) ∧ Below w.heap.size w w' := by
  have hq : (s.size : Int) / 2 = n := by omega
  have hm : (((s.size : Int) % 2) != 0) = false := by simp; omega
  have hg : ¬ (8 : Int) < (s.size : Int) := by omega
  have hL := Lib.hid (fun k (h : k ≤ s.size) => ppL_len s.data.toList k (by rw [size_list]; exact h) (by omega))
  have hst := Lib.hid (fun k (h : k < s.size) => ppL_step s.data.toList k s[k] (get_list s k h) (by omega))
  have hz := Lib.hid (ppL_zero s.data.toList)
  have hc := Lib.hid (fun w => isPI_any n (ppL s.data.toList s.size) (hL.out _ (Nat.le_refl _)) w)
  have hn' := Lib.hid hn
  clear hn
  go_enter Try.func19, Try.ntmps19
  go_wp2_with (first
    | (refine wpList_build_of rfl 26 #[(0, .tmp 18)] rfl (dcells n zer8) ?_ ?_; (exact builtP1 n))
    | (refine wpList_store_own rfl 26 _ _ rfl _ _ rfl rfl 26 _ (Own.at _ _ _ (by first | rfl | simp)) (rowP (d9 _ _ (zlen8))) (by rw [d9 _ _ zlen8]; rfl) (dcells_one _ _) ?_; intro w1 hO1 hN1))
  have hR1 : Own w1 w.heap.size zp 26 := ((Own.new _ _ _).alloc _).only hN1 (by simp <;> omega)
  have hB1 : Below w.heap.size w w1 := (((Below.refl _ _).alloc (Nat.le_refl _) _).alloc (by simp) _).trans (hN1.below.mono (by simp <;> omega))
  clear hN1
  go_loopw [22] (fun i wr => ∃ k : Nat, k ≤ s.size ∧ i = .int .i64 k ∧ Own wr (w.heap.size + 1) (dcells n (ppL s.data.toList k)) 26 ∧ Own wr w.heap.size zp 26 ∧ Below w.heap.size w wr) (fun i _ => ((s.size : Int) - intOf i).toNat)
  case atStart => exact ⟨0, by omega, rfl, by rw [hz.out]; exact hO1, hR1, hB1⟩
  case round =>
    clear hO1 hR1 hB1
    obtain ⟨k, hk, rfl, hO, hR, hB⟩ := hrel
    by_cases hlt : k < s.size
    · have i1 : (k : Int) < (s.size : Int) := by omega
      have c2 := hO.cell (1 + k)
      rw [dcells_get _ _ _ (by rw [hL.out k hk]; omega)] at c2
      have f2 := hO.free (1 + k)
      have K0 := hO.set (1 + k) (.int .u8 (dg s[k].toNat))
      rw [dcells_set, hst.out k hlt] at K0
      have K1 := Lib.hid K0
      have K2 := Lib.hid (hR.other (a := ⟨w.heap.size + 1, 1 + k, none⟩) (by simp) (.int .u8 (dg s[k].toNat)))
      have K3 := Lib.hid (hB.setCell (p := ⟨w.heap.size + 1, 1 + k, none⟩) (by simp) (.int .u8 (dg s[k].toNat)))
      clear K0 hO hR hB
      generalize (ppL s.data.toList k).getD k 0 = x at *
      go_wp2
      go_roundw
      case rel => exact ⟨k + 1, by omega, by go_num, K1.out, K2.out, K3.out⟩
      case measure => simp [intOf]; omega
    · obtain rfl : k = s.size := by omega
      have hl8 := Lib.hid (hL.out _ (Nat.le_refl _))
      obtain ⟨A, hA⟩ : ∃ A, ppL s.data.toList s.size = A := ⟨_, rfl⟩
      have hA' := Lib.hid hA
      rw [hA] at hO hc hl8
      clear hA hst hz hL
      cases hd : isP n A with
      | true =>
        rw [hd] at hc
        have hV := Lib.hid (show ppV s n = .tuple #[.agg (dcells n A), .int .i64 0] by unfold ppV; rw [hA'.out, hd]; rfl)
        clear hd
        go_wp2_with (first
          | (refine wpList_load_row rfl 26 _ rfl _ rfl 26 _ (0, 0) _ (hO) Try.underlying26 rfl (rowP (d9 _ _ (hl8.out))) ?_)
          | (go_at_call 15; ((with_reducible refine (hc.out _).mono ?_); rintro e w2 ⟨rfl, hB2⟩; have hO2 := hO.below hB2 hO.lt; have hR2 := hR.below hB2 hR.lt; have b2 := hB.trans (hB2.mono hB.size); clear hB2))
          | (refine wpList_load_row rfl 26 _ rfl _ rfl 26 _ (0, 0) _ (hO2) Try.underlying26 rfl (rowP (d9 _ _ (hl8.out))) ?_)
          | (refine wpList_store_own rfl 26 _ _ rfl _ _ rfl rfl 26 _ (hR2) (rowP (d9 _ _ (hl8.out))) (z_eq8 (d9 _ _ hl8.out)) (dcells_one _ _) ?_; intro w3 hO3 hN3))
        refine bodyPost_ret (v := .tuple #[.agg (dcells n A), .int .i64 0]) (results_row_tmp rfl _ _ _ _ _ (0, 0) _ rfl (hO3) Try.underlying26 rfl (rowP (d9 _ _ (hl8.out))) _ rfl) rfl (⟨by rw [hV.out], b2.trans (hN3.below.mono (Nat.le_refl _))⟩)
      | false =>
        rw [hd] at hc
        have hV := Lib.hid (show ppV s n = .tuple #[.agg zp, .int .i64 6] by unfold ppV; rw [hA'.out, hd]; rfl)
        clear hd
        go_wp2_with (first
          | (refine wpList_load_row rfl 26 _ rfl _ rfl 26 _ (0, 0) _ (hO) Try.underlying26 rfl (rowP (d9 _ _ (hl8.out))) ?_)
          | (go_at_call 15; ((with_reducible refine (hc.out _).mono ?_); rintro e w2 ⟨rfl, hB2⟩; have hO2 := hO.below hB2 hO.lt; have hR2 := hR.below hB2 hR.lt; have b2 := hB.trans (hB2.mono hB.size); clear hB2))
          | (refine wpList_build_of rfl 26 #[] rfl zp ?_ ?_; (exact builtP0))
          | (refine wpList_store_own rfl 26 _ _ rfl _ _ rfl rfl 26 _ (hR2) (rowP (d9 _ _ (zlen8))) (rfl) (dcells_one _ _) ?_; intro w3 hO3 hN3))
        refine bodyPost_ret (v := .tuple #[.agg (zp), .int .i64 6]) (results_row_tmp rfl _ _ _ _ _ (0, 0) _ rfl (hO3) Try.underlying26 rfl (rowP (d9 _ _ (zlen8))) _ rfl) rfl (⟨by rw [hV.out], b2.trans (hN3.below.mono (Nat.le_refl _))⟩)
set_option maxRecDepth 100000 in
theorem ppI_odd (s : ByteArray) (w : World) (hm : s.size ≤ maxLen) (h : (s.size : Int) % 2 ≠ 0) :
    Calls Try.prog 19 #[.string s] w fun e w' => e = .returned (.tuple #[.agg zp, .int .i64 6]) ∧ Below w.heap.size w w' := by
  unfold maxLen at hm
  have b : (((s.size : Int) % 2) != 0) = true := by simpa using h
  clear h
  go_enter Try.func19, Try.ntmps19
  go_wp2_with (first
    | (refine wpList_build_of rfl 26 #[] rfl zp ?_ ?_; (exact builtP0)) | (refine wpList_store_own rfl 26 _ _ rfl _ _ rfl rfl 26 _ (Own.new w _ _) (rowP (d9 _ _ (zlen8))) (rfl) (dcells_one _ _) ?_; intro w4 hO4 hN4))
  refine bodyPost_ret (v := .tuple #[.agg (zp), .int .i64 6]) (results_row_tmp rfl _ _ _ _ _ (0, 0) _ rfl (hO4) Try.underlying26 rfl (rowP (d9 _ _ (zlen8))) _ rfl) rfl (⟨rfl, ((Below.refl _ _).alloc (Nat.le_refl _) _).trans (hN4.below.mono (Nat.le_refl _))⟩)
set_option maxRecDepth 100000 in
theorem ppI_long (s : ByteArray) (w : World) (hm : s.size ≤ maxLen) (h : (s.size : Int) % 2 = 0) (h8 : 8 < s.size) :
    Calls Try.prog 19 #[.string s] w fun e w' => e = .returned (.tuple #[.agg zp, .int .i64 6]) ∧ Below w.heap.size w w' := by
  unfold maxLen at hm
  have b : (((s.size : Int) % 2) != 0) = false := by simpa using h
  have hg : (8 : Int) < (s.size : Int) := by omega
  clear h
  go_enter Try.func19, Try.ntmps19
  go_wp2_with (first
    | (refine wpList_build_of rfl 26 #[] rfl zp ?_ ?_; (exact builtP0)) | (refine wpList_store_own rfl 26 _ _ rfl _ _ rfl rfl 26 _ (Own.new w _ _) (rowP (d9 _ _ (zlen8))) (rfl) (dcells_one _ _) ?_; intro w4 hO4 hN4))
  refine bodyPost_ret (v := .tuple #[.agg (zp), .int .i64 6]) (results_row_tmp rfl _ _ _ _ _ (0, 0) _ rfl (hO4) Try.underlying26 rfl (rowP (d9 _ _ (zlen8))) _ rfl) rfl (⟨rfl, ((Below.refl _ _).alloc (Nat.le_refl _) _).trans (hN4.below.mono (Nat.le_refl _))⟩)
set_option maxRecDepth 100000 in
theorem ppS_odd (s : ByteArray) (w : World) (hm : s.size ≤ maxLen) (h : (s.size : Int) % 2 ≠ 0) :
    Calls Try.prog 18 #[.string s] w fun e w' => e = .returned (.tuple #[.agg zp, .int .i64 6]) ∧ Below w.heap.size w w' := by
  unfold maxLen at hm
  have b : (((s.size : Int) % 2) != 0) = true := by simpa using h
  clear h
  go_enter Try.func18, Try.ntmps18
  go_wp2_with (first
    | (refine wpList_build_of rfl 26 #[] rfl zp ?_ ?_; (exact builtP0)) | (refine wpList_store_own rfl 26 _ _ rfl _ _ rfl rfl 26 _ (Own.new w _ _) (rowP (d9 _ _ (zlen8))) (rfl) (dcells_one _ _) ?_; intro w4 hO4 hN4))
  refine bodyPost_ret (v := .tuple #[.agg (zp), .int .i64 6]) (results_row_tmp rfl _ _ _ _ _ (0, 0) _ rfl (hO4) Try.underlying26 rfl (rowP (d9 _ _ (zlen8))) _ rfl) rfl (⟨rfl, ((Below.refl _ _).alloc (Nat.le_refl _) _).trans (hN4.below.mono (Nat.le_refl _))⟩)
set_option maxRecDepth 100000 in
theorem ppS_long (s : ByteArray) (w : World) (hm : s.size ≤ maxLen) (h : (s.size : Int) % 2 = 0) (h8 : 8 < s.size) :
    Calls Try.prog 18 #[.string s] w fun e w' => e = .returned (.tuple #[.agg zp, .int .i64 6]) ∧ Below w.heap.size w w' := by
  unfold maxLen at hm
  have b : (((s.size : Int) % 2) != 0) = false := by simpa using h
  have hg : (8 : Int) < (s.size : Int) := by omega
  clear h
  go_enter Try.func18, Try.ntmps18
  go_wp2_with (first
    | (refine wpList_build_of rfl 26 #[] rfl zp ?_ ?_; (exact builtP0)) | (refine wpList_store_own rfl 26 _ _ rfl _ _ rfl rfl 26 _ (Own.new w _ _) (rowP (d9 _ _ (zlen8))) (rfl) (dcells_one _ _) ?_; intro w4 hO4 hN4))
  refine bodyPost_ret (v := .tuple #[.agg (zp), .int .i64 6]) (results_row_tmp rfl _ _ _ _ _ (0, 0) _ rfl (hO4) Try.underlying26 rfl (rowP (d9 _ _ (zlen8))) _ rfl) rfl (⟨rfl, ((Below.refl _ _).alloc (Nat.le_refl _) _).trans (hN4.below.mono (Nat.le_refl _))⟩)
set_option maxRecDepth 100000 in
set_option maxHeartbeats 1000000 in
theorem ppS_ok (s : ByteArray) (n : Int) (w : World) (hn : (s.size : Int) = 2 * n) (h8 : s.size ≤ 8) :
    Calls Try.prog 18 #[.string s] w fun e w' => e = .returned (ppV s n) ∧ Below w.heap.size w w' := by
  have hq : (s.size : Int) / 2 = n := by omega
  have hm : (((s.size : Int) % 2) != 0) = false := by simp; omega
  have hg : ¬ (8 : Int) < (s.size : Int) := by omega
  have hL := Lib.hid (fun k (h : k ≤ s.size) => ppL_len s.data.toList k (by rw [size_list]; exact h) (by omega))
  have hst := Lib.hid (fun k (h : k < s.size) => ppL_step s.data.toList k s[k] (get_list s k h) (by omega))
  have hz := Lib.hid (ppL_zero s.data.toList)
  have hc := Lib.hid (fun w => isPS_any n (ppL s.data.toList s.size) (hL.out _ (Nat.le_refl _)) (ppL_bytes _ _) w)
  have hno := Lib.hid (fun k (h : k < s.size) (hb : s[k].toNat < 48 ∨ 55 < s[k].toNat) => show ppV s n = .tuple #[.agg zp, .int .i64 6] by
    have := pp_no s.data.toList n (by rw [size_list]; exact h8) k s[k] (get_list s k h) hb
    rw [size_list] at this
    unfold ppV; rw [this]; rfl)
  have hn' := Lib.hid hn
  clear hn
  go_enter Try.func18, Try.ntmps18
  go_wp2_with (first
    | (refine wpList_build_of rfl 26 #[(0, .tmp 18)] rfl (dcells n zer8) ?_ ?_; (exact builtP1 n))
    | (refine wpList_store_own rfl 26 _ _ rfl _ _ rfl rfl 26 _ (Own.at _ _ _ (by first | rfl | simp)) (rowP (d9 _ _ (zlen8))) (by rw [d9 _ _ zlen8]; rfl) (dcells_one _ _) ?_; intro w1 hO1 hN1))
  have hR1 : Own w1 w.heap.size zp 26 := ((Own.new _ _ _).alloc _).only hN1 (by simp <;> omega)
  have hB1 : Below w.heap.size w w1 := (((Below.refl _ _).alloc (Nat.le_refl _) _).alloc (by simp) _).trans (hN1.below.mono (by simp <;> omega))
  clear hN1
  go_loopw [5] (fun i wr => ∃ k : Nat, k ≤ s.size ∧ i = .int .i64 k ∧ Own wr (w.heap.size + 1) (dcells n (ppL s.data.toList k)) 26 ∧ Own wr w.heap.size zp 26 ∧ Below w.heap.size w wr) (fun i _ => ((s.size : Int) - intOf i).toNat)
  case atStart => exact ⟨0, by omega, rfl, by rw [hz.out]; exact hO1, hR1, hB1⟩
  case round =>
    clear hO1 hR1 hB1
    obtain ⟨k, hk, rfl, hO, hR, hB⟩ := hrel
    by_cases hlt : k < s.size
    · have i1 : (k : Int) < (s.size : Int) := by omega
      by_cases b1 : s[k].toNat < 48
      · have hV := Lib.hid (hno.out k hlt (.inl b1))
        have j1 : ((s[k].toNat : Nat) : Int) < 48 := by omega
        go_wp2_with (first
          | (refine wpList_build_of rfl 26 #[] rfl zp ?_ ?_; (exact builtP0))
          | (refine wpList_store_own rfl 26 _ _ rfl _ _ rfl rfl 26 _ (hR) (rowP (d9 _ _ (zlen8))) (rfl) (dcells_one _ _) ?_; intro w3 hO3 hN3))
        refine bodyPost_ret (v := .tuple #[.agg (zp), .int .i64 6]) (results_row_tmp rfl _ _ _ _ _ (0, 0) _ rfl (hO3) Try.underlying26 rfl (rowP (d9 _ _ (zlen8))) _ rfl) rfl (⟨by rw [hV.out], hB.trans (hN3.below.mono (Nat.le_refl _))⟩)
      · have j1 : ¬ ((s[k].toNat : Nat) : Int) < 48 := by omega
        by_cases b2 : 55 < s[k].toNat
        · have hV := Lib.hid (hno.out k hlt (.inr b2))
          have j2 : (55 : Int) < ((s[k].toNat : Nat) : Int) := by omega
          go_wp2_with (first
            | (refine wpList_build_of rfl 26 #[] rfl zp ?_ ?_; (exact builtP0))
            | (refine wpList_store_own rfl 26 _ _ rfl _ _ rfl rfl 26 _ (hR) (rowP (d9 _ _ (zlen8))) (rfl) (dcells_one _ _) ?_; intro w3 hO3 hN3))
          refine bodyPost_ret (v := .tuple #[.agg (zp), .int .i64 6]) (results_row_tmp rfl _ _ _ _ _ (0, 0) _ rfl (hO3) Try.underlying26 rfl (rowP (d9 _ _ (zlen8))) _ rfl) rfl (⟨by rw [hV.out], hB.trans (hN3.below.mono (Nat.le_refl _))⟩)
        · have j2 : ¬ (55 : Int) < ((s[k].toNat : Nat) : Int) := by omega
          have c2 := hO.cell (1 + k)
          rw [dcells_get _ _ _ (by rw [hL.out k hk]; omega)] at c2
          have f2 := hO.free (1 + k)
          have hdg : dg s[k].toNat = (s[k].toNat : Int) - 48 := IntWalk.u8_in _ (by omega)
          have K0 := hO.set (1 + k) (.int .u8 (dg s[k].toNat))
          rw [dcells_set, hst.out k hlt, hdg] at K0
          have K1 := Lib.hid K0
          have K2 := Lib.hid (hR.other (a := ⟨w.heap.size + 1, 1 + k, none⟩) (by simp) (.int .u8 ((s[k].toNat : Int) - 48)))
          have K3 := Lib.hid (hB.setCell (p := ⟨w.heap.size + 1, 1 + k, none⟩) (by simp) (.int .u8 ((s[k].toNat : Int) - 48)))
          clear K0 hO hR hB hdg b1 b2
          generalize (ppL s.data.toList k).getD k 0 = x at *
          go_wp2
          go_roundw
          case rel => exact ⟨k + 1, by omega, by go_num, K1.out, K2.out, K3.out⟩
          case measure => simp [intOf]; omega
    · obtain rfl : k = s.size := by omega
      have hl8 := Lib.hid (hL.out _ (Nat.le_refl _))
      obtain ⟨A, hA⟩ : ∃ A, ppL s.data.toList s.size = A := ⟨_, rfl⟩
      have hA' := Lib.hid hA
      rw [hA] at hO hc hl8
      clear hA hst hz hL hno
      cases hd : isP n A with
      | true =>
        rw [hd] at hc
        have hV := Lib.hid (show ppV s n = .tuple #[.agg (dcells n A), .int .i64 0] by unfold ppV; rw [hA'.out, hd]; rfl)
        clear hd
        go_wp2_with (first
          | (refine wpList_load_row rfl 26 _ rfl _ rfl 26 _ (0, 0) _ (hO) Try.underlying26 rfl (rowP (d9 _ _ (hl8.out))) ?_)
          | (go_at_call 39; ((with_reducible refine (hc.out _).mono ?_); rintro e w2 ⟨rfl, hB2⟩; have hO2 := hO.below hB2 hO.lt; have hR2 := hR.below hB2 hR.lt; have b2 := hB.trans (hB2.mono hB.size); clear hB2))
          | (refine wpList_load_row rfl 26 _ rfl _ rfl 26 _ (0, 0) _ (hO2) Try.underlying26 rfl (rowP (d9 _ _ (hl8.out))) ?_)
          | (refine wpList_store_own rfl 26 _ _ rfl _ _ rfl rfl 26 _ (hR2) (rowP (d9 _ _ (hl8.out))) (z_eq8 (d9 _ _ hl8.out)) (dcells_one _ _) ?_; intro w3 hO3 hN3))
        refine bodyPost_ret (v := .tuple #[.agg (dcells n A), .int .i64 0]) (results_row_tmp rfl _ _ _ _ _ (0, 0) _ rfl (hO3) Try.underlying26 rfl (rowP (d9 _ _ (hl8.out))) _ rfl) rfl (⟨by rw [hV.out], b2.trans (hN3.below.mono (Nat.le_refl _))⟩)
      | false =>
        rw [hd] at hc
        have hV := Lib.hid (show ppV s n = .tuple #[.agg zp, .int .i64 6] by unfold ppV; rw [hA'.out, hd]; rfl)
        clear hd
        go_wp2_with (first
          | (refine wpList_load_row rfl 26 _ rfl _ rfl 26 _ (0, 0) _ (hO) Try.underlying26 rfl (rowP (d9 _ _ (hl8.out))) ?_)
          | (go_at_call 39; ((with_reducible refine (hc.out _).mono ?_); rintro e w2 ⟨rfl, hB2⟩; have hO2 := hO.below hB2 hO.lt; have hR2 := hR.below hB2 hR.lt; have b2 := hB.trans (hB2.mono hB.size); clear hB2))
          | (refine wpList_build_of rfl 26 #[] rfl zp ?_ ?_; (exact builtP0))
          | (refine wpList_store_own rfl 26 _ _ rfl _ _ rfl rfl 26 _ (hR2) (rowP (d9 _ _ (zlen8))) (rfl) (dcells_one _ _) ?_; intro w3 hO3 hN3))
        refine bodyPost_ret (v := .tuple #[.agg (zp), .int .i64 6]) (results_row_tmp rfl _ _ _ _ _ (0, 0) _ rfl (hO3) Try.underlying26 rfl (rowP (d9 _ _ (zlen8))) _ rfl) rfl (⟨by rw [hV.out], b2.trans (hN3.below.mono (Nat.le_refl _))⟩)
theorem parseP_law (s : ByteArray) (w : World) (hm : s.size ≤ maxLen) : Calls Try.prog 5 #[.string s] w fun e w' => e = .returned (.bool true) ∧ Below w.heap.size w w' := by
  by_cases h : s.size ≤ 1048576
  · by_cases h2 : (s.size : Int) % 2 = 0
    · by_cases h8 : s.size ≤ 8
      · have hn : (s.size : Int) = 2 * ((s.size : Int) / 2) := by omega
        have hI := fun w => ppI_ok s _ w hn h8
        have hS := fun w => ppS_ok s _ w hn h8
        unfold ppV at hI hS
        split at hI
        · rename_i hd
          rw [if_pos hd] at hS
          exact ParsePartition_walk s w h _ 0 _ (ppL_len _ _ (by rw [size_list]; exact Nat.le_refl _) h8) hS hI
        · rename_i hd
          rw [if_neg hd] at hS
          exact ParsePartition_walk s w h 0 6 _ zlen8 hS hI
      · exact ParsePartition_walk s w h 0 6 _ zlen8 (fun w => ppS_long s w hm h2 (by omega)) (fun w => ppI_long s w hm h2 (by omega))
    · exact ParsePartition_walk s w h 0 6 _ zlen8 (fun w => ppS_odd s w hm h2) (fun w => ppI_odd s w hm h2)
  · exact parseP_big s w hm (by omega)
end Go.Proofs.Ytjecafjdlfdpcaa
