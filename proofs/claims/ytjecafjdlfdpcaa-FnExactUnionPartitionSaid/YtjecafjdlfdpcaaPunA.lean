/- The law of UnionPartition. -/
import Derived.Test.YtjecafjdlfdpcaaLawPw2
import Derived.Test.YtjecafjdlfdpcaaPfl
import Derived.Test.YtjecafjdlfdpcaaPtx
namespace Go.Proofs.Ytjecafjdlfdpcaa
open Go.RowKit
set_option linter.unusedVariables false
set_option maxRecDepth 100000 in
theorem unI_bad1 (n m : Int) (ms es : List Int) (hms : ms.length = 8) (hb : Bytes ms) (hd : isP n ms = false) (w : World) :
    Calls Try.prog 26 #[.agg (dcells n ms), .agg (dcells m es)] w fun e w' => e = .returned (.tuple #[.agg zp, .int .i64 1]) ∧ Below w.heap.size w w' := by
  have hl := Lib.hid hms
  have hc := Lib.hid (fun w => isPIb_any n ms hms hb w)
  rw [hd] at hc
  clear hms hb hd
  go_enter Try.func26, Try.ntmps26
  go_wp2_with (first
    | (refine wpList_load_row rfl 26 _ rfl _ rfl 26 _ (0, 0) _ (((Own.new _ _ _).alloc _).alloc _) Try.underlying26 rfl (rowP (d9 _ _ (hl.out))) ?_)
    | (go_at_call 15; ((with_reducible refine (hc.out _).mono ?_); rintro e w1 ⟨rfl, hB1⟩; have hA1 : Own w1 w.heap.size (dcells n ms) 26 := (((Own.new _ _ _).alloc _).alloc _).below hB1 (by simp <;> omega); have hA2 : Own w1 (w.heap.size + 1) (dcells m es) 26 := ((Own.at _ _ _ (by simp)).alloc _).below hB1 (by simp <;> omega); have hR1 : Own w1 (w.heap.size + 1 + 1) zp 26 := (Own.at _ _ _ (by simp)).below hB1 (by simp); have hBw : Below w.heap.size w w1 := ((((Below.refl w.heap.size w).alloc (Nat.le_refl _) _).alloc (by simp) _).alloc (by simp <;> omega) _).trans (hB1.mono (by simp <;> omega)); clear hB1))
    | (refine wpList_build_of rfl 26 #[] rfl zp ?_ ?_; (exact builtP0))
    | (refine wpList_store_own rfl 26 _ _ rfl _ _ rfl rfl 26 _ (hR1) (rowP (d9 _ _ (zlen8))) (rfl) (dcells_one _ _) ?_; intro w4 hO4 hN4))
  refine bodyPost_ret (v := .tuple #[.agg (zp), .int .i64 1]) (results_row_tmp rfl _ _ _ _ _ (0, 0) _ rfl (hO4) Try.underlying26 rfl (rowP (d9 _ _ (zlen8))) _ rfl) rfl (⟨rfl, hBw.trans (hN4.below.mono (by omega))⟩)
set_option maxRecDepth 100000 in
set_option maxHeartbeats 1000000 in
theorem unI_bad2 (n m : Int) (ms es : List Int) (hms : ms.length = 8) (hes : es.length = 8) (hb : Bytes ms) (hb2 : Bytes es) (hd : isP n ms = true) (hd2 : isP m es = false) (w : World) :
    Calls Try.prog 26 #[.agg (dcells n ms), .agg (dcells m es)] w fun e w' => e = .returned (.tuple #[.agg zp, .int .i64 1]) ∧ Below w.heap.size w w' := by
  have hl := Lib.hid hms
  have hl2 := Lib.hid hes
  have hc := Lib.hid (fun w => isPIb_any n ms hms hb w)
  have hc2 := Lib.hid (fun w => isPIb_any m es hes hb2 w)
  rw [hd] at hc
  rw [hd2] at hc2
  clear hms hes hb hb2 hd hd2
  go_enter Try.func26, Try.ntmps26
  go_wp2_with (first
    | (refine wpList_load_row rfl 26 _ rfl _ rfl 26 _ (0, 0) _ (((Own.new _ _ _).alloc _).alloc _) Try.underlying26 rfl (rowP (d9 _ _ (hl.out))) ?_)
    | (refine wpList_load_row_if rfl 26 _ rfl _ rfl 26 _ _ (hA2) Try.underlying26 rfl (rowP (d9 _ _ (hl2.out))) ?_)
    | (go_at_call 15; ((with_reducible refine (hc2.out w1).mono ?_); rintro e w2 ⟨rfl, hB2⟩; have hA3 := hA1.below hB2 hA1.lt; have hA4 := hA2.below hB2 hA2.lt; have hR2 := hR1.below hB2 hR1.lt; have hBx : Below w.heap.size w w2 := hBw.trans (hB2.mono hBw.size); have hC3 := hA3.cell 0; rw [dcells_zero] at hC3; have hC4 := hA4.cell 0; rw [dcells_zero] at hC4; clear hA1 hA2 hR1 hBw hB2))
    | (go_at_call 15; ((with_reducible refine (hc.out _).mono ?_); rintro e w1 ⟨rfl, hB1⟩; have hA1 : Own w1 w.heap.size (dcells n ms) 26 := (((Own.new _ _ _).alloc _).alloc _).below hB1 (by simp <;> omega); have hA2 : Own w1 (w.heap.size + 1) (dcells m es) 26 := ((Own.at _ _ _ (by simp)).alloc _).below hB1 (by simp <;> omega); have hR1 : Own w1 (w.heap.size + 1 + 1) zp 26 := (Own.at _ _ _ (by simp)).below hB1 (by simp); have hBw : Below w.heap.size w w1 := ((((Below.refl w.heap.size w).alloc (Nat.le_refl _) _).alloc (by simp) _).alloc (by simp <;> omega) _).trans (hB1.mono (by simp <;> omega)); clear hB1))
    | (refine wpList_build_of rfl 26 #[] rfl zp ?_ ?_; (exact builtP0))
    | (refine wpList_store_own rfl 26 _ _ rfl _ _ rfl rfl 26 _ (hR2) (rowP (d9 _ _ (zlen8))) (rfl) (dcells_one _ _) ?_; intro w4 hO4 hN4))
  refine bodyPost_ret (v := .tuple #[.agg (zp), .int .i64 1]) (results_row_tmp rfl _ _ _ _ _ (0, 0) _ rfl (hO4) Try.underlying26 rfl (rowP (d9 _ _ (zlen8))) _ rfl) rfl (⟨rfl, hBx.trans (hN4.below.mono (by omega))⟩)
set_option maxRecDepth 100000 in
set_option maxHeartbeats 1000000 in
theorem unI_lim (n m : Int) (ms es : List Int) (hms : ms.length = 8) (hes : es.length = 8) (hb : Bytes ms) (hb2 : Bytes es) (hd : isP n ms = true) (hd2 : isP m es = true) (h : 4 < n + m) (w : World) :
    Calls Try.prog 26 #[.agg (dcells n ms), .agg (dcells m es)] w fun e w' => e = .returned (.tuple #[.agg zp, .int .i64 3]) ∧ Below w.heap.size w w' := by
  have hl := Lib.hid hms
  have hl2 := Lib.hid hes
  have hn := isP_n hd
  have hm := isP_n hd2
  obtain ⟨hn1, hn4⟩ := hn
  obtain ⟨hm1, hm4⟩ := hm
  have hc := Lib.hid (fun w => isPIb_any n ms hms hb w)
  have hc2 := Lib.hid (fun w => isPIb_any m es hes hb2 w)
  rw [hd] at hc
  rw [hd2] at hc2
  clear hms hes hb hb2 hd hd2
  go_enter Try.func26, Try.ntmps26
  go_wp2_with (first
    | (refine wpList_load_row rfl 26 _ rfl _ rfl 26 _ (0, 0) _ (((Own.new _ _ _).alloc _).alloc _) Try.underlying26 rfl (rowP (d9 _ _ (hl.out))) ?_)
    | (refine wpList_load_row_if rfl 26 _ rfl _ rfl 26 _ _ (hA2) Try.underlying26 rfl (rowP (d9 _ _ (hl2.out))) ?_)
    | (go_at_call 15; ((with_reducible refine (hc2.out w1).mono ?_); rintro e w2 ⟨rfl, hB2⟩; have hA3 := hA1.below hB2 hA1.lt; have hA4 := hA2.below hB2 hA2.lt; have hR2 := hR1.below hB2 hR1.lt; have hBx : Below w.heap.size w w2 := hBw.trans (hB2.mono hBw.size); have hC3 := hA3.cell 0; rw [dcells_zero] at hC3; have hC4 := hA4.cell 0; rw [dcells_zero] at hC4; clear hA1 hA2 hR1 hBw hB2))
    | (go_at_call 15; ((with_reducible refine (hc.out _).mono ?_); rintro e w1 ⟨rfl, hB1⟩; have hA1 : Own w1 w.heap.size (dcells n ms) 26 := (((Own.new _ _ _).alloc _).alloc _).below hB1 (by simp <;> omega); have hA2 : Own w1 (w.heap.size + 1) (dcells m es) 26 := ((Own.at _ _ _ (by simp)).alloc _).below hB1 (by simp <;> omega); have hR1 : Own w1 (w.heap.size + 1 + 1) zp 26 := (Own.at _ _ _ (by simp)).below hB1 (by simp); have hBw : Below w.heap.size w w1 := ((((Below.refl w.heap.size w).alloc (Nat.le_refl _) _).alloc (by simp) _).alloc (by simp <;> omega) _).trans (hB1.mono (by simp <;> omega)); clear hB1)))
  go_quiet (fail)
  have hR3 := hR2.drewN nq
  have hBy := Below.drewN hBx nq
  clear hA3 hA4 hC3 hC4 hR2 hBx
  go_wp2_with (first
    | (refine wpList_build_of rfl 26 #[] rfl zp ?_ ?_; (exact builtP0))
    | (refine wpList_store_own rfl 26 _ _ rfl _ _ rfl rfl 26 _ (hR3) (rowP (d9 _ _ (zlen8))) (rfl) (dcells_one _ _) ?_; intro w4 hO4 hN4))
  refine bodyPost_ret (v := .tuple #[.agg (zp), .int .i64 3]) (results_row_tmp rfl _ _ _ _ _ (0, 0) _ rfl (hO4) Try.underlying26 rfl (rowP (d9 _ _ (zlen8))) _ rfl) rfl (⟨rfl, hBy.trans (hN4.below.mono (by omega))⟩)
set_option maxRecDepth 100000 in
theorem unS_bad1 (n m : Int) (ms es : List Int) (hms : ms.length = 8) (hb : Bytes ms) (hd : isP n ms = false) (w : World) :
    Calls Try.prog 25 #[.agg (dcells n ms), .agg (dcells m es)] w fun e w' => e = .returned (.tuple #[.agg zp, .int .i64 1]) ∧ Below w.heap.size w w' := by
  have hl := Lib.hid hms
  have hc := Lib.hid (fun w => isPS_any n ms hms hb w)
  rw [hd] at hc
  clear hms hb hd
  go_enter Try.func25, Try.ntmps25
  go_wp2_with (first
    | (refine wpList_load_row rfl 26 _ rfl _ rfl 26 _ (0, 0) _ (((Own.new _ _ _).alloc _).alloc _) Try.underlying26 rfl (rowP (d9 _ _ (hl.out))) ?_)
    | (go_at_call 39; ((with_reducible refine (hc.out _).mono ?_); rintro e w1 ⟨rfl, hB1⟩; have hA1 : Own w1 w.heap.size (dcells n ms) 26 := (((Own.new _ _ _).alloc _).alloc _).below hB1 (by simp <;> omega); have hA2 : Own w1 (w.heap.size + 1) (dcells m es) 26 := ((Own.at _ _ _ (by simp)).alloc _).below hB1 (by simp <;> omega); have hR1 : Own w1 (w.heap.size + 1 + 1) zp 26 := (Own.at _ _ _ (by simp)).below hB1 (by simp); have hBw : Below w.heap.size w w1 := ((((Below.refl w.heap.size w).alloc (Nat.le_refl _) _).alloc (by simp) _).alloc (by simp <;> omega) _).trans (hB1.mono (by simp <;> omega)); clear hB1))
    | (refine wpList_build_of rfl 26 #[] rfl zp ?_ ?_; (exact builtP0))
    | (refine wpList_store_own rfl 26 _ _ rfl _ _ rfl rfl 26 _ (hR1) (rowP (d9 _ _ (zlen8))) (rfl) (dcells_one _ _) ?_; intro w4 hO4 hN4))
  refine bodyPost_ret (v := .tuple #[.agg (zp), .int .i64 1]) (results_row_tmp rfl _ _ _ _ _ (0, 0) _ rfl (hO4) Try.underlying26 rfl (rowP (d9 _ _ (zlen8))) _ rfl) rfl (⟨rfl, hBw.trans (hN4.below.mono (by omega))⟩)
set_option maxRecDepth 100000 in
set_option maxHeartbeats 1000000 in
theorem unS_bad2 (n m : Int) (ms es : List Int) (hms : ms.length = 8) (hes : es.length = 8) (hb : Bytes ms) (hb2 : Bytes es) (hd : isP n ms = true) (hd2 : isP m es = false) (w : World) :
    Calls Try.prog 25 #[.agg (dcells n ms), .agg (dcells m es)] w fun e w' => e = .returned (.tuple #[.agg zp, .int .i64 1]) ∧ Below w.heap.size w w' := by
  have hl := Lib.hid hms
  have hl2 := Lib.hid hes
  have hc := Lib.hid (fun w => isPS_any n ms hms hb w)
  have hc2 := Lib.hid (fun w => isPS_any m es hes hb2 w)
  rw [hd] at hc
  rw [hd2] at hc2
  clear hms hes hb hb2 hd hd2
  go_enter Try.func25, Try.ntmps25
  go_wp2_with (first
    | (refine wpList_load_row rfl 26 _ rfl _ rfl 26 _ (0, 0) _ (((Own.new _ _ _).alloc _).alloc _) Try.underlying26 rfl (rowP (d9 _ _ (hl.out))) ?_)
    | (refine wpList_load_row_if rfl 26 _ rfl _ rfl 26 _ _ (hA2) Try.underlying26 rfl (rowP (d9 _ _ (hl2.out))) ?_)
    | (go_at_call 39; ((with_reducible refine (hc2.out w1).mono ?_); rintro e w2 ⟨rfl, hB2⟩; have hA3 := hA1.below hB2 hA1.lt; have hA4 := hA2.below hB2 hA2.lt; have hR2 := hR1.below hB2 hR1.lt; have hBx : Below w.heap.size w w2 := hBw.trans (hB2.mono hBw.size); have hC3 := hA3.cell 0; rw [dcells_zero] at hC3; have hC4 := hA4.cell 0; rw [dcells_zero] at hC4; clear hA1 hA2 hR1 hBw hB2))
    | (go_at_call 39; ((with_reducible refine (hc.out _).mono ?_); rintro e w1 ⟨rfl, hB1⟩; have hA1 : Own w1 w.heap.size (dcells n ms) 26 := (((Own.new _ _ _).alloc _).alloc _).below hB1 (by simp <;> omega); have hA2 : Own w1 (w.heap.size + 1) (dcells m es) 26 := ((Own.at _ _ _ (by simp)).alloc _).below hB1 (by simp <;> omega); have hR1 : Own w1 (w.heap.size + 1 + 1) zp 26 := (Own.at _ _ _ (by simp)).below hB1 (by simp); have hBw : Below w.heap.size w w1 := ((((Below.refl w.heap.size w).alloc (Nat.le_refl _) _).alloc (by simp) _).alloc (by simp <;> omega) _).trans (hB1.mono (by simp <;> omega)); clear hB1))
    | (refine wpList_build_of rfl 26 #[] rfl zp ?_ ?_; (exact builtP0))
    | (refine wpList_store_own rfl 26 _ _ rfl _ _ rfl rfl 26 _ (hR2) (rowP (d9 _ _ (zlen8))) (rfl) (dcells_one _ _) ?_; intro w4 hO4 hN4))
  refine bodyPost_ret (v := .tuple #[.agg (zp), .int .i64 1]) (results_row_tmp rfl _ _ _ _ _ (0, 0) _ rfl (hO4) Try.underlying26 rfl (rowP (d9 _ _ (zlen8))) _ rfl) rfl (⟨rfl, hBx.trans (hN4.below.mono (by omega))⟩)
set_option maxRecDepth 100000 in
set_option maxHeartbeats 1000000 in
theorem unS_lim (n m : Int) (ms es : List Int) (hms : ms.length = 8) (hes : es.length = 8) (hb : Bytes ms) (hb2 : Bytes es) (hd : isP n ms = true) (hd2 : isP m es = true) (h : 4 < n + m) (w : World) :
    Calls Try.prog 25 #[.agg (dcells n ms), .agg (dcells m es)] w fun e w' => e = .returned (.tuple #[.agg zp, .int .i64 3]) ∧ Below w.heap.size w w' := by
  have hl := Lib.hid hms
  have hl2 := Lib.hid hes
  have hn := isP_n hd
  have hm := isP_n hd2
  obtain ⟨hn1, hn4⟩ := hn
  obtain ⟨hm1, hm4⟩ := hm
  have hc := Lib.hid (fun w => isPS_any n ms hms hb w)
  have hc2 := Lib.hid (fun w => isPS_any m es hes hb2 w)
  rw [hd] at hc
  rw [hd2] at hc2
  clear hms hes hb hb2 hd hd2
  go_enter Try.func25, Try.ntmps25
  go_wp2_with (first
    | (refine wpList_load_row rfl 26 _ rfl _ rfl 26 _ (0, 0) _ (((Own.new _ _ _).alloc _).alloc _) Try.underlying26 rfl (rowP (d9 _ _ (hl.out))) ?_)
    | (refine wpList_load_row_if rfl 26 _ rfl _ rfl 26 _ _ (hA2) Try.underlying26 rfl (rowP (d9 _ _ (hl2.out))) ?_)
    | (go_at_call 39; ((with_reducible refine (hc2.out w1).mono ?_); rintro e w2 ⟨rfl, hB2⟩; have hA3 := hA1.below hB2 hA1.lt; have hA4 := hA2.below hB2 hA2.lt; have hR2 := hR1.below hB2 hR1.lt; have hBx : Below w.heap.size w w2 := hBw.trans (hB2.mono hBw.size); have hC3 := hA3.cell 0; rw [dcells_zero] at hC3; have hC4 := hA4.cell 0; rw [dcells_zero] at hC4; clear hA1 hA2 hR1 hBw hB2))
    | (go_at_call 39; ((with_reducible refine (hc.out _).mono ?_); rintro e w1 ⟨rfl, hB1⟩; have hA1 : Own w1 w.heap.size (dcells n ms) 26 := (((Own.new _ _ _).alloc _).alloc _).below hB1 (by simp <;> omega); have hA2 : Own w1 (w.heap.size + 1) (dcells m es) 26 := ((Own.at _ _ _ (by simp)).alloc _).below hB1 (by simp <;> omega); have hR1 : Own w1 (w.heap.size + 1 + 1) zp 26 := (Own.at _ _ _ (by simp)).below hB1 (by simp); have hBw : Below w.heap.size w w1 := ((((Below.refl w.heap.size w).alloc (Nat.le_refl _) _).alloc (by simp) _).alloc (by simp <;> omega) _).trans (hB1.mono (by simp <;> omega)); clear hB1))
    | (refine wpList_build_of rfl 26 #[] rfl zp ?_ ?_; (exact builtP0))
    | (refine wpList_store_own rfl 26 _ _ rfl _ _ rfl rfl 26 _ (hR2) (rowP (d9 _ _ (zlen8))) (rfl) (dcells_one _ _) ?_; intro w4 hO4 hN4))
  refine bodyPost_ret (v := .tuple #[.agg (zp), .int .i64 3]) (results_row_tmp rfl _ _ _ _ _ (0, 0) _ rfl (hO4) Try.underlying26 rfl (rowP (d9 _ _ (zlen8))) _ rfl) rfl (⟨rfl, hBx.trans (hN4.below.mono (by omega))⟩)
end Go.Proofs.Ytjecafjdlfdpcaa
